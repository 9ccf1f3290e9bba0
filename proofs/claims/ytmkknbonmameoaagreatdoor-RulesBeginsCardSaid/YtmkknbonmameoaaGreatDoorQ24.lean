import Derived.Test.YtmkknbonmameoaaGreatDoorQ5
import Derived.Test.YtmkknbonmameoaaGreatDoorQ13
import Derived.Test.YtmkknbonmameoaaGreatDoorQ23
import Derived.Test.YtmkknbonmameoaaGreatDoorQ12
import Derived.Test.YtmkknbonmameoaaGreatDoorQ17
-- holds: YtmkknbonmameoaaGreatDoorHZm YtmkknbonmameoaaGreatDoorHZn YtmkknbonmameoaaGreatDoorHZo
namespace Go.Proofs.YtmkknbonmameoaaGreatDoor
open Go.RowKit Go.Shelf
structure LookZ (m:HistM) (wr:SH) (rows:List SH) (Bl B:Nat) (X:World):Prop where
 blk:Blk X Bl 88 #[.slice m.tr.1.A m.tr.1.n m.tr.1.c,.slice m.se.1.A m.se.1.n m.se.1.c,.slice m.ob.1.A m.ob.1.n m.ob.1.c,.slice m.pr.1.A m.pr.1.n m.pr.1.c,.slice m.ev.1.A m.ev.1.n m.ev.1.c,.slice m.od.1.A m.od.1.n m.od.1.c,.slice m.ma.1.A m.ma.1.n m.ma.1.c,.slice m.wa.1.A m.wa.1.n m.wa.1.c,.slice wr.A wr.n wr.c]
 lt:Bl<B
 rd:HRd X B m
 ws:Reads X B 1 wr.A wr.n (rows.flatMap slCs)
 len:rows.length=m.pl.ob.length
 row:∀ (x:Nat) (r:SH),rows[x]?=some r→r.n=(ruWriters m.pl (x:Int)).length∧Reads X B 1 r.A r.n (ints (ruWriters m.pl (x:Int)))
section
variable {m : HistM} {wr : SH} {rows : List SH} {Bl B B' : Nat} {X Y : World}
theorem LookZ.on (h:LookZ m wr rows Bl B X) (hb:Below B X Y):LookZ m wr rows Bl B Y :=
 ⟨h.blk.below hb h.lt,h.lt,h.rd.on hb,h.ws.below hb,h.len,fun x r hx=>⟨(h.row x r hx).1,(h.row x r hx).2.below hb⟩⟩
theorem LookZ.more (h:LookZ m wr rows Bl B X) (hB:B≤B'):LookZ m wr rows Bl B' X :=
 ⟨h.blk,Nat.lt_of_lt_of_le h.lt hB,h.rd.more hB,h.ws.more hB,h.len,fun x r hx=>⟨(h.row x r hx).1,(h.row x r hx).2.more hB⟩⟩
theorem LookZ.rows_len (h:LookZ m wr rows Bl B X):rows.length=wr.n:=reads_len_s slCs_len (by omega) h.ws
theorem LookZ.at_ (h:LookZ m wr rows Bl B X) {x:Nat} (hx:x<m.pl.ob.length):∃ (r:SH) (b o:Nat),rows[x]?=some r∧wr.A=some ⟨b,o,none⟩∧b<B∧X.cell? ⟨b,o+x,none⟩=some (.slice r.A r.n r.c)∧x<wr.n:=by
 have hl:=h.rows_len
 have hxl:x<rows.length:=by rw[h.len];exact hx
 obtain⟨b,o,hA,hb,hc⟩:=row_cells slCs_len (by omega) h.ws (List.getElem?_eq_getElem hxl)
 refine⟨rows[x],b,o,List.getElem?_eq_getElem hxl,hA,hb,?_,by omega⟩
 have h9:=hc 0 _ rfl
 rwa [show o+(x * 1+0)=o+x by omega] at h9
end
def lfF (ws ts:List Int) (i:Nat) (u:Nat):Bool:=decide ((u:Int)∈ws)&&!decide ((u:Int)∈ts.take i)
def wrF (ws:List Int) (i:Nat) (u:Nat):Bool:=decide ((u:Int)∈ws.take i)
set_option maxRecDepth 100000 in
set_option maxHeartbeats 8000000 in
theorem once_any (m:HistM) (wr:SH) (rows:List SH) (Bl B xn:Nat) (hx:xn<m.pl.ob.length) (htr:m.pl.tr.length≤300) (A:Option Addr) (n c:Nat) (ts:List Int) (hn:n≤1000000) (ht:∀ t∈ts,0≤t∧t<300) (W:World) (hL:LookZ m wr rows Bl B W) (hB:B≤W.heap.size) (hR:Reads W W.heap.size 1 A n (ints ts)) :
 Calls Tryz.prog 106 #[.pointer (some ⟨Bl,0,none⟩),.int .i64 (xn:Int),.slice A n c] W fun r W'=>r=.returned (.bool (ruSome ts (ruWriters m.pl (xn:Int))))∧Below W.heap.size W W':=by
 obtain⟨r,b,o,hrow,hA,hb,hc,hxn⟩:=hL.at_ hx
 obtain⟨hrn,hRW⟩:=hL.row xn r hrow
 obtain⟨ws,hws⟩:∃ ws,ruWriters m.pl (xn:Int)=ws:=⟨_,rfl⟩
 have hin:∀ u∈ws,0≤u∧u<300:=fun u hu=>by rw[← hws] at hu;have:=wr_inZ hu;omega
 have hwl:ws.length≤300:=by rw[← hws];exact Nat.le_trans (writers_len _ _) htr
 rw[hws] at hrn hRW ⊢
 have B1:Hid (Below W.heap.size W (W.alloc (.cells Tryz.zeroCells149 149))):=(Below.refl _ _).alloc (Nat.le_refl _) _
 have KN:=zh (Blk.new W 149 Tryz.zeroCells149)
 have HRW:Hid (∀ X,Below W.heap.size W X→Reads X X.heap.size 1 r.A r.n (ints ws)):=fun X h=>(hRW.below (h.mono hB)).more (Nat.le_trans hB h.size)
 have HR:Hid (∀ X,Below W.heap.size W X→Reads X X.heap.size 1 A n (ints ts)):=fun X h=>(hR.below h).more h.size
 have HIN:=zh hin
 have HT:=zh ht
 have HWL:Hid (ws.length=r.n):=hrn.symm
 have HTL:Hid (ts.length=n):=ints_len hR
 have x8:(W.alloc (.cells Tryz.zeroCells149 149)).cell? ⟨Bl,8,none⟩=some (.slice wr.A wr.n wr.c):=(hL.blk.below B1.out (Nat.lt_of_lt_of_le hL.lt hB)).cell 8
 have c0:(W.alloc (.cells Tryz.zeroCells149 149)).cell? ⟨b,o+xn,none⟩=some (.slice r.A r.n r.c):=(B1.out.cell (p:=⟨b,o+xn,none⟩) (Nat.lt_of_lt_of_le hb hB)).trans hc
 have hlt:(xn:Int)<(wr.n:Int):=by omega
 have hrn3:r.n≤300:=by omega
 rw[hA] at x8
 clear hin ht hR hRW hL hB hb hc hrow hrn hA hws hx htr
 go_enter Tryz.func106,Tryz.ntmps106
 go_upto_region 2 with fail
 obtain⟨Bn,hBn⟩:∃ Bn,Bn=W.heap.size:=⟨_,rfl⟩
 rw[← hBn] at KN ⊢
 have HBN:Hid (Bn=W.heap.size):=hBn
 generalize hW1:(W.alloc (.cells Tryz.zeroCells149 149))=W1 at *
 clear hW1 hBn
 have KN0:Hid (Blk W1 Bn 149 (boolsZ (bsZ (wrF ws 0) 300)).toArray):=by
  have h9:=KN.out
  rw[zeroZ,bsZ_none] at h9
  have e:(fun _:Nat=>false)=wrF ws 0:=by funext u;simp[wrF]
  rwa [e] at h9
 clear KN
 obtain⟨rn,hrn⟩:∃ rn,r.n=rn:=⟨_,rfl⟩
 rw[hrn] at HWL c0 hrn3
 have HRN:Hid (r.n=rn):=hrn
 clear hrn
 go_wp2_with fail
 clear x8 c0 hlt
 go_loopw [20] (fun v wx=>∃ i:Nat,v=.int .i64 i∧i≤rn∧Hid (Below W.heap.size W wx)∧Hid (Blk wx Bn 149 (boolsZ (bsZ (wrF ws i) 300)).toArray)) (fun v _=>rn - (intOf v).toNat)
 case atStart=>exact⟨0,rfl,Nat.zero_le _,B1,KN0⟩
 clear B1 KN0
 obtain⟨i,rfl,hin,B1,KN⟩:=hrel
 by_cases hin2:i<rn
 ·have hlt:(i:Int)<(rn:Int):=by omega
  obtain⟨u,hu⟩:∃ u,ws[i]?=some u:=⟨ws[i]'(by rw[HWL.out];exact hin2),List.getElem?_eq_getElem _⟩
  have hui:=HIN.out u (List.mem_of_getElem? hu)
  obtain⟨un,rfl⟩:∃ un:Nat,u=(un:Int):=⟨u.toNat,by omega⟩
  obtain⟨b2,o2,hA2,_,hc2⟩:=int_at (HRW.out _ B1.out) hu
  rw[hA2]
  have hul:(un:Int)<300:=by omega
  have f0:=KN.out.frozen un
  have y0:=KN.out.boolT_at (bsZ_get (show un<300 by omega))
  have KN2:Hid (Blk (wr.setCell ⟨Bn,un,none⟩ (.bool true)) Bn 149 (boolsZ (bsZ (wrF ws (i+1)) 300)).toArray):=by
   have h9:=KN.out.boolT (tn:=un) true
   rwa [bsZ_set (g:=wrF ws (i+1)) (by unfold wrF;rw[takeZ hu];simp) (fun v hv hne=>by unfold wrF;rw[takeZ hu];have:¬(v:Int)=(un:Int):=fun e=>hne (by omega);simp[this])] at h9
  have B2:Hid (Below W.heap.size W (wr.setCell ⟨Bn,un,none⟩ (.bool true))):=B1.out.setCell (p:=⟨Bn,un,none⟩) (by show W.heap.size≤Bn;rw[HBN.out];exact Nat.le_refl _) _
  clear hu hui B1 KN
  go_wp2_with fail
  go_roundw
  case rel=>exact⟨i+1,by go_num,hin2,B2,KN2⟩
  case measure=>simp[intOf];omega
 have hge:¬(i:Int)<(rn:Int):=by omega
 obtain rfl:i=rn:=by omega
 have KN2:Hid (Blk wr Bn 149 (boolsZ (bsZ (lfF ws ts 0) 300)).toArray):=by
  have h9:=KN.out
  rwa [bsZ_ext (g:=lfF ws ts 0) (fun u _=>by unfold wrF lfF;rw[List.take_of_length_le (by rw[HWL.out];exact Nat.le_refl _)];simp)] at h9
 have HS0:Hid (somK ts ws 0):=⟨by simp,fun t ht=>by simp at ht⟩
 clear KN hin hin2
 go_wp2_with fail
 go_loopw [29] (fun v wx=>∃ i:Nat,v=.int .i64 i∧i≤n∧Hid (Below W.heap.size W wx)∧Hid (Blk wx Bn 149 (boolsZ (bsZ (lfF ws ts i) 300)).toArray)∧Hid (somK ts ws i)) (fun v _=>n - (intOf v).toNat)
 case atStart=>exact⟨0,rfl,Nat.zero_le _,B1,KN2,HS0⟩
 clear B1 KN2 HS0
 obtain⟨i,rfl,hin,B1,KN,HSK⟩:=hrel
 by_cases hin2:i<n
 ·have hlt:(i:Int)<(n:Int):=by omega
  obtain⟨u,hu⟩:∃ u,ts[i]?=some u:=⟨ts[i]'(by rw[HTL.out];exact hin2),List.getElem?_eq_getElem _⟩
  have hui:=HT.out u (List.mem_of_getElem? hu)
  obtain⟨un,rfl⟩:∃ un:Nat,u=(un:Int):=⟨u.toNat,by omega⟩
  obtain⟨b2,o2,hA2,_,hc2⟩:=int_at (HR.out _ B1.out) hu
  rw[hA2]
  have hul:(un:Int)<300:=by omega
  have f0:=KN.out.frozen un
  have y0:=KN.out.boolT_at (bsZ_get (show un<300 by omega))
  cases hl:lfF ws ts i un
  ·rw[hl] at y0
   have HF:Hid (ruSome ts ws=false):=by
    show _=_
    unfold lfF at hl
    rw[Bool.and_eq_false_iff] at hl
    rcases hl with h1 | h1
    ·exact some_out hu (by simpa using h1)
    exact some_twice hu (by simpa using h1)
   clear hu hui hl HSK
   go_wp2_with fail
   go_ret
   exact⟨by rw[HF.out];rfl,B1.out⟩
  rw[hl] at y0
  have HSK2:Hid (somK ts ws (i+1)):=by
   unfold lfF at hl
   rw[Bool.and_eq_true] at hl
   exact HSK.out.next hu (by simpa using hl.1) (by simpa using hl.2)
  have KN2:Hid (Blk (wr.setCell ⟨Bn,un,none⟩ (.bool false)) Bn 149 (boolsZ (bsZ (lfF ws ts (i+1)) 300)).toArray):=by
   have h9:=KN.out.boolT (tn:=un) false
   rwa [bsZ_set (g:=lfF ws ts (i+1)) (by unfold lfF;rw[takeZ hu];simp) (fun v hv hne=>by unfold lfF;rw[takeZ hu];have:¬(v:Int)=(un:Int):=fun e=>hne (by omega);simp[this])] at h9
  have B2:Hid (Below W.heap.size W (wr.setCell ⟨Bn,un,none⟩ (.bool false))):=B1.out.setCell (p:=⟨Bn,un,none⟩) (by show W.heap.size≤Bn;rw[HBN.out];exact Nat.le_refl _) _
  clear hu hui B1 KN HSK hl
  go_wp2_with fail
  go_roundw
  case rel=>exact⟨i+1,by go_num,hin2,B2,KN2,HSK2⟩
  case measure=>simp[intOf];omega
 have hge:¬(i:Int)<(n:Int):=by omega
 obtain rfl:i=n:=by omega
 have HF:Hid (ruSome ts ws=true):=some_all HSK.out HTL.out
 go_wp2_with fail
 go_ret
 exact⟨by rw[HF.out];rfl,B1.out⟩
structure ToldI (Bt Bx M:Nat) (ks:List (Int)) (X:World):Prop where
 fn:Blk X Bt 139 #[.func (.func 138) #[] #[.pointer (some ⟨Bx,0,none⟩)]]
 box:Blk X Bx 185 #[.map (some M)]
 map:CntM 3 keyI okI M ks X
theorem ToldI.keep {Bt Bx M:Nat} {ks ks2:List (Int)} {X Y:World} (h:ToldI Bt Bx M ks X) (hk:Keep (fun j=>j≠M) X Y) (hm:CntM 3 keyI okI M ks2 Y):ToldI Bt Bx M ks2 Y :=
 ⟨hk.blk h.fn (h.map.blk_ne h.fn),hk.blk h.box (h.map.blk_ne h.box),hm⟩
theorem ToldI.on {Bt Bx M:Nat} {ks:List (Int)} {X Y:World} (h:ToldI Bt Bx M ks X) (hb:Below X.heap.size X Y):ToldI Bt Bx M ks Y :=
 ⟨h.fn.below hb h.fn.lt,h.box.below hb h.box.lt,h.map.on hb⟩
structure ToldP (Bt Bx M:Nat) (ks:List (Int × Int)) (X:World):Prop where
 fn:Blk X Bt 156 #[.func (.func 141) #[] #[.pointer (some ⟨Bx,0,none⟩)]]
 box:Blk X Bx 186 #[.map (some M)]
 map:CntM 159 keyZ okZ M ks X
theorem ToldP.keep {Bt Bx M:Nat} {ks ks2:List (Int × Int)} {X Y:World} (h:ToldP Bt Bx M ks X) (hk:Keep (fun j=>j≠M) X Y) (hm:CntM 159 keyZ okZ M ks2 Y):ToldP Bt Bx M ks2 Y :=
 ⟨hk.blk h.fn (h.map.blk_ne h.fn),hk.blk h.box (h.map.blk_ne h.box),hm⟩
theorem ToldP.on {Bt Bx M:Nat} {ks:List (Int × Int)} {X Y:World} (h:ToldP Bt Bx M ks X) (hb:Below X.heap.size X Y):ToldP Bt Bx M ks Y :=
 ⟨h.fn.below hb h.fn.lt,h.box.below hb h.box.lt,h.map.on hb⟩
theorem LookZ.keep {m:HistM} {wr:SH} {rows:List SH} {Bl N M:Nat} {X Y:World} (h:LookZ m wr rows Bl N X) (hk:Keep (fun j=>j≠M) X Y) (hN:N≤M) (hX:N≤X.heap.size):LookZ m wr rows Bl N Y:=h.on (hk.below hX fun k h=>by omega)
set_option maxRecDepth 100000 in
set_option maxHeartbeats 8000000 in
theorem matched1_any (m:HistM) (wr:SH) (rows:List SH) (Bl N:Nat) (e:MatP) (hd:SH) (ks:List (Int × Int)) (Bt Bp Bx M:Nat) (W:World) (htr:m.pl.tr.length≤300) (hp:okZ (e.p,e.o)) (hks:ks.length≤1000000) (hn:hd.n≤1000000) (ho:0≤e.o∧e.o<m.pl.ob.length) (hts:∀ t∈e.ts,0≤t∧t<300)
 (hT:ToldP Bt Bx M ks W) (hP:Blk W Bp 76 #[.pointer (some ⟨Bl,0,none⟩)]) (hL:LookZ m wr rows Bl N W) (hR:Reads W N 1 hd.A hd.n (ints e.ts)) (hN:N≤M) :
 Calls Tryz.prog 112 #[.agg #[.int .i64 e.p,.int .i64 e.o,.bool e.fi,.slice hd.A hd.n hd.c],.pointer (some ⟨Bt,0,none⟩),.pointer (some ⟨Bp,0,none⟩)] W fun r W'=>r=.returned (.bool (decide ((e.p,e.o)∈ks) || !ruSome e.ts (ruWriters m.pl e.o)))∧ToldP Bt Bx M (ks++[(e.p,e.o)]) W'∧Keep (fun j=>j≠M) W W':=by
 have b0:Below W.heap.size W (W.alloc (.cells #[.int .i64 e.p,.int .i64 e.o,.bool e.fi,.slice hd.A hd.n hd.c] 69)):=(Below.refl _ _).alloc (Nat.le_refl _) _
 have KX:=zh (Blk.new W 69 #[.int .i64 e.p,.int .i64 e.o,.bool e.fi,.slice hd.A hd.n hd.c])
 have KT:=zh (hT.on b0)
 have KP:=zh (hP.below b0 hP.lt)
 have HMW:Hid (M<W.heap.size):=hT.map.lt
 have KL:Hid (LookZ m wr rows Bl N (W.alloc (.cells #[.int .i64 e.p,.int .i64 e.o,.bool e.fi,.slice hd.A hd.n hd.c] 69))):=hL.on (b0.mono (by have:=hT.map.lt;omega))
 have K0:Hid (Keep (fun j=>j≠M) W (W.alloc (.cells #[.int .i64 e.p,.int .i64 e.o,.bool e.fi,.slice hd.A hd.n hd.c] 69))):=Keep.of_all _ b0
 have HBP:Hid (Bp≠M):=hT.map.blk_ne hP
 have HXM:Hid (W.heap.size≠M):=by have:=hT.map.lt;show _≠_;omega
 have HR:Hid (∀ X,Keep (fun j=>j≠M) W X→Reads X X.heap.size 1 hd.A hd.n (ints e.ts)):=fun X h=>(h.reads hR (Nat.le_trans hN (Nat.le_of_lt hT.map.lt)) (fun k hk e=>by omega)).more (by have:=h.size;have:=hT.map.lt;omega)
 have HO:=zh ho
 have HTS:=zh hts
 have HKP:Hid (okZ (e.p,e.o)):=hp
 have HSZ:Hid (N≤(W.alloc (.cells #[.int .i64 e.p,.int .i64 e.o,.bool e.fi,.slice hd.A hd.n hd.c] 69)).heap.size):=by show _≤_;have:=b0.size;have:=hT.map.lt;omega
 clear hT hP hL b0 hR ho hts hp
 go_enter Tryz.func112,Tryz.ntmps112
 go_upto_region 1 with fail
 obtain⟨X,hX⟩:∃ X,W.heap.size=X:=⟨_,rfl⟩
 rw[hX] at KX HXM ⊢
 clear hX
 generalize (W.alloc (.cells #[.int .i64 e.p,.int .i64 e.o,.bool e.fi,.slice hd.A hd.n hd.c] 69))=W0 at *
 have x0:=KX.out.cell 0
 have x1:=KX.out.cell 1
 have t0:=KT.out.fn.cell 0
 have HC:=zh (againP1_any e.p e.o ks Bx M W0 HKP.out (by omega) KT.out.box KT.out.map)
 obtain⟨tb,htb⟩:∃ tb,decide ((e.p,e.o)∈ks)=tb:=⟨_,rfl⟩
 rw[htb] at HC
 have HTB:=zh htb
 clear htb
 cases tb
 ·go_wp2_with fail
  refine HC.out.mono ?_
  rintro r w3 ⟨rfl,hm3,hk3⟩
  have KT3:=zh (KT.out.keep hk3 hm3)
  have KP3:=zh (hk3.blk KP.out HBP.out)
  have KX3:=zh (hk3.blk KX.out HXM.out)
  have KL3:=zh (KL.out.keep hk3 hN HSZ.out)
  have K3:=zh (K0.out.trans hk3)
  have HSZ3:Hid (N≤w3.heap.size):=Nat.le_trans HSZ.out hk3.size
  clear hm3 hk3 HC KT KP KX KL K0 x0 x1 t0
  have x1:=KX3.out.cell 1
  have x3:=KX3.out.cell 3
  have p0:=KP3.out.cell 0
  obtain⟨xn,hxn⟩:∃ xn:Nat,e.o=(xn:Int):=⟨e.o.toNat,by have:=HO.out;omega⟩
  have HON:=zh hxn
  have HCO:=zh (once_any m wr rows Bl N xn (by have:=HO.out;omega) htr hd.A hd.n hd.c e.ts hn HTS.out w3 KL3.out HSZ3.out (HR.out w3 K3.out))
  rw[← hxn] at HCO
  clear hxn
  go_wp2_with fail
  refine HCO.out.mono ?_
  rintro r w4 ⟨rfl,hb4⟩
  have KT4:=zh (KT3.out.on hb4)
  have K4:=zh (K3.out.trans (Keep.of_all _ hb4))
  clear hb4 HCO KT3 K3 KP3 KX3 KL3 x1 x3 p0
  go_wp2_with fail
  go_ret
  exact⟨by rw[HTB.out];rfl,KT4.out,K4.out⟩
 go_wp2_with fail
 refine HC.out.mono ?_
 rintro r w3 ⟨rfl,hm3,hk3⟩
 have KT3:=zh (KT.out.keep hk3 hm3)
 have K3:=zh (K0.out.trans hk3)
 clear hm3 hk3 HC KT KP KX KL K0 x0 x1 t0
 go_wp2_with fail
 go_ret
 exact⟨by rw[HTB.out];rfl,KT3.out,K3.out⟩
theorem eg_matched1:∀ args w,(callFunc 112 args).run Tryz.prog w=.ok (.enter 112 args) w:=enters_of Tryz.func112 (by kernel_rfl) rfl
set_option maxRecDepth 100000 in
set_option maxHeartbeats 8000000 in
theorem wanted1_any (sn:Nat) (bt:Int) (ks:List Int) (Bt Bb Bx M Mb nb:Nat) (bs:List Bool) (a:Bool) (W:World) (hp:okI (sn:Int)) (hks:ks.length≤1000000) (hbs:bs[sn]?=some a) (hl:bs.length=nb)
 (hT:ToldI Bt Bx M ks W) (hB:Blk W Bb 106 #[.slice (some ⟨Mb,0,none⟩) nb nb]) (hM:Blk W Mb 4 (boolsZ bs).toArray) :
 Calls Tryz.prog 114 #[.agg #[.int .i64 (sn:Int),.int .i64 bt],.pointer (some ⟨Bt,0,none⟩),.pointer (some ⟨Bb,0,none⟩)] W fun r W'=>r=.returned (.bool (decide ((sn:Int)∈ks) || !a))∧ToldI Bt Bx M (ks++[(sn:Int)]) W'∧Keep (fun j=>j≠M) W W':=by
 have b0:Below W.heap.size W (W.alloc (.cells #[.int .i64 (sn:Int),.int .i64 bt] 72)):=(Below.refl _ _).alloc (Nat.le_refl _) _
 have KX:=zh (Blk.new W 72 #[.int .i64 (sn:Int),.int .i64 bt])
 have KT:=zh (hT.on b0)
 have KB:=zh (hB.below b0 hB.lt)
 have KM:=zh (hM.below b0 hM.lt)
 have K0:Hid (Keep (fun j=>j≠M) W (W.alloc (.cells #[.int .i64 (sn:Int),.int .i64 bt] 72))):=Keep.of_all _ b0
 have HBB:Hid (Bb≠M∧Mb≠M):=⟨hT.map.blk_ne hB,hT.map.blk_ne hM⟩
 have HXM:Hid (W.heap.size≠M):=by have:=hT.map.lt;show _≠_;omega
 have hlt:(sn:Int)<(nb:Int):=by have:=(List.getElem?_eq_some_iff.1 hbs).1;omega
 have HBS:=zh hbs
 clear hT hB hM b0 hbs hl
 go_enter Tryz.func114,Tryz.ntmps114
 go_upto_region 1 with fail
 obtain⟨X,hX⟩:∃ X,W.heap.size=X:=⟨_,rfl⟩
 rw[hX] at KX HXM ⊢
 clear hX
 generalize (W.alloc (.cells #[.int .i64 (sn:Int),.int .i64 bt] 72))=W0 at *
 have x0:=KX.out.cell 0
 have t0:=KT.out.fn.cell 0
 have HC:=zh (againI1_any (sn:Int) ks Bx M W0 hp (by omega) KT.out.box KT.out.map)
 obtain⟨tb,htb⟩:∃ tb,decide ((sn:Int)∈ks)=tb:=⟨_,rfl⟩
 rw[htb] at HC
 have HTB:=zh htb
 clear htb
 cases tb
 ·go_wp2_with fail
  refine HC.out.mono ?_
  rintro r w3 ⟨rfl,hm3,hk3⟩
  have KT3:=zh (KT.out.keep hk3 hm3)
  have KB3:=zh (hk3.blk KB.out HBB.out.1)
  have KM3:=zh (hk3.blk KM.out HBB.out.2)
  have KX3:=zh (hk3.blk KX.out HXM.out)
  have K3:=zh (K0.out.trans hk3)
  clear hm3 hk3 HC KT KB KM KX K0 x0 t0
  have x0:=KX3.out.cell 0
  have z0:=KB3.out.cell 0
  have y0:=KM3.out.bool_at HBS.out
  cases a
  all_goals
   go_wp2_with fail
   go_ret
   exact⟨by rw[HTB.out];rfl,KT3.out,K3.out⟩
 go_wp2_with fail
 refine HC.out.mono ?_
 rintro r w3 ⟨rfl,hm3,hk3⟩
 have KT3:=zh (KT.out.keep hk3 hm3)
 have K3:=zh (K0.out.trans hk3)
 clear hm3 hk3 HC KT KB KM KX K0 x0 t0
 go_wp2_with fail
 go_ret
 exact⟨by rw[HTB.out];rfl,KT3.out,K3.out⟩
theorem eg_wanted1:∀ args w,(callFunc 114 args).run Tryz.prog w=.ok (.enter 114 args) w:=enters_of Tryz.func114 (by kernel_rfl) rfl
set_option maxRecDepth 100000 in
theorem missing1_any (A:Option Addr) (n c:Nat) (W:World):Calls Tryz.prog 109 #[.slice A n c] W fun r W'=>r=.returned (.bool (decide (1<n)))∧Below W.heap.size W W':=by
 by_cases h:1<n
 ·have hgt:(n:Int) > 1:=by omega
  have HR:=zh (decide_eq_true h)
  clear h
  go_enter Tryz.func109,Tryz.ntmps109
  go_wp2_with fail
  go_ret
  exact⟨by rw[HR.out];rfl,Below.refl _ _⟩
 have hgt:¬(n:Int) > 1:=by omega
 have HR:=zh (decide_eq_false h)
 clear h
 go_enter Tryz.func109,Tryz.ntmps109
 go_wp2_with fail
 go_ret
 exact⟨by rw[HR.out];rfl,Below.refl _ _⟩
theorem eg_missing1:∀ args w,(callFunc 109 args).run Tryz.prog w=.ok (.enter 109 args) w:=enters_of Tryz.func109 (by kernel_rfl) rfl
set_option maxRecDepth 100000 in
set_option maxHeartbeats 16000000 in
theorem ordered1_any (m:HistM) (wr:SH) (rows:List SH) (Bl N:Nat) (e:OrdP) (hd:SH) (ks:List Int) (Bt Bp Bx M:Nat) (W:World) (htr:m.pl.tr.length≤300) (hp:okI e.o) (hks:ks.length≤1000000) (hn:hd.n≤1000000) (ho:0≤e.o∧e.o<m.pl.ob.length) (hts:∀ t∈e.ts,0≤t∧t<300)
 (hT:ToldI Bt Bx M ks W) (hP:Blk W Bp 76 #[.pointer (some ⟨Bl,0,none⟩)]) (hL:LookZ m wr rows Bl N W) (hR:Reads W N 1 hd.A hd.n (ints e.ts)) (hN:N≤M) :
 Calls Tryz.prog 105 #[.agg #[.int .i64 e.o,.slice hd.A hd.n hd.c],.pointer (some ⟨Bt,0,none⟩),.pointer (some ⟨Bp,0,none⟩)] W fun r W'=>r=.returned (.bool (decide (e.o∈ks) || (!decide (e.ts.length=(ruWriters m.pl e.o).length) || !ruSome e.ts (ruWriters m.pl e.o))))∧ToldI Bt Bx M (ks++[e.o]) W'∧Keep (fun j=>j≠M) W W':=by
 obtain⟨rb,hrb⟩:∃ rb,(decide (e.o∈ks) || (!decide (e.ts.length=(ruWriters m.pl e.o).length) || !ruSome e.ts (ruWriters m.pl e.o)))=rb:=⟨_,rfl⟩
 rw[hrb]
 obtain⟨xn,hxn⟩:∃ xn:Nat,e.o=(xn:Int):=⟨e.o.toNat,by omega⟩
 rw[hxn] at hrb hp ⊢
 obtain⟨r,b,o,hrow,hA,hb,hc,hxw⟩:=hL.at_ (x:=xn) (by omega)
 obtain⟨hrn,_⟩:=hL.row xn r hrow
 have HXO:Hid (xn<m.pl.ob.length):=by show _<_;omega
 have hlt:(xn:Int)<(wr.n:Int):=by omega
 obtain⟨qb,hqb⟩:∃ qb,ruSome e.ts (ruWriters m.pl (xn:Int))=qb:=⟨_,rfl⟩
 have HQB:=zh hqb
 have HTL:Hid (e.ts.length=hd.n):=ints_len hR
 rw[← hrn,HTL.out,hqb] at hrb
 have HRB0:=zh hrb
 have b0:Below W.heap.size W (W.alloc (.cells #[.int .i64 (xn:Int),.slice hd.A hd.n hd.c] 66)):=(Below.refl _ _).alloc (Nat.le_refl _) _
 have KX:=zh (Blk.new W 66 #[.int .i64 (xn:Int),.slice hd.A hd.n hd.c])
 have KT:=zh (hT.on b0)
 have KP:=zh (hP.below b0 hP.lt)
 have hMW:=hT.map.lt
 have KLZ:Hid (LookZ m wr rows Bl N (W.alloc (.cells #[.int .i64 (xn:Int),.slice hd.A hd.n hd.c] 66))):=hL.on (b0.mono (by omega))
 have hkl:=KLZ.out.blk
 rw[hA] at hkl
 have KL:=zh hkl
 have KC:Hid ((W.alloc (.cells #[.int .i64 (xn:Int),.slice hd.A hd.n hd.c] 66)).cell? ⟨b,o+xn,none⟩=some (.slice r.A r.n r.c)):=(b0.cell (p:=⟨b,o+xn,none⟩) (World.block_lt_of_cell? W _ hc)).trans hc
 have K0:Hid (Keep (fun j=>j≠M) W (W.alloc (.cells #[.int .i64 (xn:Int),.slice hd.A hd.n hd.c] 66))):=Keep.of_all _ b0
 have HNE:Hid (W.heap.size≠M∧Bp≠M∧Bl≠M∧b≠M):=⟨by omega,hT.map.blk_ne hP,hT.map.blk_ne hL.blk,by omega⟩
 have HR:Hid (∀ X,Keep (fun j=>j≠M) W X→Reads X X.heap.size 1 hd.A hd.n (ints e.ts)):=fun X h=>(h.reads hR (Nat.le_trans hN (Nat.le_of_lt hT.map.lt)) (fun k hk e=>by omega)).more (by have:=h.size;have:=hT.map.lt;omega)
 have HTS:=zh hts
 have HSZ:Hid (N≤(W.alloc (.cells #[.int .i64 (xn:Int),.slice hd.A hd.n hd.c] 66)).heap.size):=by show _≤_;have:=b0.size;omega
 obtain⟨tb,htb⟩:∃ tb,decide ((xn:Int)∈ks)=tb:=⟨_,rfl⟩
 have HCA:Hid (∀ X,ToldI Bt Bx M ks X→Calls Tryz.prog 138 #[.int .i64 (xn:Int),.pointer (some ⟨Bx,0,none⟩)] X fun e W'=>e=.returned (.bool tb)∧CntM 3 keyI okI M (ks++[(xn:Int)]) W'∧Keep (fun j=>j≠M) X W'):=fun X h=>by rw[← htb];exact againI1_any (xn:Int) ks Bx M X hp (by omega) h.box h.map
 rw[htb] at HRB0
 clear hT hP hL b0 hR ho hts hp hrow hA hb hc hrn hMW hkl hqb hrb htb hxn hxw
 go_enter Tryz.func105,Tryz.ntmps105
 go_upto_region 1 with fail
 obtain⟨X,hX⟩:∃ X,W.heap.size=X:=⟨_,rfl⟩
 rw[hX] at KX HNE ⊢
 clear hX
 generalize (W.alloc (.cells #[.int .i64 (xn:Int),.slice hd.A hd.n hd.c] 66))=W0 at *
 cases tb
 ·by_cases hl:hd.n=r.n
  ·have hne:((hd.n:Int) != (r.n:Int))=false:=by simp[hl]
   have HRB:Hid (rb=!qb):=by show _=_;rw[← HRB0.out,decide_eq_true hl];rfl
   clear hl HRB0
   refine wp_region_noPanic ?_
   refine wp_region_K (S:=(fun W=>Blk W Bt 139 #[.func (.func 138) #[] #[.pointer (some ⟨Bx,0,none⟩)]]∧Blk W X 66 #[.int .i64 (xn:Int),.slice hd.A hd.n hd.c]∧Blk W Bp 76 #[.pointer (some ⟨Bl,0,none⟩)]∧Blk W Bl 88 #[.slice m.tr.1.A m.tr.1.n m.tr.1.c,.slice m.se.1.A m.se.1.n m.se.1.c,.slice m.ob.1.A m.ob.1.n m.ob.1.c,.slice m.pr.1.A m.pr.1.n m.pr.1.c,.slice m.ev.1.A m.ev.1.n m.ev.1.c,.slice m.od.1.A m.od.1.n m.od.1.c,.slice m.ma.1.A m.ma.1.n m.ma.1.c,.slice m.wa.1.A m.wa.1.n m.wa.1.c,.slice (some ⟨b,o,none⟩) wr.n wr.c]∧W.cell? ⟨b,o+xn,none⟩=some (.slice r.A r.n r.c))) 99 (by kernel_rfl) ⟨Blk.drew KT.out.fn,KX.out.drew,KP.out.drew,KL.out.drew,KC.out⟩ (fun hHeld=>?_)
   have KC:Hid (W0.drew.cell? ⟨b,o+xn,none⟩=some (.slice r.A r.n r.c)):=KC.out
   have KT:=zh (KT.out.on (Below.refl _ W0).drew)
   have KX:=zh KX.out.drew
   have KP:=zh KP.out.drew
   have KL:=zh KL.out.drew
   have KLZ:=zh (KLZ.out.on ((Below.refl _ W0).drew.mono (Nat.le_refl _) |>.mono HSZ.out))
   have HSZ:Hid (N≤W0.drew.heap.size):=HSZ.out
   have K0:=zh K0.out.drew
   have HC:=zh (HCA.out W0.drew KT.out)
   generalize W0.drew=wd at *
   refine kv 0 (some 5) (.func (.func 138) #[] #[.pointer (some ⟨Bx,0,none⟩)]) rfl rfl (fun w' hSw=>by have c9:w'.cell? ⟨Bt,0,none⟩=some (.func (.func 138) #[] #[.pointer (some ⟨Bx,0,none⟩)]):=Blk.cell (w:=w') hSw.1 0;go_simp) ?_
   try simp only[Act.put,zK]
   refine ka 1 (some 6) (.pointer (some ⟨X,0,none⟩)) rfl rfl (fun w'=>by go_simp) ?_
   try simp only[Act.put,zK]
   refine kv 2 (some 7) (.int .i64 (xn:Int)) rfl rfl (fun w' hSw=>by have c9:w'.cell? ⟨X,0,none⟩=some (.int .i64 (xn:Int)):=Blk.cell (w:=w') hSw.2.1 0;go_simp) ?_
   try simp only[Act.put,zK]
   refine kr [3] ?_
   refine kc rfl (fun K hK=>?_) kn
   go_simp
   refine HC.out.mono ?_
   rintro r3 w3 ⟨rfl,hm3,hk3⟩
   have KC:Hid (w3.cell? ⟨b,o+xn,none⟩=some (.slice r.A r.n r.c)):=(World.cell?_of_block (hk3.block b (World.block_lt_of_cell? _ _ KC.out) HNE.out.2.2.2)).trans KC.out
   have KT:=zh (KT.out.keep hk3 hm3)
   have KX:=zh (hk3.blk KX.out HNE.out.1)
   have KP:=zh (hk3.blk KP.out HNE.out.2.1)
   have KL:=zh (hk3.blk KL.out HNE.out.2.2.1)
   have KLZ:=zh (KLZ.out.keep hk3 hN HSZ.out)
   have HSZ:Hid (N≤w3.heap.size):=Nat.le_trans HSZ.out hk3.size
   have K0:=zh (K0.out.trans hk3)
   clear hm3 hk3 hHeld HC
   go_simp
   refine hK.out _ _ ⟨KT.out.fn,KX.out,KP.out,KL.out,KC.out⟩ (fun hHeld=>?_)
   clear hK K
   try simp only[Act.put,zK]
   refine ka 4 (some 9) (.bool false) rfl rfl (fun w'=>by go_simp) ?_
   try simp only[Act.put,zK]
   refine ka 5 (some 10) (.pointer (some ⟨X,1,none⟩)) rfl rfl (fun w'=>by go_simp) ?_
   try simp only[Act.put,zK]
   refine kv 6 (some 11) (.slice hd.A hd.n hd.c) rfl rfl (fun w' hSw=>by have c9:w'.cell? ⟨X,1,none⟩=some (.slice hd.A hd.n hd.c):=Blk.cell (w:=w') hSw.2.1 1;go_simp) ?_
   try simp only[Act.put,zK]
   refine ka 7 (some 12) (.int .i64 (hd.n:Int)) rfl rfl (fun w'=>by go_simp) ?_
   try simp only[Act.put,zK]
   refine kv 8 (some 13) (.pointer (some ⟨Bl,0,none⟩)) rfl rfl (fun w' hSw=>by have c9:w'.cell? ⟨Bp,0,none⟩=some (.pointer (some ⟨Bl,0,none⟩)):=Blk.cell (w:=w') hSw.2.2.1 0;go_simp) ?_
   try simp only[Act.put,zK]
   refine ka 9 (some 14) (.pointer (some ⟨Bl,0,none⟩)) rfl rfl (fun w'=>by go_simp) ?_
   try simp only[Act.put,zK]
   refine ka 10 (some 15) (.pointer (some ⟨Bl,8,none⟩)) rfl rfl (fun w'=>by go_simp) ?_
   try simp only[Act.put,zK]
   refine kv 11 (some 16) (.slice (some ⟨b,o,none⟩) wr.n wr.c) rfl rfl (fun w' hSw=>by have c9:w'.cell? ⟨Bl,8,none⟩=some (.slice (some ⟨b,o,none⟩) wr.n wr.c):=Blk.cell (w:=w') hSw.2.2.2.1 8;go_simp) ?_
   try simp only[Act.put,zK]
   refine ka 12 (some 17) (.pointer (some ⟨X,0,none⟩)) rfl rfl (fun w'=>by go_simp) ?_
   try simp only[Act.put,zK]
   refine kv 13 (some 18) (.int .i64 (xn:Int)) rfl rfl (fun w' hSw=>by have c9:w'.cell? ⟨X,0,none⟩=some (.int .i64 (xn:Int)):=Blk.cell (w:=w') hSw.2.1 0;go_simp) ?_
   try simp only[Act.put,zK]
   refine ka 14 (some 19) (.pointer (some ⟨b,o+xn,none⟩)) rfl rfl (fun w'=>by go_simp) ?_
   try simp only[Act.put,zK]
   refine kv 15 (some 20) (.slice r.A r.n r.c) rfl rfl (fun w' hSw=>by have c9:w'.cell? ⟨b,o+xn,none⟩=some (.slice r.A r.n r.c):=hSw.2.2.2.2;go_simp) ?_
   try simp only[Act.put,zK]
   refine ka 16 (some 21) (.int .i64 (r.n:Int)) rfl rfl (fun w'=>by go_simp) ?_
   try simp only[Act.put,zK]
   refine ka 17 (some 22) (.bool false) rfl rfl (fun w'=>by go_simp) ?_
   try simp only[Act.put,zK]
   refine ka 18 (some 23) (.bool false) rfl rfl (fun w'=>by go_simp) ?_
   try simp only[Act.put,zK]
   refine ka 19 (some 24) (.bool false) rfl rfl (fun w'=>by go_simp) ?_
   try simp only[Act.put,zK]
   refine kv 20 (some 25) (.pointer (some ⟨Bl,0,none⟩)) rfl rfl (fun w' hSw=>by have c9:w'.cell? ⟨Bp,0,none⟩=some (.pointer (some ⟨Bl,0,none⟩)):=Blk.cell (w:=w') hSw.2.2.1 0;go_simp) ?_
   try simp only[Act.put,zK]
   refine ka 21 (some 26) (.pointer (some ⟨X,0,none⟩)) rfl rfl (fun w'=>by go_simp) ?_
   try simp only[Act.put,zK]
   refine kv 22 (some 27) (.int .i64 (xn:Int)) rfl rfl (fun w' hSw=>by have c9:w'.cell? ⟨X,0,none⟩=some (.int .i64 (xn:Int)):=Blk.cell (w:=w') hSw.2.1 0;go_simp) ?_
   try simp only[Act.put,zK]
   refine ka 23 (some 28) (.pointer (some ⟨X,1,none⟩)) rfl rfl (fun w'=>by go_simp) ?_
   try simp only[Act.put,zK]
   refine kv 24 (some 29) (.slice hd.A hd.n hd.c) rfl rfl (fun w' hSw=>by have c9:w'.cell? ⟨X,1,none⟩=some (.slice hd.A hd.n hd.c):=Blk.cell (w:=w') hSw.2.1 1;go_simp) ?_
   try simp only[Act.put,zK]
   refine kr [25] ?_
   refine kc rfl (fun K hK=>?_) kn
   go_simp
   refine (once_any m wr rows Bl N xn HXO.out htr hd.A hd.n hd.c e.ts hn HTS.out w3 KLZ.out HSZ.out (HR.out w3 K0.out)).mono ?_
   rintro r4 w4 ⟨rfl,hb4⟩
   rw[HQB.out]
   have KC:Hid (w4.cell? ⟨b,o+xn,none⟩=some (.slice r.A r.n r.c)):=(World.cell?_of_block (hb4.block b (World.block_lt_of_cell? _ _ KC.out))).trans KC.out
   have KT:=zh (KT.out.on hb4)
   have KX:=zh (KX.out.below hb4 KX.out.lt)
   have KP:=zh (KP.out.below hb4 KP.out.lt)
   have KL:=zh (KL.out.below hb4 KL.out.lt)
   have K0:=zh (K0.out.trans (Keep.of_all _ hb4))
   clear hb4 hHeld
   go_simp
   refine hK.out _ _ ⟨KT.out.fn,KX.out,KP.out,KL.out,KC.out⟩ (fun hHeld=>?_)
   clear hK K
   try simp only[Act.put,zK]
   refine ka 26 (some 31) (.bool !qb) rfl rfl (fun w'=>by go_simp) ?_
   try simp only[Act.put,zK]
   refine ka 27 (some 32) (.bool !qb) rfl rfl (fun w'=>by go_simp) ?_
   try simp only[Act.put,zK]
   refine ka 28 (some 4) (.bool !qb) rfl rfl (fun w'=>by go_simp) ?_
   try simp only[Act.put,zK]
   refine kd (by kernel_rfl) ?_ _
   refine NoPanic.normal ?_
   go_wp2_with fail
   go_ret
   exact⟨by rw[HRB.out];rfl,KT.out,K0.out⟩
  have hne:((hd.n:Int) != (r.n:Int))=true:=by simp;omega
  have HRB:Hid (rb=true):=by show _=_;rw[← HRB0.out,decide_eq_false hl];rfl
  clear hl HRB0
  refine wp_region_noPanic ?_
  refine wp_region_K (S:=(fun W=>Blk W Bt 139 #[.func (.func 138) #[] #[.pointer (some ⟨Bx,0,none⟩)]]∧Blk W X 66 #[.int .i64 (xn:Int),.slice hd.A hd.n hd.c]∧Blk W Bp 76 #[.pointer (some ⟨Bl,0,none⟩)]∧Blk W Bl 88 #[.slice m.tr.1.A m.tr.1.n m.tr.1.c,.slice m.se.1.A m.se.1.n m.se.1.c,.slice m.ob.1.A m.ob.1.n m.ob.1.c,.slice m.pr.1.A m.pr.1.n m.pr.1.c,.slice m.ev.1.A m.ev.1.n m.ev.1.c,.slice m.od.1.A m.od.1.n m.od.1.c,.slice m.ma.1.A m.ma.1.n m.ma.1.c,.slice m.wa.1.A m.wa.1.n m.wa.1.c,.slice (some ⟨b,o,none⟩) wr.n wr.c]∧W.cell? ⟨b,o+xn,none⟩=some (.slice r.A r.n r.c))) 99 (by kernel_rfl) ⟨Blk.drew KT.out.fn,KX.out.drew,KP.out.drew,KL.out.drew,KC.out⟩ (fun hHeld=>?_)
  have KC:Hid (W0.drew.cell? ⟨b,o+xn,none⟩=some (.slice r.A r.n r.c)):=KC.out
  have KT:=zh (KT.out.on (Below.refl _ W0).drew)
  have KX:=zh KX.out.drew
  have KP:=zh KP.out.drew
  have KL:=zh KL.out.drew
  have KLZ:=zh (KLZ.out.on ((Below.refl _ W0).drew.mono (Nat.le_refl _) |>.mono HSZ.out))
  have HSZ:Hid (N≤W0.drew.heap.size):=HSZ.out
  have K0:=zh K0.out.drew
  have HC:=zh (HCA.out W0.drew KT.out)
  generalize W0.drew=wd at *
  refine kv 0 (some 5) (.func (.func 138) #[] #[.pointer (some ⟨Bx,0,none⟩)]) rfl rfl (fun w' hSw=>by have c9:w'.cell? ⟨Bt,0,none⟩=some (.func (.func 138) #[] #[.pointer (some ⟨Bx,0,none⟩)]):=Blk.cell (w:=w') hSw.1 0;go_simp) ?_
  try simp only[Act.put,zK]
  refine ka 1 (some 6) (.pointer (some ⟨X,0,none⟩)) rfl rfl (fun w'=>by go_simp) ?_
  try simp only[Act.put,zK]
  refine kv 2 (some 7) (.int .i64 (xn:Int)) rfl rfl (fun w' hSw=>by have c9:w'.cell? ⟨X,0,none⟩=some (.int .i64 (xn:Int)):=Blk.cell (w:=w') hSw.2.1 0;go_simp) ?_
  try simp only[Act.put,zK]
  refine kr [3] ?_
  refine kc rfl (fun K hK=>?_) kn
  go_simp
  refine HC.out.mono ?_
  rintro r3 w3 ⟨rfl,hm3,hk3⟩
  have KC:Hid (w3.cell? ⟨b,o+xn,none⟩=some (.slice r.A r.n r.c)):=(World.cell?_of_block (hk3.block b (World.block_lt_of_cell? _ _ KC.out) HNE.out.2.2.2)).trans KC.out
  have KT:=zh (KT.out.keep hk3 hm3)
  have KX:=zh (hk3.blk KX.out HNE.out.1)
  have KP:=zh (hk3.blk KP.out HNE.out.2.1)
  have KL:=zh (hk3.blk KL.out HNE.out.2.2.1)
  have KLZ:=zh (KLZ.out.keep hk3 hN HSZ.out)
  have HSZ:Hid (N≤w3.heap.size):=Nat.le_trans HSZ.out hk3.size
  have K0:=zh (K0.out.trans hk3)
  clear hm3 hk3 hHeld HC
  go_simp
  refine hK.out _ _ ⟨KT.out.fn,KX.out,KP.out,KL.out,KC.out⟩ (fun hHeld=>?_)
  clear hK K
  try simp only[Act.put,zK]
  refine ka 4 (some 9) (.bool false) rfl rfl (fun w'=>by go_simp) ?_
  try simp only[Act.put,zK]
  refine ka 5 (some 10) (.pointer (some ⟨X,1,none⟩)) rfl rfl (fun w'=>by go_simp) ?_
  try simp only[Act.put,zK]
  refine kv 6 (some 11) (.slice hd.A hd.n hd.c) rfl rfl (fun w' hSw=>by have c9:w'.cell? ⟨X,1,none⟩=some (.slice hd.A hd.n hd.c):=Blk.cell (w:=w') hSw.2.1 1;go_simp) ?_
  try simp only[Act.put,zK]
  refine ka 7 (some 12) (.int .i64 (hd.n:Int)) rfl rfl (fun w'=>by go_simp) ?_
  try simp only[Act.put,zK]
  refine kv 8 (some 13) (.pointer (some ⟨Bl,0,none⟩)) rfl rfl (fun w' hSw=>by have c9:w'.cell? ⟨Bp,0,none⟩=some (.pointer (some ⟨Bl,0,none⟩)):=Blk.cell (w:=w') hSw.2.2.1 0;go_simp) ?_
  try simp only[Act.put,zK]
  refine ka 9 (some 14) (.pointer (some ⟨Bl,0,none⟩)) rfl rfl (fun w'=>by go_simp) ?_
  try simp only[Act.put,zK]
  refine ka 10 (some 15) (.pointer (some ⟨Bl,8,none⟩)) rfl rfl (fun w'=>by go_simp) ?_
  try simp only[Act.put,zK]
  refine kv 11 (some 16) (.slice (some ⟨b,o,none⟩) wr.n wr.c) rfl rfl (fun w' hSw=>by have c9:w'.cell? ⟨Bl,8,none⟩=some (.slice (some ⟨b,o,none⟩) wr.n wr.c):=Blk.cell (w:=w') hSw.2.2.2.1 8;go_simp) ?_
  try simp only[Act.put,zK]
  refine ka 12 (some 17) (.pointer (some ⟨X,0,none⟩)) rfl rfl (fun w'=>by go_simp) ?_
  try simp only[Act.put,zK]
  refine kv 13 (some 18) (.int .i64 (xn:Int)) rfl rfl (fun w' hSw=>by have c9:w'.cell? ⟨X,0,none⟩=some (.int .i64 (xn:Int)):=Blk.cell (w:=w') hSw.2.1 0;go_simp) ?_
  try simp only[Act.put,zK]
  refine ka 14 (some 19) (.pointer (some ⟨b,o+xn,none⟩)) rfl rfl (fun w'=>by go_simp) ?_
  try simp only[Act.put,zK]
  refine kv 15 (some 20) (.slice r.A r.n r.c) rfl rfl (fun w' hSw=>by have c9:w'.cell? ⟨b,o+xn,none⟩=some (.slice r.A r.n r.c):=hSw.2.2.2.2;go_simp) ?_
  try simp only[Act.put,zK]
  refine ka 16 (some 21) (.int .i64 (r.n:Int)) rfl rfl (fun w'=>by go_simp) ?_
  try simp only[Act.put,zK]
  refine ka 17 (some 22) (.bool true) rfl rfl (fun w'=>by go_simp) ?_
  try simp only[Act.put,zK]
  refine ka 18 (some 23) (.bool true) rfl rfl (fun w'=>by go_simp) ?_
  try simp only[Act.put,zK]
  refine ka 19 (some 24) (.bool true) rfl rfl (fun w'=>by go_simp) ?_
  try simp only[Act.put,zK]
  refine ku 20 (some 25) rfl rfl ?_
  try simp only[Act.put,zK]
  refine ku 21 (some 26) rfl rfl ?_
  try simp only[Act.put,zK]
  refine ku 22 (some 27) rfl rfl ?_
  try simp only[Act.put,zK]
  refine ku 23 (some 28) rfl rfl ?_
  try simp only[Act.put,zK]
  refine ku 24 (some 29) rfl rfl ?_
  try simp only[Act.put,zK]
  refine ku 25 (some 30) rfl rfl ?_
  try simp only[Act.put,zK]
  refine ku 26 (some 31) rfl rfl ?_
  try simp only[Act.put,zK]
  refine ka 27 (some 32) (.bool true) rfl rfl (fun w'=>by go_simp) ?_
  try simp only[Act.put,zK]
  refine ka 28 (some 4) (.bool true) rfl rfl (fun w'=>by go_simp) ?_
  try simp only[Act.put,zK]
  refine kd (by kernel_rfl) ?_ _
  refine NoPanic.normal ?_
  go_wp2_with fail
  go_ret
  exact⟨by rw[HRB.out];rfl,KT.out,K0.out⟩
 have HRB:Hid (rb=true):=by show _=_;rw[← HRB0.out];rfl
 clear HRB0
 refine wp_region_noPanic ?_
 refine wp_region_K (S:=(fun W=>Blk W Bt 139 #[.func (.func 138) #[] #[.pointer (some ⟨Bx,0,none⟩)]]∧Blk W X 66 #[.int .i64 (xn:Int),.slice hd.A hd.n hd.c]∧Blk W Bp 76 #[.pointer (some ⟨Bl,0,none⟩)]∧Blk W Bl 88 #[.slice m.tr.1.A m.tr.1.n m.tr.1.c,.slice m.se.1.A m.se.1.n m.se.1.c,.slice m.ob.1.A m.ob.1.n m.ob.1.c,.slice m.pr.1.A m.pr.1.n m.pr.1.c,.slice m.ev.1.A m.ev.1.n m.ev.1.c,.slice m.od.1.A m.od.1.n m.od.1.c,.slice m.ma.1.A m.ma.1.n m.ma.1.c,.slice m.wa.1.A m.wa.1.n m.wa.1.c,.slice (some ⟨b,o,none⟩) wr.n wr.c]∧W.cell? ⟨b,o+xn,none⟩=some (.slice r.A r.n r.c))) 99 (by kernel_rfl) ⟨Blk.drew KT.out.fn,KX.out.drew,KP.out.drew,KL.out.drew,KC.out⟩ (fun hHeld=>?_)
 have KC:Hid (W0.drew.cell? ⟨b,o+xn,none⟩=some (.slice r.A r.n r.c)):=KC.out
 have KT:=zh (KT.out.on (Below.refl _ W0).drew)
 have KX:=zh KX.out.drew
 have KP:=zh KP.out.drew
 have KL:=zh KL.out.drew
 have KLZ:=zh (KLZ.out.on ((Below.refl _ W0).drew.mono (Nat.le_refl _) |>.mono HSZ.out))
 have HSZ:Hid (N≤W0.drew.heap.size):=HSZ.out
 have K0:=zh K0.out.drew
 have HC:=zh (HCA.out W0.drew KT.out)
 generalize W0.drew=wd at *
 refine kv 0 (some 5) (.func (.func 138) #[] #[.pointer (some ⟨Bx,0,none⟩)]) rfl rfl (fun w' hSw=>by have c9:w'.cell? ⟨Bt,0,none⟩=some (.func (.func 138) #[] #[.pointer (some ⟨Bx,0,none⟩)]):=Blk.cell (w:=w') hSw.1 0;go_simp) ?_
 try simp only[Act.put,zK]
 refine ka 1 (some 6) (.pointer (some ⟨X,0,none⟩)) rfl rfl (fun w'=>by go_simp) ?_
 try simp only[Act.put,zK]
 refine kv 2 (some 7) (.int .i64 (xn:Int)) rfl rfl (fun w' hSw=>by have c9:w'.cell? ⟨X,0,none⟩=some (.int .i64 (xn:Int)):=Blk.cell (w:=w') hSw.2.1 0;go_simp) ?_
 try simp only[Act.put,zK]
 refine kr [3] ?_
 refine kc rfl (fun K hK=>?_) kn
 go_simp
 refine HC.out.mono ?_
 rintro r3 w3 ⟨rfl,hm3,hk3⟩
 have KC:Hid (w3.cell? ⟨b,o+xn,none⟩=some (.slice r.A r.n r.c)):=(World.cell?_of_block (hk3.block b (World.block_lt_of_cell? _ _ KC.out) HNE.out.2.2.2)).trans KC.out
 have KT:=zh (KT.out.keep hk3 hm3)
 have KX:=zh (hk3.blk KX.out HNE.out.1)
 have KP:=zh (hk3.blk KP.out HNE.out.2.1)
 have KL:=zh (hk3.blk KL.out HNE.out.2.2.1)
 have KLZ:=zh (KLZ.out.keep hk3 hN HSZ.out)
 have HSZ:Hid (N≤w3.heap.size):=Nat.le_trans HSZ.out hk3.size
 have K0:=zh (K0.out.trans hk3)
 clear hm3 hk3 hHeld HC
 go_simp
 refine hK.out _ _ ⟨KT.out.fn,KX.out,KP.out,KL.out,KC.out⟩ (fun hHeld=>?_)
 clear hK K
 try simp only[Act.put,zK]
 refine ka 4 (some 9) (.bool true) rfl rfl (fun w'=>by go_simp) ?_
 try simp only[Act.put,zK]
 refine ku 5 (some 10) rfl rfl ?_
 try simp only[Act.put,zK]
 refine ku 6 (some 11) rfl rfl ?_
 try simp only[Act.put,zK]
 refine ku 7 (some 12) rfl rfl ?_
 try simp only[Act.put,zK]
 refine ku 8 (some 13) rfl rfl ?_
 try simp only[Act.put,zK]
 refine ku 9 (some 14) rfl rfl ?_
 try simp only[Act.put,zK]
 refine ku 10 (some 15) rfl rfl ?_
 try simp only[Act.put,zK]
 refine ku 11 (some 16) rfl rfl ?_
 try simp only[Act.put,zK]
 refine ku 12 (some 17) rfl rfl ?_
 try simp only[Act.put,zK]
 refine ku 13 (some 18) rfl rfl ?_
 try simp only[Act.put,zK]
 refine ku 14 (some 19) rfl rfl ?_
 try simp only[Act.put,zK]
 refine ku 15 (some 20) rfl rfl ?_
 try simp only[Act.put,zK]
 refine ku 16 (some 21) rfl rfl ?_
 try simp only[Act.put,zK]
 refine ku 17 (some 22) rfl rfl ?_
 try simp only[Act.put,zK]
 refine ka 18 (some 23) (.bool true) rfl rfl (fun w'=>by go_simp) ?_
 try simp only[Act.put,zK]
 refine ka 19 (some 24) (.bool true) rfl rfl (fun w'=>by go_simp) ?_
 try simp only[Act.put,zK]
 refine ku 20 (some 25) rfl rfl ?_
 try simp only[Act.put,zK]
 refine ku 21 (some 26) rfl rfl ?_
 try simp only[Act.put,zK]
 refine ku 22 (some 27) rfl rfl ?_
 try simp only[Act.put,zK]
 refine ku 23 (some 28) rfl rfl ?_
 try simp only[Act.put,zK]
 refine ku 24 (some 29) rfl rfl ?_
 try simp only[Act.put,zK]
 refine ku 25 (some 30) rfl rfl ?_
 try simp only[Act.put,zK]
 refine ku 26 (some 31) rfl rfl ?_
 try simp only[Act.put,zK]
 refine ka 27 (some 32) (.bool true) rfl rfl (fun w'=>by go_simp) ?_
 try simp only[Act.put,zK]
 refine ka 28 (some 4) (.bool true) rfl rfl (fun w'=>by go_simp) ?_
 try simp only[Act.put,zK]
 refine kd (by kernel_rfl) ?_ _
 refine NoPanic.normal ?_
 go_wp2_with fail
 go_ret
 exact⟨by rw[HRB.out];rfl,KT.out,K0.out⟩
theorem eg_ordered1:∀ args w,(callFunc 105 args).run Tryz.prog w=.ok (.enter 105 args) w:=enters_of Tryz.func105 (by kernel_rfl) rfl
end Go.Proofs.YtmkknbonmameoaaGreatDoor
