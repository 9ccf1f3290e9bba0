import Derived.Test.YtmkknbonmameoaaGreatDoorQ5
import Derived.Test.YtmkknbonmameoaaGreatDoorQ10
import Derived.Test.YtmkknbonmameoaaGreatDoorQ7
import Derived.Test.YtmkknbonmameoaaGreatDoorQ12
-- holds: YtmkknbonmameoaaGreatDoorHZi YtmkknbonmameoaaGreatDoorHZl
namespace Go.Proofs.YtmkknbonmameoaaGreatDoor
open Go.RowKit Go.Shelf
theorem litZ (w:World) (t:TypeId) (s:Nat) (xs:List Value) (cs:Array Value) (h:cs=xs.toArray) (hl:xs.length=1 * s):Reads (w.alloc (.cells cs t)) (w.alloc (.cells cs t)).heap.size s (some ⟨w.heap.size,0,none⟩) 1 xs:=by
 subst h
 exact⟨hl,fun _=>⟨_,rfl,by simp,fun j u hu=>by
  rw[Go.WideShapes.add_plain,Nat.zero_add,(Blk.new w t xs.toArray).cell,List.getElem?_toArray];exact hu⟩⟩
def SeenIs (e0:EvP) (w:World):Ending→World→Prop:=fun e w'=>∃ (A:Option Addr) (n c:Nat),e=.returned (.slice A n c)∧n=(ruSeen e0).length∧n≤1000000∧Reads w' w'.heap.size 3 A n ((ruSeen e0).flatMap seCs)∧Below w.heap.size w w'
set_option maxHeartbeats 4000000 in
theorem seesZ_any (e:EvP) (A:Option Addr) (n c:Nat) (hn:n≤1000000) (w:World) (hR:Reads w w.heap.size 3 A n (e.scan.flatMap seCs)):Calls Tryz.prog 97 #[.agg #[.int .i64 e.kd,.int .i64 e.t,.int .i64 e.s,.int .i64 e.lev,.int .i64 e.o,.int .i64 e.vt,.int .i64 e.vk,.int .i64 e.p,.slice A n c]] w (SeenIs e w):=by
 have hl:=reads_len_s seCs_len (by omega) hR
 have hal:Below w.heap.size w (w.alloc (.cells #[.int .i64 e.kd,.int .i64 e.t,.int .i64 e.s,.int .i64 e.lev,.int .i64 e.o,.int .i64 e.vt,.int .i64 e.vk,.int .i64 e.p,.slice A n c] 60)):=(Below.refl _ _).alloc (Nat.le_refl _) _
 by_cases h3:e.kd=3
 ·have q3:(e.kd==3)=true:=by simpa using h3
  have HS:Hid (ruSeen e=[⟨e.o,e.vt,e.vk⟩]):=by show _=_;unfold ruSeen;rw[if_pos h3]
  have SL:=zh (litZ (w.alloc (.cells #[.int .i64 e.kd,.int .i64 e.t,.int .i64 e.s,.int .i64 e.lev,.int .i64 e.o,.int .i64 e.vt,.int .i64 e.vk,.int .i64 e.p,.slice A n c] 60)) 64 3 (seCs ⟨e.o,e.vt,e.vk⟩) #[.int .i64 e.o,.int .i64 e.vt,.int .i64 e.vk] rfl rfl)
  have HB:Hid (Below w.heap.size w ((w.alloc (.cells #[.int .i64 e.kd,.int .i64 e.t,.int .i64 e.s,.int .i64 e.lev,.int .i64 e.o,.int .i64 e.vt,.int .i64 e.vk,.int .i64 e.p,.slice A n c] 60)).alloc (.cells #[.int .i64 e.o,.int .i64 e.vt,.int .i64 e.vk] 64))):=hal.alloc (by simp) _
  clear h3 hR hl hal
  go_enter Tryz.func97,Tryz.ntmps97
  go_wp2_with fail
  go_ret
  refine⟨_,1,1,rfl,by rw[HS.out];rfl,by omega,?_,HB.out⟩
  rw[HS.out]
  simpa using SL.out
 have q3:(e.kd==3)=false:=by simpa using h3
 have HS:Hid (ruSeen e=e.scan):=by show _=_;unfold ruSeen;rw[if_neg h3]
 have HR:=zh ((hR.below hal).more hal.size)
 have HB:=zh hal
 clear h3 hR hal
 go_enter Tryz.func97,Tryz.ntmps97
 go_wp2_with fail
 go_ret
 exact⟨A,n,c,rfl,by rw[HS.out];exact hl.symm,hn,by rw[HS.out];exact HR.out,HB.out⟩
set_option maxRecDepth 100000 in
set_option maxHeartbeats 4000000 in
theorem idxZ_any (fq:FuncId) (hcf:∀ (args:Array Value) (W:World),(callFunc fq args).run Tryz.prog W=.ok (.enter fq args) W) (caps:Array Value) (p:Nat→Bool) (Q:Nat→World→Prop) (T:Nat→Prop) (A:Option Addr) (n c:Nat) (S:List SeenP) (w:World) (hn:n≤1000000) (hR:Reads w w.heap.size 3 A n (S.flatMap seCs))
 (hT:∀ X,Keep (fun j=>¬T j) w X→Reads X w.heap.size 3 A n (S.flatMap seCs)) (hQ:∀ k X Y,Q k X→Below X.heap.size X Y→Q k Y)
 (hask:∀ k s X,S[k]?=some s→Q k X→Calls Tryz.prog fq (#[.agg #[.int .i64 s.o,.int .i64 s.t,.int .i64 s.k]]++caps) X fun r X'=>r=.returned (.bool (p k))∧Q (k+1) X'∧Keep (fun j=>¬T j) X X') (h0:Q 0 w) :
 Calls Tryz.prog 137 #[.slice A n c,.func (.func fq) #[] caps] w fun e w'=>∃ r:Int,e=.returned (.int .i64 r)∧decide (r≥0)=((List.range n).find? p).isSome∧Keep (fun j=>¬T j) w w':=by
 have HL:=zh (reads_len_s seCs_len (by omega) hR)
 have HT:=zh hT
 have HQ:=zh hQ
 have HA:=zh hask
 have H0:Hid (Q 0 w):=h0
 clear hR hT hQ hask h0
 go_enter Tryz.func137,Tryz.ntmps137
 go_wp2_with fail
 go_loopg [8] n (fun gg i wr=>∃ k:Nat,k+gg=n∧i=.int .i64 k∧Hid (Q k wr)∧Hid (Keep (fun j=>¬T j) w wr)∧Hid (∀ j,j<k→p j=false))
 case atStart=>exact⟨0,by omega,rfl,H0,Keep.refl _ _,fun j hj=>by omega⟩
 obtain⟨k,hk,rfl,HQK,HK,HF⟩:=hrel
 cases gk with
 | succ g2 =>
  have hlt:(k:Int)<(n:Int):=by omega
  have HKN:Hid (k+(g2+1)=n):=hk
  obtain⟨s,hs⟩:∃ s,S[k]?=some s:=⟨S[k]'(by rw[HL.out];omega),List.getElem?_eq_getElem _⟩
  obtain⟨b,o,rfl,hb,hc⟩:=row_cells seCs_len (by omega) (HT.out wr HK.out) hs
  have c0:wr.cell? ⟨b,o+k * 3,none⟩=some (.int .i64 s.o):=by have h9:=hc 0 _ rfl;rwa [show o+(k * 3+0)=o+k * 3 by omega] at h9
  have c1:wr.cell? ⟨b,o+k * 3+1,none⟩=some (.int .i64 s.t):=by have h9:=hc 1 _ rfl;rwa [show o+(k * 3+1)=o+k * 3+1 by omega] at h9
  have c2:wr.cell? ⟨b,o+k * 3+2,none⟩=some (.int .i64 s.k):=by have h9:=hc 2 _ rfl;rwa [show o+(k * 3+2)=o+k * 3+2 by omega] at h9
  have HC:=zh (HA.out k s wr hs HQK.out)
  clear hc hs HQK hk
  cases hb2:p k
  ·rw[hb2] at HC
   have HF1:=zh (uptoZ_more HF.out hb2)
   clear hb2 HF
   go_wp2_with fail
   refine HC.out.mono ?_
   rintro r W3 ⟨rfl,hq3,hk3⟩
   have HQ3:=zh hq3
   have HK3:=zh (HK.out.trans hk3)
   clear hq3 hk3 HC HK c0 c1 c2
   go_wp2_with fail
   go_roundg g2
   case measure=>omega
   case rel=>exact⟨k+1,by have:=HKN.out;omega,by go_num,HQ3,HK3,HF1⟩
  rw[hb2] at HC
  have HF1:=zh (findZ_at (show k<n by have:=HKN.out;omega) hb2 HF.out)
  clear hb2 HF
  go_wp2_with fail
  refine HC.out.mono ?_
  rintro r W3 ⟨rfl,hq3,hk3⟩
  have HK3:=zh (HK.out.trans hk3)
  clear hq3 hk3 HC HK c0 c1 c2
  go_wp2_with fail
  go_ret
  exact⟨(k:Int),rfl,by rw[HF1.out,decide_eq_true (by omega)];rfl,HK3.out⟩
 | zero =>
  have hge:¬(k:Int)<(n:Int):=by omega
  have HN:Hid ((List.range n).find? p=none):=findZ_no fun j hj=>HF.out j (by omega)
  clear hk
  go_wp2_with fail
  go_ret
  exact⟨-1,rfl,by rw[HN.out];rfl,HK.out⟩
theorem contZ_any (fq:FuncId) (hcf:∀ (args:Array Value) (W:World),(callFunc fq args).run Tryz.prog W=.ok (.enter fq args) W) (caps:Array Value) (p:Nat→Bool) (Q:Nat→World→Prop) (T:Nat→Prop) (A:Option Addr) (n c:Nat) (S:List SeenP) (w:World) (hn:n≤1000000) (hR:Reads w w.heap.size 3 A n (S.flatMap seCs))
 (hT:∀ X,Keep (fun j=>¬T j) w X→Reads X w.heap.size 3 A n (S.flatMap seCs)) (hQ:∀ k X Y,Q k X→Below X.heap.size X Y→Q k Y)
 (hask:∀ k s X,S[k]?=some s→Q k X→Calls Tryz.prog fq (#[.agg #[.int .i64 s.o,.int .i64 s.t,.int .i64 s.k]]++caps) X fun r X'=>r=.returned (.bool (p k))∧Q (k+1) X'∧Keep (fun j=>¬T j) X X') (h0:Q 0 w) :
 Calls Tryz.prog 96 #[.slice A n c,.func (.func fq) #[] caps] w fun e w'=>e=.returned (.bool ((List.range n).find? p).isSome)∧Keep (fun j=>¬T j) w w':=by
 have HI:=zh (idxZ_any fq hcf caps p Q T A n c S w hn hR hT hQ hask h0)
 clear hR hT hQ hask h0 hcf
 go_enter Tryz.func96,Tryz.ntmps96
 go_wp2_with fail
 refine HI.out.mono ?_
 rintro e w1 ⟨r,rfl,hr,b⟩
 have HB:=zh b
 have HRX:=zh hr
 clear b HI hr
 go_wp2_with fail
 go_ret
 exact⟨by rw[← HRX.out];rfl,HB.out⟩
set_option maxRecDepth 100000 in
theorem zeroZ:Tryz.zeroCells149=(boolsZ (List.replicate 300 false)).toArray:=by kernel_rfl
theorem Blk.boolT {W:World} {M tn:Nat} {T:TypeId} {bs:List Bool} (h:Blk W M T (boolsZ bs).toArray) (b:Bool):Blk (W.setCell ⟨M,tn,none⟩ (.bool b)) M T (boolsZ (bs.set tn b)).toArray:=by
 have:=h.set_ tn (.bool b)
 rwa [List.setIfInBounds_toArray,boolsZ_set] at this
theorem Blk.boolT_at {W:World} {M tn:Nat} {T:TypeId} {bs:List Bool} {b:Bool} (h:Blk W M T (boolsZ bs).toArray) (hb:bs[tn]?=some b):W.cell? ⟨M,tn,none⟩=some (.bool b):=by
 rw[h.cell,List.getElem?_toArray]
 exact boolsZ_get hb
set_option maxRecDepth 100000 in
set_option maxHeartbeats 4000000 in
theorem scanned11_any (t k:Int) (on:Nat) (hon:on<300) (bs:List Bool) (a:Bool) (hbs:bs[on]?=some a) (Bn:Nat) (W:World) (hM:Blk W Bn 149 (boolsZ bs).toArray) :
 Calls Tryz.prog 102 #[.agg #[.int .i64 (on:Int),.int .i64 t,.int .i64 k],.pointer (some ⟨Bn,0,none⟩)] W fun r W'=>r=.returned (.bool a)∧Blk W' Bn 149 (boolsZ (bs.set on true)).toArray∧Keep (fun j=>j≠Bn) W W':=by
 have b0:Below W.heap.size W (W.alloc (.cells #[.int .i64 (on:Int),.int .i64 t,.int .i64 k] 64)):=(Below.refl _ _).alloc (Nat.le_refl _) _
 have KX:=zh (Blk.new W 64 #[.int .i64 (on:Int),.int .i64 t,.int .i64 k])
 have KM:=zh (hM.below b0 hM.lt)
 have K0:Hid (Keep (fun j=>j≠Bn) W (W.alloc (.cells #[.int .i64 (on:Int),.int .i64 t,.int .i64 k] 64))):=Keep.of_all _ b0
 have HXM:Hid (W.heap.size≠Bn):=by have:=hM.lt;show _≠_;omega
 have hlt:(on:Int)<300:=by omega
 have HBS:=zh hbs
 clear hM b0 hbs
 go_enter Tryz.func102,Tryz.ntmps102
 go_upto_region 1 with fail
 obtain⟨X,hX⟩:∃ X,W.heap.size=X:=⟨_,rfl⟩
 rw[hX] at KX HXM ⊢
 generalize (W.alloc (.cells #[.int .i64 (on:Int),.int .i64 t,.int .i64 k] 64))=W0 at *
 have x0:=KX.out.cell 0
 have y0:=KM.out.boolT_at HBS.out
 have f0:=KM.out.frozen on
 go_wp2_with fail
 go_ret
 exact⟨rfl,KM.out.boolT _,K0.out.set (.inr fun h=>h rfl) _ _⟩
theorem eg_scanned11:∀ args w,(callFunc 102 args).run Tryz.prog w=.ok (.enter 102 args) w:=enters_of Tryz.func102 (by kernel_rfl) rfl
def nmF (S:List SeenP) (k:Nat) (u:Nat):Bool:=(S.take k).any fun a=>decide (a.o=(u:Int))
theorem nmF_zero (S:List SeenP):Tryz.zeroCells149=(boolsZ (bsZ (nmF S 0) 300)).toArray:=by
 rw[zeroZ,bsZ_none]
 rfl
set_option maxRecDepth 100000 in
set_option maxHeartbeats 4000000 in
theorem scanned1_any (e:EvP) (hd:SH) (hn:hd.n≤1000000) (W:World) (hs:∀ s∈e.scan,0≤s.o∧s.o<300) (hR:Reads W W.heap.size 3 hd.A hd.n (e.scan.flatMap seCs)) :
 Calls Tryz.prog 101 #[.agg #[.int .i64 e.kd,.int .i64 e.t,.int .i64 e.s,.int .i64 e.lev,.int .i64 e.o,.int .i64 e.vt,.int .i64 e.vk,.int .i64 e.p,.slice hd.A hd.n hd.c]] W fun r W'=>r=.returned (.bool (!decide (e.scan.map (·.o)).Nodup))∧Below W.heap.size W W':=by
 have hl:=reads_len_s seCs_len (by omega) hR
 have b0:Below W.heap.size W (W.alloc (.cells #[.int .i64 e.kd,.int .i64 e.t,.int .i64 e.s,.int .i64 e.lev,.int .i64 e.o,.int .i64 e.vt,.int .i64 e.vk,.int .i64 e.p,.slice hd.A hd.n hd.c] 60)):=(Below.refl _ _).alloc (Nat.le_refl _) _
 have KX:=zh (Blk.new W 60 #[.int .i64 e.kd,.int .i64 e.t,.int .i64 e.s,.int .i64 e.lev,.int .i64 e.o,.int .i64 e.vt,.int .i64 e.vk,.int .i64 e.p,.slice hd.A hd.n hd.c])
 have B0:=zh b0
 have HR:=zh hR
 have HS:=zh hs
 obtain⟨rb,hrb⟩:∃ rb,(!decide (e.scan.map (·.o)).Nodup)=rb:=⟨_,rfl⟩
 rw[hrb]
 have HRB:Hid (((List.range e.scan.length).find? (namZ e.scan)).isSome=rb):=(namZ_is _).trans hrb
 have HL:=zh hl
 clear b0 hR hs hrb hl
 go_enter Tryz.func101,Tryz.ntmps101
 go_upto_region 1 with fail
 generalize (W.alloc (.cells #[.int .i64 e.kd,.int .i64 e.t,.int .i64 e.s,.int .i64 e.lev,.int .i64 e.o,.int .i64 e.vt,.int .i64 e.vk,.int .i64 e.p,.slice hd.A hd.n hd.c] 60))=W0 at *
 have B1:Hid (Below W.heap.size W (W0.alloc (.cells Tryz.zeroCells149 149))):=B0.out.alloc B0.out.size _
 have KX1:=zh (KX.out.alloc (.cells Tryz.zeroCells149 149))
 have KN:=zh (Blk.new W0 149 Tryz.zeroCells149)
 have HSZ:Hid (W.heap.size≤W0.heap.size):=B0.out.size
 go_upto_region 2 with fail
 obtain⟨Bn,hBn⟩:∃ Bn,W0.heap.size=Bn:=⟨_,rfl⟩
 rw[hBn] at KN HSZ ⊢
 generalize W0.alloc (.cells Tryz.zeroCells149 149)=W1 at *
 have x8:=KX1.out.cell 8
 have HC:=zh (contZ_any 102 eg_scanned11 #[.pointer (some ⟨Bn,0,none⟩)] (namZ e.scan) (fun k X=>Blk X Bn 149 (boolsZ (bsZ (nmF e.scan k) 300)).toArray) (fun j=>j=Bn) hd.A hd.n hd.c e.scan W1 hn ((HR.out.below B1.out).more B1.out.size) (fun X h=>(h.reads (HR.out.below B1.out) B1.out.size (fun k hk e=>by have:=HSZ.out;omega)).more B1.out.size)
  (fun k X Y h hb=>h.below hb h.lt)
  (fun k s X hk hq => by
   have hso:=HS.out s (List.mem_of_getElem? hk)
   obtain⟨on,hon⟩:∃ on:Nat,s.o=(on:Int):=⟨s.o.toNat,by omega⟩
   rw[hon]
   refine (scanned11_any s.t s.k on (by omega) _ (nmF e.scan k on) (bsZ_get (by omega)) Bn X hq).mono ?_
   rintro r X' ⟨h1,h2,h3⟩
   refine⟨?_,?_,h3⟩
   ·rw[h1]
    unfold namZ nmF
    rw[hk]
    simp only[hon]
   ·rwa [bsZ_set (g:=nmF e.scan (k+1))] at h2
    ·unfold nmF
     rw[takeZ hk,List.any_append]
     simp[hon]
    ·intro u hu hne
     unfold nmF
     rw[takeZ hk,List.any_append]
     have:¬(on:Int)=(u:Int):=fun h=>hne (by omega)
     simp[hon,this]) (by rw[← nmF_zero];exact KN.out))
 go_wp2_with fail
 refine HC.out.mono ?_
 rintro r w2 ⟨rfl,hk2⟩
 have K2:Hid (Below W.heap.size W w2):=B1.out.trans (hk2.below B1.out.size (fun k hk e=>by have:=HSZ.out;omega))
 have HRB2:Hid (((List.range hd.n).find? (namZ e.scan)).isSome=rb):=by show _=_;rw[← HL.out];exact HRB.out
 rw[HRB2.out]
 clear hk2 HC HRB HRB2
 go_wp2_with fail
 go_ret
 exact⟨rfl,K2.out⟩
theorem eg_scanned1:∀ args w,(callFunc 101 args).run Tryz.prog w=.ok (.enter 101 args) w:=enters_of Tryz.func101 (by kernel_rfl) rfl
end Go.Proofs.YtmkknbonmameoaaGreatDoor
