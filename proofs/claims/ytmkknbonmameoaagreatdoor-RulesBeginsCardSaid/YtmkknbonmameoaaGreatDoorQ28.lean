import Derived.Test.YtmkknbonmameoaaGreatDoorQ5
import Derived.Deep.CutRange
import Derived.Deep.DeepCutAuto
import Derived.Lib.AppendIntMem
import Derived.Maps.AppendAt
import Derived.Test.YtmkknbonmameoaaGreatDoorQ23
import Derived.Test.YtmkknbonmameoaaGreatDoorQ18
import Derived.Test.YtmkknbonmameoaaGreatDoorQ17
import Derived.Test.YtmkknbonmameoaaGreatDoorQ16
import Derived.StillTailTactics
import Derived.Test.YtmkknbonmameoaaGreatDoorQ19
-- holds: YtmkknbonmameoaaGreatDoorHIw YtmkknbonmameoaaGreatDoorHIx YtmkknbonmameoaaGreatDoorHIr
namespace Go.Proofs.YtmkknbonmameoaaGreatDoor
open Go.RowKit Go.Shelf
def RestEq (h m:HistM):Prop:=h.ev.2=m.ev.2∧h.od.2=m.od.2∧h.ma.2=m.ma.2∧h.wa.2=m.wa.2
def nilS:SH × List ByteArray:=(⟨none,0,0⟩,[])
def PhA (m h:HistM) (k:Nat):Prop:=(∀ s,s<k→s<4→(h.sort s).2=(m.sort s).2)∧(∀ s,k≤s→s<4→h.sort s=nilS)∧RestEq h m
def PhB (m h:HistM) (k j:Nat):Prop:=(∀ s,s<k→s<4→(h.sort s).2=(m.sort s).2)∧((h.sort k).2=(m.sort k).2.take j∧(h.sort k).1.n=j)∧(∀ s,k<s→s<4→h.sort s=nilS)∧RestEq h m
def NamesEq (h m:HistM):Prop:=∀ s,s<4→(h.sort s).2=(m.sort s).2
section
variable {m h : HistM} {k j : Nat}
theorem PhA.start (hp:PhA m h k) (hk:k<4):PhB m h k 0:=⟨hp.1,by rw[hp.2.1 k (Nat.le_refl _) hk];exact⟨by simp[nilS],rfl⟩,fun s hs h4=>hp.2.1 s (by omega) h4,hp.2.2⟩
theorem PhB.next (hp:PhB m h k j) (hk:k<4) {s:ByteArray} (hs:(m.sort k).2[j]?=some s) {A:Option Addr} {c:Nat}:PhB m (setSort h k (⟨A,(h.sort k).1.n+[s].length,c⟩,(h.sort k).2++[s])) k (j+1):=by
 obtain⟨e1,e2,e3,e4⟩:=set_rest (h:=h) (x:=((⟨A,(h.sort k).1.n+[s].length,c⟩:SH),(h.sort k).2++[s])) hk
 refine⟨fun q hq h4=>by rw[set_other hk h4 (by omega)];exact hp.1 q hq h4,?_,fun q hq h4=>by rw[set_other hk h4 (by omega)];exact hp.2.2.1 q hq h4,?_⟩
 ·rw[set_sort hk]
  refine⟨?_,by simp[hp.2.1.2]⟩
  show (h.sort k).2++[s]=_
  rw[hp.2.1.1,List.take_add_one,hs]
  rfl
 unfold RestEq
 rw[e1,e2,e3,e4]
 exact hp.2.2.2
theorem PhB.all (hp:PhB m h k j) (hk:k<4) (hj:(m.sort k).2.length=j):PhA m h (k+1):=by
 refine⟨fun q hq h4=>?_,fun q hq h4=>hp.2.2.1 q (by omega) h4,hp.2.2.2⟩
 rcases Nat.lt_or_ge q k with h1 | h1
 ·exact hp.1 q h1 h4
 obtain rfl:q=k:=by omega
 rw[hp.2.1.1,List.take_of_length_le (by omega)]
end
theorem nil_names {X:World} (B:Nat):RG 9 1 B X [(strs [],⟨none,0,0⟩),(strs [],⟨none,0,0⟩),(strs [],⟨none,0,0⟩),(strs [],⟨none,0,0⟩)]:=by
 have all:∀ (i:Nat) (p:List Value × SH),[(strs [],(⟨none,0,0⟩:SH)),(strs [],⟨none,0,0⟩),(strs [],⟨none,0,0⟩),(strs [],⟨none,0,0⟩)][i]?=some p→p=(strs [],⟨none,0,0⟩):=by
  intro i p hp
  have:=List.mem_of_getElem? hp
  simpa using this
 exact⟨fun i p hp=>by rw[all i p hp];exact World.ownsRow_nil _ _ _ _,fun i j p q hp hq hij g hg=>by rw[all i p hp] at hg;cases hg⟩
theorem own_step {B R:Nat} {X:World} {h:HistM} {cs:Array Value} (ho:HOwn B X h) (hb:Blk X R 28 cs) (j:Nat) (u:Value):HOwn B (X.setCell ⟨R,j,none⟩ u) h∧Blk (X.setCell ⟨R,j,none⟩ u) R 28 (cs.setIfInBounds j u) :=
 ⟨ho.keepT (box_turn hb j u) (by decide) (by decide) (by decide) (by decide) (by decide) (by decide) (by decide),hb.set_ j u⟩
theorem pl_all {m h:HistM} (hn:NamesEq h m) (hr:RestEq h m) (hl:h.ev.1.n=m.ev.1.n∧h.od.1.n=m.od.1.n∧h.ma.1.n=m.ma.1.n∧h.wa.1.n=m.wa.1.n):PlL m h:=by
 have h0:h.tr.2=m.tr.2:=hn 0 (by omega)
 have h1:h.se.2=m.se.2:=hn 1 (by omega)
 have h2:h.ob.2=m.ob.2:=hn 2 (by omega)
 have h3:h.pr.2=m.pr.2:=hn 3 (by omega)
 obtain⟨r1,r2,r3,r4⟩:=hr
 refine⟨?_,hl⟩
 unfold HistM.pl
 rw[h0,h1,h2,h3,r1,r2,r3,r4]
theorem nil_sort {s:Nat} (hs:s<4) {a:SH × List (EvP × SH)} {b:SH × List (OrdP × SH)} {c:SH × List (MatP × SH)} {d:SH × List WantP}:HistM.sort ⟨nilS,nilS,nilS,nilS,a,b,c,d⟩ s=nilS:=by
 have:s=0∨s=1∨s=2∨s=3:=by omega
 rcases this with rfl | rfl | rfl | rfl<;>rfl
structure C0 (Bh:Nat) (w:World) (m:HistM) (X:World):Prop where
 bb:Below w.heap.size w X
 kh:Blk X Bh 28 m.cs
 kr:Blk X (Bh+1) 28 zeroH
theorem C0.on {Bh:Nat} {w X Y:World} {m:HistM} (c:C0 Bh w m X) (hb:Below X.heap.size X Y):C0 Bh w m Y:=⟨c.bb.trans (hb.mono c.bb.size),c.kh.below hb c.kh.lt,c.kr.below hb c.kr.lt⟩
theorem C0.apart {Bh:Nat} {w X:World} {m:HistM} (c:C0 Bh w m X):X.heap.size≠Bh∧X.heap.size≠Bh+1∧w.heap.size≤X.heap.size:=⟨Ne.symm (Nat.ne_of_lt c.kh.lt),Ne.symm (Nat.ne_of_lt c.kr.lt),c.bb.size⟩
def Ns (h m:HistM):Prop:=h.ev.1.n=m.ev.1.n∧h.od.1.n=m.od.1.n∧h.ma.1.n=m.ma.1.n∧h.wa.1.n=m.wa.1.n
theorem C0.store {Bh g c4 c5 c6 c7:Nat} {A4 A5 A6 A7:Option Addr} {w X:World} {m:HistM} (c:C0 Bh w m X) (hg:Blk X g 28 zeroH) (hn:g≠Bh∧g≠Bh+1∧w.heap.size≤g) (hB:w.heap.size≤Bh)
 (o4:X.ownsRow w.heap.size 60 9 (.slice A4 m.ev.1.n c4) m.ev.1.n (m.ev.2.flatMap evCs)) (o5:X.ownsRow w.heap.size 66 2 (.slice A5 m.od.1.n c5) m.od.1.n (m.od.2.flatMap odCs))
 (o6:X.ownsRow w.heap.size 69 4 (.slice A6 m.ma.1.n c6) m.ma.1.n (m.ma.2.flatMap maCs)) (o7:X.ownsRow w.heap.size 72 2 (.slice A7 m.wa.1.n c7) m.wa.1.n (m.wa.2.flatMap waCs)) :
 ∃ h:HistM,h=⟨nilS,nilS,nilS,nilS,(⟨A4,m.ev.1.n,c4⟩,m.ev.2),(⟨A5,m.od.1.n,c5⟩,m.od.2),(⟨A6,m.ma.1.n,c6⟩,m.ma.2),(⟨A7,m.wa.1.n,c7⟩,m.wa.2)⟩ ∧
  CpI Bh g w ((((((((X.setCell ⟨g,0,none⟩ (.slice none 0 0)).setCell ⟨g,1,none⟩ (.slice none 0 0)).setCell ⟨g,2,none⟩ (.slice none 0 0)).setCell ⟨g,3,none⟩ (.slice none 0 0)).setCell ⟨g,4,none⟩ (.slice A4 m.ev.1.n c4)).setCell ⟨g,5,none⟩ (.slice A5 m.od.1.n c5)).setCell ⟨g,6,none⟩ (.slice A6 m.ma.1.n c6)).setCell ⟨g,7,none⟩ (.slice A7 m.wa.1.n c7)) h [] [] ∧
  Blk ((((((((X.setCell ⟨g,0,none⟩ (.slice none 0 0)).setCell ⟨g,1,none⟩ (.slice none 0 0)).setCell ⟨g,2,none⟩ (.slice none 0 0)).setCell ⟨g,3,none⟩ (.slice none 0 0)).setCell ⟨g,4,none⟩ (.slice A4 m.ev.1.n c4)).setCell ⟨g,5,none⟩ (.slice A5 m.od.1.n c5)).setCell ⟨g,6,none⟩ (.slice A6 m.ma.1.n c6)).setCell ⟨g,7,none⟩ (.slice A7 m.wa.1.n c7)) Bh 28 m.cs∧PhA m h 0∧Ns h m:=by
 obtain⟨h1,h2,h3⟩:=fill8 hg (.slice none 0 0) (.slice none 0 0) (.slice none 0 0) (.slice none 0 0) (.slice A4 m.ev.1.n c4) (.slice A5 m.od.1.n c5) (.slice A6 m.ma.1.n c6) (.slice A7 m.wa.1.n c7)
 have kt:KeepT 28 X _:=h2 (fun j=>∀ cs,¬Blk X j 28 cs) (fun h=>h _ hg)
 have kg:=h2 (fun j=>j≠g) (fun h=>h rfl)
 exact⟨_,rfl,⟨h3 w c.bb hn.2.2,h1,Keep.blk kg c.kr (Ne.symm hn.2.1),⟨hn.1,hn.2.1,hn.2.2,hB⟩,nil_names _,kt.own o4 (by decide),kt.own o5 (by decide),kt.own o6 (by decide),kt.own o7 (by decide),RG.nil,RG.nil⟩,
  Keep.blk kg c.kh (Ne.symm hn.1),⟨fun s hs=>absurd hs (Nat.not_lt_zero _),fun s _ h4=>nil_sort h4,rfl,rfl,rfl,rfl⟩,⟨rfl,rfl,rfl,rfl⟩⟩
theorem Ns.text {h m:HistM} {k:Nat} (hn:Ns h m) (hk:k<4) (x:SH × List ByteArray):Ns (setSort h k x) m:=by
 obtain⟨e1,e2,e3,e4⟩:=set_rest (h:=h) (x:=x) hk
 unfold Ns
 rw[e1,e2,e3,e4]
 exact hn
structure LowS (m:HistM):Prop where
 ev:m.ev.1.n≤1000
 od:m.od.1.n≤1000
 ma:m.ma.1.n≤1000
 wa:m.wa.1.n≤1000
 sc:∀ p∈m.ev.2,p.2.n≤1000
 ot:∀ p∈m.od.2,p.2.n≤1000
 mt:∀ p∈m.ma.2,p.2.n≤1000
theorem Fit.lows {m:HistM} (h:Fit m) (hs:Small m.pl):LowS m :=
 ⟨by rw[← h.ev.1];have:=hs.ev;simp[HistM.pl] at this;omega,by rw[← h.od.1];have:=hs.od;simp[HistM.pl] at this;omega,by rw[← h.ma.1];have:=hs.ma;simp[HistM.pl] at this;omega,by rw[← h.wa.1];have:=hs.wa;simp[HistM.pl] at this;omega,
  fun p hp=>by rw[← (h.sc p hp).1];have:=hs.sc p.1 (List.mem_map.2 ⟨p,hp,rfl⟩);omega,fun p hp=>by rw[← (h.ot p hp).1];have:=hs.ot p.1 (List.mem_map.2 ⟨p,hp,rfl⟩);omega,fun p hp=>by rw[← (h.mt p hp).1];have:=hs.mt p.1 (List.mem_map.2 ⟨p,hp,rfl⟩);omega⟩
set_option maxRecDepth 100000 in
set_option maxHeartbeats 16000000 in
theorem copied_any (m:HistM) (hS:Small m.pl) (w:World) (hm:HRd w w.heap.size m):Calls Tryz.prog 42 #[.agg #[.slice m.tr.1.A m.tr.1.n m.tr.1.c,.slice m.se.1.A m.se.1.n m.se.1.c,.slice m.ob.1.A m.ob.1.n m.ob.1.c,.slice m.pr.1.A m.pr.1.n m.pr.1.c,.slice m.ev.1.A m.ev.1.n m.ev.1.c,.slice m.od.1.A m.od.1.n m.od.1.c,.slice m.ma.1.A m.ma.1.n m.ma.1.c,.slice m.wa.1.A m.wa.1.n m.wa.1.c]] w fun e w'=>∃ n:HistM,e=.returned (.agg #[.slice n.tr.1.A n.tr.1.n n.tr.1.c,.slice n.se.1.A n.se.1.n n.se.1.c,.slice n.ob.1.A n.ob.1.n n.ob.1.c,.slice n.pr.1.A n.pr.1.n n.pr.1.c,.slice n.ev.1.A n.ev.1.n n.ev.1.c,.slice n.od.1.A n.od.1.n n.od.1.c,.slice n.ma.1.A n.ma.1.n n.ma.1.c,.slice n.wa.1.A n.wa.1.n n.wa.1.c])∧HOwn w.heap.size w' n∧n.pl=m.pl∧Below w.heap.size w w':=by
 obtain⟨i0,hi,hz0,hz1,hz2⟩:=info_parts str_info
 obtain⟨kh,kr,b0,hs0⟩:=itwo w #[.slice m.tr.1.A m.tr.1.n m.tr.1.c,.slice m.se.1.A m.se.1.n m.se.1.c,.slice m.ob.1.A m.ob.1.n m.ob.1.c,.slice m.pr.1.A m.pr.1.n m.pr.1.c,.slice m.ev.1.A m.ev.1.n m.ev.1.c,.slice m.od.1.A m.od.1.n m.od.1.c,.slice m.ma.1.A m.ma.1.n m.ma.1.c,.slice m.wa.1.A m.wa.1.n m.wa.1.c] #[.slice none 0 0,.slice none 0 0,.slice none 0 0,.slice none 0 0,.slice none 0 0,.slice none 0 0,.slice none 0 0,.slice none 0 0] 28 28
 obtain⟨W0,hW0⟩:∃ W0,W0=((w.alloc (.cells #[.slice m.tr.1.A m.tr.1.n m.tr.1.c,.slice m.se.1.A m.se.1.n m.se.1.c,.slice m.ob.1.A m.ob.1.n m.ob.1.c,.slice m.pr.1.A m.pr.1.n m.pr.1.c,.slice m.ev.1.A m.ev.1.n m.ev.1.c,.slice m.od.1.A m.od.1.n m.od.1.c,.slice m.ma.1.A m.ma.1.n m.ma.1.c,.slice m.wa.1.A m.wa.1.n m.wa.1.c] 28)).alloc (.cells #[.slice none 0 0,.slice none 0 0,.slice none 0 0,.slice none 0 0,.slice none 0 0,.slice none 0 0,.slice none 0 0,.slice none 0 0] 28)):=⟨_,rfl⟩
 rw[← hW0] at kh kr b0
 obtain⟨Bh,hBh⟩:∃ Bh,Bh=w.heap.size:=⟨_,rfl⟩
 have HBH:Hid (w.heap.size≤Bh):=by show _≤_;omega
 have C0:Hid (C0 Bh w m W0):=by rw[hBh];exact⟨b0,kh,kr⟩
 have HLW:=zh (hm.fit.lows hS)
 clear kh kr b0 hs0
 go_enter Tryz.func42,Tryz.ntmps42
 go_upto_region 1 with fail
 rw[← hBh,← hW0]
 clear hBh hW0
 go_cut [3] (fun s3 wx=>∃ (B3:Nat) (h:HistM),s3=.pointer (some ⟨B3,0,none⟩)∧Hid (CpI Bh B3 w wx h [] [])∧Hid (Blk wx Bh 28 m.cs)∧Hid (PhA m h 0)∧Hid (Ns h m))
 case first =>
  refine wp_region_noPanic ?_
  refine wp_region_K (S:=fun W=>Blk W Bh 28 m.cs) 14 (by kernel_rfl) C0.out.kh.drew (fun hHeld=>?_)
  have C0:=zh (C0.out.on (Below.refl _ _).drew)
  generalize W0.drew=wd at *
  refine ka 0 (some 12) (.pointer (some ⟨Bh,4,none⟩)) rfl rfl (fun w'=>by go_simp) ?_
  try simp only[Act.put,zK]
  refine kv 1 (some 13) (.slice m.ev.1.A m.ev.1.n m.ev.1.c) rfl rfl (fun w' hSw=>by have c9:w'.cell? ⟨Bh,4,none⟩=some (.slice m.ev.1.A m.ev.1.n m.ev.1.c):=Blk.cell (w:=w') hSw 4;go_simp) ?_
  try simp only[Act.put,zK]
  refine ka 3 (some 15) (.pointer (some ⟨Bh,5,none⟩)) rfl rfl (fun w'=>by go_simp) ?_
  try simp only[Act.put,zK]
  refine kv 4 (some 16) (.slice m.od.1.A m.od.1.n m.od.1.c) rfl rfl (fun w' hSw=>by have c9:w'.cell? ⟨Bh,5,none⟩=some (.slice m.od.1.A m.od.1.n m.od.1.c):=Blk.cell (w:=w') hSw 5;go_simp) ?_
  try simp only[Act.put,zK]
  refine ka 6 (some 18) (.pointer (some ⟨Bh,6,none⟩)) rfl rfl (fun w'=>by go_simp) ?_
  try simp only[Act.put,zK]
  refine kv 7 (some 19) (.slice m.ma.1.A m.ma.1.n m.ma.1.c) rfl rfl (fun w' hSw=>by have c9:w'.cell? ⟨Bh,6,none⟩=some (.slice m.ma.1.A m.ma.1.n m.ma.1.c):=Blk.cell (w:=w') hSw 6;go_simp) ?_
  try simp only[Act.put,zK]
  refine ka 9 (some 21) (.pointer (some ⟨Bh,7,none⟩)) rfl rfl (fun w'=>by go_simp) ?_
  try simp only[Act.put,zK]
  refine kv 10 (some 22) (.slice m.wa.1.A m.wa.1.n m.wa.1.c) rfl rfl (fun w' hSw=>by have c9:w'.cell? ⟨Bh,7,none⟩=some (.slice m.wa.1.A m.wa.1.n m.wa.1.c):=Blk.cell (w:=w') hSw 7;go_simp) ?_
  try simp only[Act.put,zK]
  refine kr [2,13] ?_
  refine kc rfl (fun K hK=>?_) ?_
  ·go_simp
   refine (clone_ev m.ev.1.A m.ev.1.n m.ev.1.c m.ev.2 (by have:=HLW.out.ev;omega) wd ((hm.ev.below C0.out.bb).more C0.out.bb.size)).mono ?_
   rintro e u4 ⟨A4,c4,rfl,ho,hb⟩
   have O4:=zh (own_mono ho C0.out.bb.size)
   have C0:=zh (C0.out.on hb)
   clear ho hb hHeld
   go_simp
   refine hK.out _ _ C0.out.kh (fun hHeld=>?_)
   clear hK K
   try simp only[Act.put,zK]
   refine kr [5,13] ?_
   refine kc rfl (fun K hK=>?_) ?_
   ·go_simp
    refine (clone_od m.od.1.A m.od.1.n m.od.1.c m.od.2 (by have:=HLW.out.od;omega) u4 ((hm.od.below C0.out.bb).more C0.out.bb.size)).mono ?_
    rintro e u5 ⟨A5,c5,rfl,ho,hb⟩
    have O5:=zh (own_mono ho C0.out.bb.size)
    have C0:=zh (C0.out.on hb)
    have O4:=zh (own_on O4.out hb)
    clear ho hb hHeld
    go_simp
    refine hK.out _ _ C0.out.kh (fun hHeld=>?_)
    clear hK K
    try simp only[Act.put,zK]
    refine kr [8,13] ?_
    refine kc rfl (fun K hK=>?_) ?_
    ·go_simp
     refine (clone_ma m.ma.1.A m.ma.1.n m.ma.1.c m.ma.2 (by have:=HLW.out.ma;omega) u5 ((hm.ma.below C0.out.bb).more C0.out.bb.size)).mono ?_
     rintro e u6 ⟨A6,c6,rfl,ho,hb⟩
     have O6:=zh (own_mono ho C0.out.bb.size)
     have C0:=zh (C0.out.on hb)
     have O4:=zh (own_on O4.out hb)
     have O5:=zh (own_on O5.out hb)
     clear ho hb hHeld
     go_simp
     refine hK.out _ _ C0.out.kh (fun hHeld=>?_)
     clear hK K
     try simp only[Act.put,zK]
     refine kr [11,13] ?_
     refine kc rfl (fun K hK=>?_) ?_
     ·go_simp
      refine (clone_wa m.wa.1.A m.wa.1.n m.wa.1.c m.wa.2 (by have:=HLW.out.wa;omega) u6 ((hm.wa.below C0.out.bb).more C0.out.bb.size)).mono ?_
      rintro e u7 ⟨A7,c7,rfl,ho,hb⟩
      have O7:=zh (own_mono ho C0.out.bb.size)
      have C0:=zh (C0.out.on hb)
      have O4:=zh (own_on O4.out hb)
      have O5:=zh (own_on O5.out hb)
      have O6:=zh (own_on O6.out hb)
      clear ho hb hHeld
      go_simp
      refine hK.out _ _ C0.out.kh (fun hHeld=>?_)
      clear hK K
      try simp only[Act.put,zK]
      refine ka 12 (some 24) (.agg #[.slice none 0 0,.slice none 0 0,.slice none 0 0,.slice none 0 0,.slice A4 m.ev.1.n c4,.slice A5 m.od.1.n c5,.slice A6 m.ma.1.n c6,.slice A7 m.wa.1.n c7]) rfl rfl (fun w'=>by go_simp) ?_
      try simp only[Act.put,zK]
      refine kr [13] ?_
      refine kc rfl (fun K hK=>?_) kn
      go_simp
      refine hK.out _ _ (C0.out.kh.alloc _) (fun hHeld=>?_)
      clear hK K
      try simp only[Act.put,zK]
      have HGN:=zh C0.out.apart
      have hb:=(Below.refl _ u7).alloc (Nat.le_refl _) (.cells #[.slice none 0 0,.slice none 0 0,.slice none 0 0,.slice none 0 0,.slice none 0 0,.slice none 0 0,.slice none 0 0,.slice none 0 0] 28)
      have C0:=zh (C0.out.on hb)
      have O4:=zh (own_on O4.out hb)
      have O5:=zh (own_on O5.out hb)
      have O6:=zh (own_on O6.out hb)
      have O7:=zh (own_on O7.out hb)
      have KG:Hid (Blk (u7.alloc (.cells #[.slice none 0 0,.slice none 0 0,.slice none 0 0,.slice none 0 0,.slice none 0 0,.slice none 0 0,.slice none 0 0,.slice none 0 0] 28)) u7.heap.size 28 zeroH):=Blk.new _ _ _
      clear hHeld hb
      generalize u7.alloc (.cells #[.slice none 0 0,.slice none 0 0,.slice none 0 0,.slice none 0 0,.slice none 0 0,.slice none 0 0,.slice none 0 0,.slice none 0 0] 28)=ua at *
      generalize u7.heap.size=g at *
      have hHeld:=C0.out.kh
      refine kr [14] ?_
      refine kz (o:={dst:=none,op:=Op.store 28 (Operand.tmp 3) (Operand.tmp 24),type:=0,pos:="rows.go:125",after:=#[⟨13,.data⟩,⟨12,.data⟩,⟨11,.chain⟩,⟨0,.phase⟩,⟨1,.phase⟩,⟨2,.phase⟩,⟨3,.phase⟩,⟨4,.phase⟩,⟨5,.phase⟩,⟨6,.phase⟩,⟨7,.phase⟩,⟨8,.phase⟩,⟨9,.phase⟩,⟨10,.phase⟩,⟨11,.phase⟩,⟨12,.phase⟩,⟨13,.phase⟩],guard:=none}) rfl (fun K hK=>?_)
      obtain⟨⟨y0,y1,y2,y3,y4,y5,y6,y7⟩,f0,f1,f2,f3,f4,f5,f6,f7⟩:=cf8 KG.out
      go_simp
      clear hHeld y0 f0 y1 f1 y2 f2 y3 f3 y4 f4 y5 f5 y6 f6 y7 f7
      refine hK.out _ _ ?_
      clear hK K
      try simp only[Act.put]
      refine kd (by kernel_rfl) ?_ _
      refine NoPanic.normal ?_
      obtain⟨h,hh,r⟩:=C0.out.store KG.out HGN.out HBH.out O4.out O5.out O6.out O7.out
      go_wp2_with fail
      go_meet
      exact⟨g,h,rfl,r.1,r.2.1,r.2.2.1,r.2.2.2⟩
     refine kc rfl (fun K hK=>?_) ?_
     ·go_simp
      refine hK.out _ _ (C0.out.kh.alloc _) (fun hHeld=>?_)
      clear hK K
      try simp only[Act.put,zK]
      have HGN:=zh C0.out.apart
      have hb:=(Below.refl _ u6).alloc (Nat.le_refl _) (.cells #[.slice none 0 0,.slice none 0 0,.slice none 0 0,.slice none 0 0,.slice none 0 0,.slice none 0 0,.slice none 0 0,.slice none 0 0] 28)
      have C0:=zh (C0.out.on hb)
      have O4:=zh (own_on O4.out hb)
      have O5:=zh (own_on O5.out hb)
      have O6:=zh (own_on O6.out hb)
      have KG:Hid (Blk (u6.alloc (.cells #[.slice none 0 0,.slice none 0 0,.slice none 0 0,.slice none 0 0,.slice none 0 0,.slice none 0 0,.slice none 0 0,.slice none 0 0] 28)) u6.heap.size 28 zeroH):=Blk.new _ _ _
      clear hHeld hb
      generalize u6.alloc (.cells #[.slice none 0 0,.slice none 0 0,.slice none 0 0,.slice none 0 0,.slice none 0 0,.slice none 0 0,.slice none 0 0,.slice none 0 0] 28)=ua at *
      generalize u6.heap.size=g at *
      have hHeld:=C0.out.kh
      refine kr [11] ?_
      refine kc rfl (fun K hK=>?_) kn
      go_simp
      refine (clone_wa m.wa.1.A m.wa.1.n m.wa.1.c m.wa.2 (by have:=HLW.out.wa;omega) ua ((hm.wa.below C0.out.bb).more C0.out.bb.size)).mono ?_
      rintro e u7 ⟨A7,c7,rfl,ho,hb⟩
      have O7:=zh (own_mono ho C0.out.bb.size)
      have C0:=zh (C0.out.on hb)
      have O4:=zh (own_on O4.out hb)
      have O5:=zh (own_on O5.out hb)
      have O6:=zh (own_on O6.out hb)
      have KG:=zh (KG.out.below hb KG.out.lt)
      clear ho hb hHeld
      go_simp
      refine hK.out _ _ C0.out.kh (fun hHeld=>?_)
      clear hK K
      try simp only[Act.put,zK]
      refine ka 12 (some 24) (.agg #[.slice none 0 0,.slice none 0 0,.slice none 0 0,.slice none 0 0,.slice A4 m.ev.1.n c4,.slice A5 m.od.1.n c5,.slice A6 m.ma.1.n c6,.slice A7 m.wa.1.n c7]) rfl rfl (fun w'=>by go_simp) ?_
      try simp only[Act.put,zK]
      refine kr [14] ?_
      refine kz (o:={dst:=none,op:=Op.store 28 (Operand.tmp 3) (Operand.tmp 24),type:=0,pos:="rows.go:125",after:=#[⟨13,.data⟩,⟨12,.data⟩,⟨11,.chain⟩,⟨0,.phase⟩,⟨1,.phase⟩,⟨2,.phase⟩,⟨3,.phase⟩,⟨4,.phase⟩,⟨5,.phase⟩,⟨6,.phase⟩,⟨7,.phase⟩,⟨8,.phase⟩,⟨9,.phase⟩,⟨10,.phase⟩,⟨11,.phase⟩,⟨12,.phase⟩,⟨13,.phase⟩],guard:=none}) rfl (fun K hK=>?_)
      obtain⟨⟨y0,y1,y2,y3,y4,y5,y6,y7⟩,f0,f1,f2,f3,f4,f5,f6,f7⟩:=cf8 KG.out
      go_simp
      clear hHeld y0 f0 y1 f1 y2 f2 y3 f3 y4 f4 y5 f5 y6 f6 y7 f7
      refine hK.out _ _ ?_
      clear hK K
      try simp only[Act.put]
      refine kd (by kernel_rfl) ?_ _
      refine NoPanic.normal ?_
      obtain⟨h,hh,r⟩:=C0.out.store KG.out HGN.out HBH.out O4.out O5.out O6.out O7.out
      go_wp2_with fail
      go_meet
      exact⟨g,h,rfl,r.1,r.2.1,r.2.2.1,r.2.2.2⟩
     exact kn
    refine kc rfl (fun K hK=>?_) ?_
    ·go_simp
     refine hK.out _ _ (C0.out.kh.alloc _) (fun hHeld=>?_)
     clear hK K
     try simp only[Act.put,zK]
     have HGN:=zh C0.out.apart
     have hb:=(Below.refl _ u5).alloc (Nat.le_refl _) (.cells #[.slice none 0 0,.slice none 0 0,.slice none 0 0,.slice none 0 0,.slice none 0 0,.slice none 0 0,.slice none 0 0,.slice none 0 0] 28)
     have C0:=zh (C0.out.on hb)
     have O4:=zh (own_on O4.out hb)
     have O5:=zh (own_on O5.out hb)
     have KG:Hid (Blk (u5.alloc (.cells #[.slice none 0 0,.slice none 0 0,.slice none 0 0,.slice none 0 0,.slice none 0 0,.slice none 0 0,.slice none 0 0,.slice none 0 0] 28)) u5.heap.size 28 zeroH):=Blk.new _ _ _
     clear hHeld hb
     generalize u5.alloc (.cells #[.slice none 0 0,.slice none 0 0,.slice none 0 0,.slice none 0 0,.slice none 0 0,.slice none 0 0,.slice none 0 0,.slice none 0 0] 28)=ua at *
     generalize u5.heap.size=g at *
     have hHeld:=C0.out.kh
     refine kr [8] ?_
     refine kc rfl (fun K hK=>?_) kn
     go_simp
     refine (clone_ma m.ma.1.A m.ma.1.n m.ma.1.c m.ma.2 (by have:=HLW.out.ma;omega) ua ((hm.ma.below C0.out.bb).more C0.out.bb.size)).mono ?_
     rintro e u6 ⟨A6,c6,rfl,ho,hb⟩
     have O6:=zh (own_mono ho C0.out.bb.size)
     have C0:=zh (C0.out.on hb)
     have O4:=zh (own_on O4.out hb)
     have O5:=zh (own_on O5.out hb)
     have KG:=zh (KG.out.below hb KG.out.lt)
     clear ho hb hHeld
     go_simp
     refine hK.out _ _ C0.out.kh (fun hHeld=>?_)
     clear hK K
     try simp only[Act.put,zK]
     refine kr [11] ?_
     refine kc rfl (fun K hK=>?_) kn
     go_simp
     refine (clone_wa m.wa.1.A m.wa.1.n m.wa.1.c m.wa.2 (by have:=HLW.out.wa;omega) u6 ((hm.wa.below C0.out.bb).more C0.out.bb.size)).mono ?_
     rintro e u7 ⟨A7,c7,rfl,ho,hb⟩
     have O7:=zh (own_mono ho C0.out.bb.size)
     have C0:=zh (C0.out.on hb)
     have O4:=zh (own_on O4.out hb)
     have O5:=zh (own_on O5.out hb)
     have O6:=zh (own_on O6.out hb)
     have KG:=zh (KG.out.below hb KG.out.lt)
     clear ho hb hHeld
     go_simp
     refine hK.out _ _ C0.out.kh (fun hHeld=>?_)
     clear hK K
     try simp only[Act.put,zK]
     refine ka 12 (some 24) (.agg #[.slice none 0 0,.slice none 0 0,.slice none 0 0,.slice none 0 0,.slice A4 m.ev.1.n c4,.slice A5 m.od.1.n c5,.slice A6 m.ma.1.n c6,.slice A7 m.wa.1.n c7]) rfl rfl (fun w'=>by go_simp) ?_
     try simp only[Act.put,zK]
     refine kr [14] ?_
     refine kz (o:={dst:=none,op:=Op.store 28 (Operand.tmp 3) (Operand.tmp 24),type:=0,pos:="rows.go:125",after:=#[⟨13,.data⟩,⟨12,.data⟩,⟨11,.chain⟩,⟨0,.phase⟩,⟨1,.phase⟩,⟨2,.phase⟩,⟨3,.phase⟩,⟨4,.phase⟩,⟨5,.phase⟩,⟨6,.phase⟩,⟨7,.phase⟩,⟨8,.phase⟩,⟨9,.phase⟩,⟨10,.phase⟩,⟨11,.phase⟩,⟨12,.phase⟩,⟨13,.phase⟩],guard:=none}) rfl (fun K hK=>?_)
     obtain⟨⟨y0,y1,y2,y3,y4,y5,y6,y7⟩,f0,f1,f2,f3,f4,f5,f6,f7⟩:=cf8 KG.out
     go_simp
     clear hHeld y0 f0 y1 f1 y2 f2 y3 f3 y4 f4 y5 f5 y6 f6 y7 f7
     refine hK.out _ _ ?_
     clear hK K
     try simp only[Act.put]
     refine kd (by kernel_rfl) ?_ _
     refine NoPanic.normal ?_
     obtain⟨h,hh,r⟩:=C0.out.store KG.out HGN.out HBH.out O4.out O5.out O6.out O7.out
     go_wp2_with fail
     go_meet
     exact⟨g,h,rfl,r.1,r.2.1,r.2.2.1,r.2.2.2⟩
    exact kn
   refine kc rfl (fun K hK=>?_) ?_
   ·go_simp
    refine hK.out _ _ (C0.out.kh.alloc _) (fun hHeld=>?_)
    clear hK K
    try simp only[Act.put,zK]
    have HGN:=zh C0.out.apart
    have hb:=(Below.refl _ u4).alloc (Nat.le_refl _) (.cells #[.slice none 0 0,.slice none 0 0,.slice none 0 0,.slice none 0 0,.slice none 0 0,.slice none 0 0,.slice none 0 0,.slice none 0 0] 28)
    have C0:=zh (C0.out.on hb)
    have O4:=zh (own_on O4.out hb)
    have KG:Hid (Blk (u4.alloc (.cells #[.slice none 0 0,.slice none 0 0,.slice none 0 0,.slice none 0 0,.slice none 0 0,.slice none 0 0,.slice none 0 0,.slice none 0 0] 28)) u4.heap.size 28 zeroH):=Blk.new _ _ _
    clear hHeld hb
    generalize u4.alloc (.cells #[.slice none 0 0,.slice none 0 0,.slice none 0 0,.slice none 0 0,.slice none 0 0,.slice none 0 0,.slice none 0 0,.slice none 0 0] 28)=ua at *
    generalize u4.heap.size=g at *
    have hHeld:=C0.out.kh
    refine kr [5] ?_
    refine kc rfl (fun K hK=>?_) kn
    go_simp
    refine (clone_od m.od.1.A m.od.1.n m.od.1.c m.od.2 (by have:=HLW.out.od;omega) ua ((hm.od.below C0.out.bb).more C0.out.bb.size)).mono ?_
    rintro e u5 ⟨A5,c5,rfl,ho,hb⟩
    have O5:=zh (own_mono ho C0.out.bb.size)
    have C0:=zh (C0.out.on hb)
    have O4:=zh (own_on O4.out hb)
    have KG:=zh (KG.out.below hb KG.out.lt)
    clear ho hb hHeld
    go_simp
    refine hK.out _ _ C0.out.kh (fun hHeld=>?_)
    clear hK K
    try simp only[Act.put,zK]
    refine kr [8] ?_
    refine kc rfl (fun K hK=>?_) kn
    go_simp
    refine (clone_ma m.ma.1.A m.ma.1.n m.ma.1.c m.ma.2 (by have:=HLW.out.ma;omega) u5 ((hm.ma.below C0.out.bb).more C0.out.bb.size)).mono ?_
    rintro e u6 ⟨A6,c6,rfl,ho,hb⟩
    have O6:=zh (own_mono ho C0.out.bb.size)
    have C0:=zh (C0.out.on hb)
    have O4:=zh (own_on O4.out hb)
    have O5:=zh (own_on O5.out hb)
    have KG:=zh (KG.out.below hb KG.out.lt)
    clear ho hb hHeld
    go_simp
    refine hK.out _ _ C0.out.kh (fun hHeld=>?_)
    clear hK K
    try simp only[Act.put,zK]
    refine kr [11] ?_
    refine kc rfl (fun K hK=>?_) kn
    go_simp
    refine (clone_wa m.wa.1.A m.wa.1.n m.wa.1.c m.wa.2 (by have:=HLW.out.wa;omega) u6 ((hm.wa.below C0.out.bb).more C0.out.bb.size)).mono ?_
    rintro e u7 ⟨A7,c7,rfl,ho,hb⟩
    have O7:=zh (own_mono ho C0.out.bb.size)
    have C0:=zh (C0.out.on hb)
    have O4:=zh (own_on O4.out hb)
    have O5:=zh (own_on O5.out hb)
    have O6:=zh (own_on O6.out hb)
    have KG:=zh (KG.out.below hb KG.out.lt)
    clear ho hb hHeld
    go_simp
    refine hK.out _ _ C0.out.kh (fun hHeld=>?_)
    clear hK K
    try simp only[Act.put,zK]
    refine ka 12 (some 24) (.agg #[.slice none 0 0,.slice none 0 0,.slice none 0 0,.slice none 0 0,.slice A4 m.ev.1.n c4,.slice A5 m.od.1.n c5,.slice A6 m.ma.1.n c6,.slice A7 m.wa.1.n c7]) rfl rfl (fun w'=>by go_simp) ?_
    try simp only[Act.put,zK]
    refine kr [14] ?_
    refine kz (o:={dst:=none,op:=Op.store 28 (Operand.tmp 3) (Operand.tmp 24),type:=0,pos:="rows.go:125",after:=#[⟨13,.data⟩,⟨12,.data⟩,⟨11,.chain⟩,⟨0,.phase⟩,⟨1,.phase⟩,⟨2,.phase⟩,⟨3,.phase⟩,⟨4,.phase⟩,⟨5,.phase⟩,⟨6,.phase⟩,⟨7,.phase⟩,⟨8,.phase⟩,⟨9,.phase⟩,⟨10,.phase⟩,⟨11,.phase⟩,⟨12,.phase⟩,⟨13,.phase⟩],guard:=none}) rfl (fun K hK=>?_)
    obtain⟨⟨y0,y1,y2,y3,y4,y5,y6,y7⟩,f0,f1,f2,f3,f4,f5,f6,f7⟩:=cf8 KG.out
    go_simp
    clear hHeld y0 f0 y1 f1 y2 f2 y3 f3 y4 f4 y5 f5 y6 f6 y7 f7
    refine hK.out _ _ ?_
    clear hK K
    try simp only[Act.put]
    refine kd (by kernel_rfl) ?_ _
    refine NoPanic.normal ?_
    obtain⟨h,hh,r⟩:=C0.out.store KG.out HGN.out HBH.out O4.out O5.out O6.out O7.out
    go_wp2_with fail
    go_meet
    exact⟨g,h,rfl,r.1,r.2.1,r.2.2.1,r.2.2.2⟩
   exact kn
  refine kc rfl (fun K hK=>?_) ?_
  ·go_simp
   refine hK.out _ _ (C0.out.kh.alloc _) (fun hHeld=>?_)
   clear hK K
   try simp only[Act.put,zK]
   have HGN:=zh C0.out.apart
   have hb:=(Below.refl _ wd).alloc (Nat.le_refl _) (.cells #[.slice none 0 0,.slice none 0 0,.slice none 0 0,.slice none 0 0,.slice none 0 0,.slice none 0 0,.slice none 0 0,.slice none 0 0] 28)
   have C0:=zh (C0.out.on hb)
   have KG:Hid (Blk (wd.alloc (.cells #[.slice none 0 0,.slice none 0 0,.slice none 0 0,.slice none 0 0,.slice none 0 0,.slice none 0 0,.slice none 0 0,.slice none 0 0] 28)) wd.heap.size 28 zeroH):=Blk.new _ _ _
   clear hHeld hb
   generalize wd.alloc (.cells #[.slice none 0 0,.slice none 0 0,.slice none 0 0,.slice none 0 0,.slice none 0 0,.slice none 0 0,.slice none 0 0,.slice none 0 0] 28)=ua at *
   generalize wd.heap.size=g at *
   have hHeld:=C0.out.kh
   refine kr [2] ?_
   refine kc rfl (fun K hK=>?_) kn
   go_simp
   refine (clone_ev m.ev.1.A m.ev.1.n m.ev.1.c m.ev.2 (by have:=HLW.out.ev;omega) ua ((hm.ev.below C0.out.bb).more C0.out.bb.size)).mono ?_
   rintro e u4 ⟨A4,c4,rfl,ho,hb⟩
   have O4:=zh (own_mono ho C0.out.bb.size)
   have C0:=zh (C0.out.on hb)
   have KG:=zh (KG.out.below hb KG.out.lt)
   clear ho hb hHeld
   go_simp
   refine hK.out _ _ C0.out.kh (fun hHeld=>?_)
   clear hK K
   try simp only[Act.put,zK]
   refine kr [5] ?_
   refine kc rfl (fun K hK=>?_) kn
   go_simp
   refine (clone_od m.od.1.A m.od.1.n m.od.1.c m.od.2 (by have:=HLW.out.od;omega) u4 ((hm.od.below C0.out.bb).more C0.out.bb.size)).mono ?_
   rintro e u5 ⟨A5,c5,rfl,ho,hb⟩
   have O5:=zh (own_mono ho C0.out.bb.size)
   have C0:=zh (C0.out.on hb)
   have O4:=zh (own_on O4.out hb)
   have KG:=zh (KG.out.below hb KG.out.lt)
   clear ho hb hHeld
   go_simp
   refine hK.out _ _ C0.out.kh (fun hHeld=>?_)
   clear hK K
   try simp only[Act.put,zK]
   refine kr [8] ?_
   refine kc rfl (fun K hK=>?_) kn
   go_simp
   refine (clone_ma m.ma.1.A m.ma.1.n m.ma.1.c m.ma.2 (by have:=HLW.out.ma;omega) u5 ((hm.ma.below C0.out.bb).more C0.out.bb.size)).mono ?_
   rintro e u6 ⟨A6,c6,rfl,ho,hb⟩
   have O6:=zh (own_mono ho C0.out.bb.size)
   have C0:=zh (C0.out.on hb)
   have O4:=zh (own_on O4.out hb)
   have O5:=zh (own_on O5.out hb)
   have KG:=zh (KG.out.below hb KG.out.lt)
   clear ho hb hHeld
   go_simp
   refine hK.out _ _ C0.out.kh (fun hHeld=>?_)
   clear hK K
   try simp only[Act.put,zK]
   refine kr [11] ?_
   refine kc rfl (fun K hK=>?_) kn
   go_simp
   refine (clone_wa m.wa.1.A m.wa.1.n m.wa.1.c m.wa.2 (by have:=HLW.out.wa;omega) u6 ((hm.wa.below C0.out.bb).more C0.out.bb.size)).mono ?_
   rintro e u7 ⟨A7,c7,rfl,ho,hb⟩
   have O7:=zh (own_mono ho C0.out.bb.size)
   have C0:=zh (C0.out.on hb)
   have O4:=zh (own_on O4.out hb)
   have O5:=zh (own_on O5.out hb)
   have O6:=zh (own_on O6.out hb)
   have KG:=zh (KG.out.below hb KG.out.lt)
   clear ho hb hHeld
   go_simp
   refine hK.out _ _ C0.out.kh (fun hHeld=>?_)
   clear hK K
   try simp only[Act.put,zK]
   refine ka 12 (some 24) (.agg #[.slice none 0 0,.slice none 0 0,.slice none 0 0,.slice none 0 0,.slice A4 m.ev.1.n c4,.slice A5 m.od.1.n c5,.slice A6 m.ma.1.n c6,.slice A7 m.wa.1.n c7]) rfl rfl (fun w'=>by go_simp) ?_
   try simp only[Act.put,zK]
   refine kr [14] ?_
   refine kz (o:={dst:=none,op:=Op.store 28 (Operand.tmp 3) (Operand.tmp 24),type:=0,pos:="rows.go:125",after:=#[⟨13,.data⟩,⟨12,.data⟩,⟨11,.chain⟩,⟨0,.phase⟩,⟨1,.phase⟩,⟨2,.phase⟩,⟨3,.phase⟩,⟨4,.phase⟩,⟨5,.phase⟩,⟨6,.phase⟩,⟨7,.phase⟩,⟨8,.phase⟩,⟨9,.phase⟩,⟨10,.phase⟩,⟨11,.phase⟩,⟨12,.phase⟩,⟨13,.phase⟩],guard:=none}) rfl (fun K hK=>?_)
   obtain⟨⟨y0,y1,y2,y3,y4,y5,y6,y7⟩,f0,f1,f2,f3,f4,f5,f6,f7⟩:=cf8 KG.out
   go_simp
   clear hHeld y0 f0 y1 f1 y2 f2 y3 f3 y4 f4 y5 f5 y6 f6 y7 f7
   refine hK.out _ _ ?_
   clear hK K
   try simp only[Act.put]
   refine kd (by kernel_rfl) ?_ _
   refine NoPanic.normal ?_
   obtain⟨h,hh,r⟩:=C0.out.store KG.out HGN.out HBH.out O4.out O5.out O6.out O7.out
   go_wp2_with fail
   go_meet
   exact⟨g,h,rfl,r.1,r.2.1,r.2.2.1,r.2.2.2⟩
  exact kn
 clear C0
 obtain⟨B3,h,rfl,HC,KH,HP,HNS⟩:=hcut
 go_wp2_with fail
 refine (names_any B3 wc).mono ?_
 rintro e w1 ⟨rfl,b1⟩
 obtain⟨k4,b4,hs4⟩:=ibox w1 #[.pointer (some ⟨B3,0,none⟩),.pointer (some ⟨B3,1,none⟩),.pointer (some ⟨B3,2,none⟩),.pointer (some ⟨B3,3,none⟩)] 95
 have bb:=b1.trans (b4.mono b1.size)
 have HC:=zh (HC.out.on bb)
 have HX:Hid (BoxC m Bh B3 w1.heap.size (w1.alloc (.cells #[.pointer (some ⟨B3,0,none⟩),.pointer (some ⟨B3,1,none⟩),.pointer (some ⟨B3,2,none⟩),.pointer (some ⟨B3,3,none⟩)] 95))):=⟨KH.out.below bb KH.out.lt,k4⟩
 clear b1 k4 b4 hs4 bb KH
 go_wp2_with fail
 generalize w1.alloc (.cells #[.pointer (some ⟨B3,0,none⟩),.pointer (some ⟨B3,1,none⟩),.pointer (some ⟨B3,2,none⟩),.pointer (some ⟨B3,3,none⟩)] 95)=W1 at *
 generalize w1.heap.size=B4 at *
 refine (names_any Bh W1).mono ?_
 rintro e w2 ⟨rfl,b2⟩
 have HC:=zh (HC.out.on b2)
 have HX:=zh (HX.out.on b2)
 clear b2
 go_wp2_with fail
 go_loopw [27] (fun v wr=>∃ (k:Nat) (h:HistM),k≤4∧v=.int .i64 k∧Hid (CpI Bh B3 w wr h [] [])∧Hid (PhA m h k)∧Hid (BoxC m Bh B3 B4 wr)∧Hid (Ns h m)) (fun v _=>4 - (intOf v).toNat)
 case atStart=>exact⟨0,h,by omega,rfl,HC,HP,HX,HNS⟩
 clear HC HP HX HNS
 obtain⟨k,h,hk,rfl,HC,HP,HX,HNS⟩:=hrel
 by_cases hk4:k<4
 ·have hkl:(k:Int)<4:=by omega
  have z1:wr.cell? ⟨Bh,k,none⟩=some (.slice (m.sort k).1.A (m.sort k).1.n (m.sort k).1.c):=(HX.out.1.cell k).trans (cs_sort m k hk4)
  have hix:=idx4 hk4 Bh wr
  have hr:=zh (hm.sort k)
  have hl:=zh (strs_len (hm.sort k))
  have h60:=hS.sort k
  have hnm:(m.sort k).1.n≤60:=by have:=hl.out;omega
  clear h60
  obtain⟨sA,hsA⟩:∃ sA,(m.sort k).1=sA:=⟨_,rfl⟩
  rw[hsA] at z1 hr hl hnm
  obtain⟨A0,n,c0⟩:=sA
  simp only at z1 hr hl hnm
  clear hsA
  go_wp2_with fail
  rename World=>wo
  clear z1 hix
  go_loopw [35] (fun v wr=>∃ (j:Nat) (h:HistM),j≤n∧v=.int .i64 j∧Hid (CpI Bh B3 w wr h [] [])∧Hid (PhB m h k j)∧Hid (BoxC m Bh B3 B4 wr)∧Hid (Ns h m)) (fun v _=>n - (intOf v).toNat)
  case atStart=>exact⟨0,h,Nat.zero_le _,rfl,HC,HP.out.start hk4,HX,HNS⟩
  clear HC HP HX HNS
  obtain⟨j,h,hj,rfl,HC,HP,HX,HNS⟩:=hrel
  by_cases hjn:j<n
  ·have hlt:(j:Int)<(n:Int):=by omega
   obtain⟨s,hs⟩:∃ s,(m.sort k).2[j]?=some s:=⟨(m.sort k).2[j]'(by rw[hl.out];exact hjn),List.getElem?_eq_getElem _⟩
   obtain⟨b,o,rfl,hbb,g0⟩:=str_at (hr.out.below HC.out.below) hs
   have hsz:=hS.sizes hk4 s (List.mem_of_getElem? hs)
   have HCL:=zh (fun W=>sclone_any s (by omega) W)
   have HSJ:=zh hs
   have HJJ:=zh HP.out.2.1.2
   clear hs hsz hbb
   go_wp2_with fail
   refine wp_region_noPanic ?_
   refine wp_region_K (S:=fun W=>W.cell? ⟨B4,k,none⟩=some (.pointer (some ⟨B3,k,none⟩))∧W.cell? ⟨B3,k,none⟩=some (.slice (h.sort k).1.A (h.sort k).1.n (h.sort k).1.c)) 13 (by kernel_rfl) ⟨((HX.out.2.cell k).trans (ptr4_at B3 k hk4)),((HC.out.b3.cell k).trans (cs_sort h k hk4))⟩ (fun hHeld=>?_)
   have HC:=zh (HC.out.on (Below.refl _ _).drew)
   have HX:=zh (HX.out.on (Below.refl _ _).drew)
   generalize wr.drew=wd at *
   refine ka 0 (some 39) (.int .i64 (k:Int)) rfl rfl (fun w'=>by go_simp) ?_
   try simp only[Act.put,zK]
   refine ka 1 (some 40) (.pointer (some ⟨B4,k,none⟩)) rfl rfl (fun w'=>by go_simp) ?_
   try simp only[Act.put,zK]
   refine kv 2 (some 41) (.pointer (some ⟨B3,k,none⟩)) rfl rfl (fun w' hSw=>by have c9:w'.cell? ⟨B4,k,none⟩=some (.pointer (some ⟨B3,k,none⟩)):=hSw.1;go_simp) ?_
   try simp only[Act.put,zK]
   refine ka 3 (some 42) (.int .i64 (k:Int)) rfl rfl (fun w'=>by go_simp) ?_
   try simp only[Act.put,zK]
   refine ka 4 (some 43) (.pointer (some ⟨B4,k,none⟩)) rfl rfl (fun w'=>by go_simp) ?_
   try simp only[Act.put,zK]
   refine kv 5 (some 44) (.pointer (some ⟨B3,k,none⟩)) rfl rfl (fun w' hSw=>by have c9:w'.cell? ⟨B4,k,none⟩=some (.pointer (some ⟨B3,k,none⟩)):=hSw.1;go_simp) ?_
   try simp only[Act.put,zK]
   refine ka 6 (some 45) (.pointer (some ⟨B3,k,none⟩)) rfl rfl (fun w'=>by go_simp) ?_
   try simp only[Act.put,zK]
   refine kv 7 (some 46) (.slice (h.sort k).1.A (h.sort k).1.n (h.sort k).1.c) rfl rfl (fun w' hSw=>by have c9:w'.cell? ⟨B3,k,none⟩=some (.slice (h.sort k).1.A (h.sort k).1.n (h.sort k).1.c):=hSw.2;go_simp) ?_
   try simp only[Act.put,zK]
   refine ka 8 (some 47) (.string s) rfl rfl (fun w'=>by go_simp) ?_
   try simp only[Act.put,zK]
   refine kr [9] ?_
   refine kc rfl (fun K hK=>?_) kn
   go_simp
   refine (HCL.out _).mono ?_
   rintro e w5 ⟨rfl,b5⟩
   have HC:=zh (HC.out.on b5)
   have HX:=zh (HX.out.on b5)
   clear b5 hHeld
   go_simp
   refine hK.out _ _ ⟨((HX.out.2.cell k).trans (ptr4_at B3 k hk4)),((HC.out.b3.cell k).trans (cs_sort h k hk4))⟩ (fun hHeld=>?_)
   clear hK K
   try simp only[Act.put,zK]
   refine kr [10] ?_
   refine kc rfl (fun K hK=>?_) kn
   go_simp
   have hal:=(Below.refl _ w5).alloc (Nat.le_refl _) (.cells #[.string s] 9)
   have HC:=zh (HC.out.on hal)
   have HX:=zh (HX.out.on hal)
   have SL:=zh (str_lit w5 [s] 9 #[.string s] rfl)
   clear hal hHeld
   refine hK.out _ _ ⟨((HX.out.2.cell k).trans (ptr4_at B3 k hk4)),((HC.out.b3.cell k).trans (cs_sort h k hk4))⟩ (fun hHeld=>?_)
   clear hK K
   try simp only[Act.put,zK]
   generalize w5.alloc (.cells #[.string s] 9)=ua at *
   generalize w5.heap.size=XS at *
   refine kr [11] ?_
   refine kc (o:={dst:=some 50,op:=Op.call {callee:=Callee.builtin Builtin.append,args:=#[Operand.tmp 46,Operand.tmp 49],argTypes:=#[22,22]},type:=22,pos:="rows.go:134",after:=#[⟨7,.data⟩,⟨10,.data⟩,⟨9,.chain⟩],guard:=none}) rfl (fun K hK=>?_) kn
   have OWN:=zh (HC.out.nm.own k _ (nms_at hk4))
   have hn3:(h.sort k).1.n≤60:=by have:=HJJ.out;omega
   refine step_append_any _ rfl (.tmp 46) (.tmp 49) 22 rfl w.heap.size 9 i0 _ 1 16 Tryz.underlying22 hi hz0 hz1 hz2 rfl (by decide) (.slice (h.sort k).1.A (h.sort k).1.n (h.sort k).1.c) (h.sort k).1.n _ rfl OWN.out _ (some ⟨XS,0,none⟩) 1 _ (strs [s]) rfl SL.out (strs_one _) (by unfold maxLen;omega) (by omega) HC.out.below.size ?_
   intro v' w6 hown6 hgrow6 hat6;obtain⟨A6,c6,rfl,-,-⟩:=own_form2 hown6
   have HX6:=zh (HX.out.keepT (KeepT.grown OWN.out hgrow6) (by decide) (by decide))
   have KB6:=zh ((KeepT.grown OWN.out hgrow6).blk HC.out.b3 (by decide))
   have HO6:=zh hown6
   have HG6:=zh hgrow6
   have HA6:=zh hat6
   clear hown6 hgrow6 hat6 hHeld
   refine hK.out _ _ ⟨((HX6.out.2.cell k).trans (ptr4_at B3 k hk4)),((KB6.out.cell k).trans (cs_sort h k hk4))⟩ (fun hHeld=>?_)
   clear hK K
   try simp only[Act.put,zK]
   refine ka 12 (some 51) (.pointer (some ⟨B3,k,none⟩)) rfl rfl (fun w'=>by go_simp) ?_
   try simp only[Act.put,zK]
   refine kr [13] ?_
   refine kz (o:={dst:=none,op:=Op.store 22 (Operand.tmp 51) (Operand.tmp 50),type:=0,pos:="rows.go:134",after:=#[⟨12,.data⟩,⟨11,.data⟩,⟨11,.chain⟩,⟨0,.phase⟩,⟨1,.phase⟩,⟨2,.phase⟩,⟨3,.phase⟩,⟨4,.phase⟩,⟨5,.phase⟩,⟨6,.phase⟩,⟨7,.phase⟩,⟨8,.phase⟩,⟨9,.phase⟩,⟨10,.phase⟩,⟨11,.phase⟩],guard:=none}) rfl (fun K hK=>?_)
   have y3:=(KB6.out.cell k).trans (cs_sort h k hk4)
   have f3:=KB6.out.frozen k
   go_simp
   have HX:=zh (HX6.out.far KB6.out HC.out.ne.1 k (.slice A6 ((h.sort k).1.n+1) c6))
   have HC:=zh (HC.out.text (k:=k) (us:=[s]) hk4 HO6.out HG6.out HA6.out)
   have HP:=zh (HP.out.next (A:=A6) (c:=c6) hk4 HSJ.out)
   have HNS:=zh (HNS.out.text hk4 (⟨A6,(h.sort k).1.n+[s].length,c6⟩,(h.sort k).2++[s]))
   clear HX6 KB6 HO6 HG6 HA6 OWN SL hn3 y3 f3 hHeld HJJ
   refine hK.out _ _ ?_
   clear hK K
   try simp only[Act.put]
   refine kd (by kernel_rfl) ?_ _
   refine NoPanic.normal ?_
   go_wp2_with fail
   go_roundw
   case rel=>exact⟨j+1,_,hjn,by go_num,HC,HP,HX,HNS⟩
   case measure=>simp[intOf];omega
  obtain rfl:j=n:=by omega
  have HP:=zh (HP.out.all hk4 hl.out)
  go_wp2_with fail
  go_roundw
  case rel=>exact⟨k+1,h,by omega,by go_num,HC,HP,HX,HNS⟩
  case measure=>simp[intOf];omega
 obtain rfl:k=4:=by omega
 have HNE:Hid (NamesEq h m):=fun s hs=>HP.out.1 s hs hs
 simp only[show ((4:Nat):Int)=4 from rfl]
 clear hk hk4
 have HPL:Hid (PlL m h):=pl_all HNE.out HP.out.2.2 HNS.out
 have HC:Hid (CpI Bh B3 w wr h ((h.ev.2.take 0).map scOf) []):=HC.out
 clear HNE HNS HP
 have z:wr.cell? ⟨B3,4,none⟩=some (.slice h.ev.1.A m.ev.1.n h.ev.1.c):=by rw[← HPL.out.2.1];exact HC.out.b3.cell 4
 go_wp2_with fail
 rename World=>wev
 clear z
 go_loopw [57] (fun v wr=>∃ (i:Nat) (h:HistM),i≤m.ev.1.n∧v=.int .i64 i∧Hid (CpS Bh B3 w wr h i)∧Hid (PlL m h)∧Hid (BoxC m Bh B3 B4 wr)) (fun v _=>m.ev.1.n - (intOf v).toNat)
 case atStart=>exact⟨0,h,Nat.zero_le _,rfl,HC,HPL,HX⟩
 clear HC HPL HX
 obtain⟨i,h,hi0,rfl,HC,HPL,HX⟩:=hrel
 by_cases hin:i<m.ev.1.n
 ·have hlt:(i:Int)<(m.ev.1.n:Int):=by omega
  obtain⟨⟨e,hd⟩,hs⟩:∃ p,m.ev.2[i]?=some p:=⟨m.ev.2[i]'(by rw[hm.fit.ev.1];exact hin),List.getElem?_eq_getElem _⟩
  obtain⟨b,o,hA,hbl,-⟩:=row_cells evCs_len (by omega) hm.ev hs
  have HQ:Hid (∀ W,Below w.heap.size w W→W.cell? ⟨b,o+i * 9+8,none⟩=some (.slice hd.A hd.n hd.c)):=fun W hW=>by
   obtain⟨b2,o2,hA2,_,hc2⟩:=row_cells evCs_len (by omega) (hm.ev.below hW) hs
   obtain⟨rfl,rfl⟩:b=b2∧o=o2:=by rw[hA] at hA2;simpa using hA2
   rw[Nat.add_assoc]
   exact hc2 8 _ rfl
  have HCL:=zh fun W (hW:Below w.heap.size w W)=>clone_se hd.A hd.n hd.c e.scan (by have:=HLW.out.sc _ (List.mem_of_getElem? hs);simp only at this;omega) W (((hm.sc _ (List.mem_of_getElem? hs)).below hW).more hW.size)
  have hbd:m.ev.1.n≤1000:=HLW.out.ev
  have HSI:=zh hs
  have HA:=zh hA
  clear hs hA hbl
  go_wp2_with fail
  refine wp_region_noPanic ?_
  refine wp_region_K (S:=fun W=>Blk W B3 28 h.cs∧Blk W Bh 28 m.cs∧Below w.heap.size w W) 12 (by kernel_rfl) ⟨HC.out.b3.drew,HX.out.1.drew,HC.out.below.drew⟩ (fun hHeld=>?_)
  have HC:Hid (CpI Bh B3 w wr h ((h.ev.2.take i).map scOf) []):=HC.out
  have HC:=zh (HC.out.on (Below.refl _ _).drew)
  have HX:=zh (HX.out.on (Below.refl _ _).drew)
  generalize wr.drew=wd at *
  obtain⟨g,h0,hg,hnext⟩:=HC.out.scan_next (B4:=B4) HPL.out HSI.out
  have HG:=zh hg
  have HN:=zh hnext
  have HL:Hid (h.ev.1.n=m.ev.1.n):=HPL.out.2.1
  clear hg hnext
  refine ka 0 (some 60) (.pointer (some ⟨B3,4,none⟩)) rfl rfl (fun w'=>by go_simp) ?_
  try simp only[Act.put,zK]
  refine kv 1 (some 61) (.slice (some ⟨g,0,none⟩) m.ev.1.n h.ev.1.c) rfl rfl (fun w' hSw=>by have c9:w'.cell? ⟨B3,4,none⟩=some (.slice (some ⟨g,0,none⟩) m.ev.1.n h.ev.1.c):=(by rw[← HG.out,← HL.out];exact hSw.1.cell 4);go_simp) ?_
  try simp only[Act.put,zK]
  refine ka 2 (some 62) (.int .i64 i) rfl rfl (fun w'=>by go_simp) ?_
  try simp only[Act.put,zK]
  refine ka 3 (some 63) (.pointer (some ⟨Bh,4,none⟩)) rfl rfl (fun w'=>by go_simp) ?_
  try simp only[Act.put,zK]
  refine kv 4 (some 64) (.slice (some ⟨b,o,none⟩) m.ev.1.n m.ev.1.c) rfl rfl (fun w' hSw=>by have c9:w'.cell? ⟨Bh,4,none⟩=some (.slice (some ⟨b,o,none⟩) m.ev.1.n m.ev.1.c):=(by rw[← HA.out];exact hSw.2.1.cell 4);go_simp) ?_
  try simp only[Act.put,zK]
  refine ka 5 (some 65) (.int .i64 i) rfl rfl (fun w'=>by go_simp) ?_
  try simp only[Act.put,zK]
  refine ka 6 (some 66) (.pointer (some ⟨b,o+i * 9,none⟩)) rfl rfl (fun w'=>by go_simp) ?_
  try simp only[Act.put,zK]
  refine ka 7 (some 67) (.pointer (some ⟨b,o+i * 9+8,none⟩)) rfl rfl (fun w'=>by go_simp) ?_
  try simp only[Act.put,zK]
  refine kv 8 (some 68) (.slice hd.A hd.n hd.c) rfl rfl (fun w' hSw=>by have c9:=HQ.out w' hSw.2.2;go_simp) ?_
  try simp only[Act.put,zK]
  refine kr [9] ?_
  refine kc rfl (fun K hK=>?_) kn
  go_simp
  refine (HCL.out _ HC.out.below).mono ?_
  rintro e5 w5 ⟨A5,c5,rfl,ho5,hb5⟩
  have H5:=zh (HN.out _ hb5)
  have HX5:=zh (HX.out.on hb5)
  have HC5:=zh (HC.out.on hb5)
  have HO5:=zh ho5
  clear ho5 hb5 hHeld
  go_simp
  refine hK.out _ _ ⟨HC5.out.b3,HX5.out.1,HC5.out.below⟩ (fun hHeld=>?_)
  clear hK K
  try simp only[Act.put,zK]
  refine ka 10 (some 70) (.pointer (some ⟨g,i * 9,none⟩)) rfl rfl (fun w'=>by go_simp) ?_
  try simp only[Act.put,zK]
  refine ka 11 (some 71) (.pointer (some ⟨g,i * 9+8,none⟩)) rfl rfl (fun w'=>by go_simp) ?_
  try simp only[Act.put,zK]
  refine kr [12] ?_
  refine kz (o:={dst:=none,op:=Op.store 58 (Operand.tmp 71) (Operand.tmp 69),type:=0,pos:="rows.go:138",after:=#[⟨11,.data⟩,⟨9,.data⟩,⟨9,.chain⟩,⟨0,.phase⟩,⟨1,.phase⟩,⟨2,.phase⟩,⟨3,.phase⟩,⟨4,.phase⟩,⟨5,.phase⟩,⟨6,.phase⟩,⟨7,.phase⟩,⟨8,.phase⟩,⟨9,.phase⟩],guard:=none}) rfl (fun K hK=>?_)
  have y5:=H5.out.1
  have f5:=H5.out.2.1
  go_simp
  obtain⟨hx6,h6,hc6,hp6,hcs6,hka,hkb⟩:=H5.out.2.2 ⟨A5,hd.n,c5⟩ HO5.out HX5.out
  have HX6:=zh hx6
  have HP6:=zh hp6
  have hc7:CpI Bh B3 w (w5.setCell ⟨g,i * 9+8,none⟩ (.slice A5 hd.n c5)) h6 ((h6.ev.2.take (i+1)).map scOf) []:=by exact hc6
  have HC6:=zh hc7
  clear hx6 hc6 hp6 hcs6 hka hkb hc7 H5 HX5 HC5 HO5 y5 f5 hHeld
  refine hK.out _ _ ?_
  clear hK K
  try simp only[Act.put]
  refine kd (by kernel_rfl) ?_ _
  refine NoPanic.normal ?_
  go_wp2_with fail
  go_roundw
  case rel=>exact⟨i+1,h6,hin,by go_num,HC6,HP6,HX6⟩
  case measure=>simp[intOf];omega
 obtain rfl:i=m.ev.1.n:=by omega
 have HC:Hid (CpI Bh B3 w wr h ((h.ev.2).map scOf) ((h.od.2.take 0).map toOf)):=by have:CpI Bh B3 w wr h ((h.ev.2.take m.ev.1.n).map scOf) []:=HC.out;rwa [List.take_of_length_le (by rw[own_long evCs_len (by omega) this.ev,HPL.out.2.1];exact Nat.le_refl _)] at this
 have z:wr.cell? ⟨B3,5,none⟩=some (.slice h.od.1.A m.od.1.n h.od.1.c):=by rw[← HPL.out.2.2.1];exact HC.out.b3.cell 5
 go_wp2_with fail
 rename World=>wod
 clear z
 go_loopw [76] (fun v wr=>∃ (i:Nat) (h:HistM),i≤m.od.1.n∧v=.int .i64 i∧Hid (CpO Bh B3 w wr h i)∧Hid (PlL m h)∧Hid (BoxC m Bh B3 B4 wr)) (fun v _=>m.od.1.n - (intOf v).toNat)
 case atStart=>exact⟨0,h,Nat.zero_le _,rfl,HC,HPL,HX⟩
 clear HC HPL HX
 obtain⟨i,h,hi0,rfl,HC,HPL,HX⟩:=hrel
 by_cases hin:i<m.od.1.n
 ·have hlt:(i:Int)<(m.od.1.n:Int):=by omega
  obtain⟨⟨e,hd⟩,hs⟩:∃ p,m.od.2[i]?=some p:=⟨m.od.2[i]'(by rw[hm.fit.od.1];exact hin),List.getElem?_eq_getElem _⟩
  obtain⟨b,o,hA,hbl,-⟩:=row_cells odCs_len (by omega) hm.od hs
  have HQ:Hid (∀ W,Below w.heap.size w W→W.cell? ⟨b,o+i * 2+1,none⟩=some (.slice hd.A hd.n hd.c)):=fun W hW=>by
   obtain⟨b2,o2,hA2,_,hc2⟩:=row_cells odCs_len (by omega) (hm.od.below hW) hs
   obtain⟨rfl,rfl⟩:b=b2∧o=o2:=by rw[hA] at hA2;simpa using hA2
   rw[Nat.add_assoc]
   exact hc2 1 _ rfl
  have HCL:=zh fun W (hW:Below w.heap.size w W)=>clone_in hd.A hd.n hd.c e.ts (by have:=HLW.out.ot _ (List.mem_of_getElem? hs);simp only at this;omega) W (((hm.ot _ (List.mem_of_getElem? hs)).below hW).more hW.size)
  have hbd:m.od.1.n≤1000:=HLW.out.od
  have HSI:=zh hs
  have HA:=zh hA
  clear hs hA hbl
  go_wp2_with fail
  refine wp_region_noPanic ?_
  refine wp_region_K (S:=fun W=>Blk W B3 28 h.cs∧Blk W Bh 28 m.cs∧Below w.heap.size w W) 12 (by kernel_rfl) ⟨HC.out.b3.drew,HX.out.1.drew,HC.out.below.drew⟩ (fun hHeld=>?_)
  have HC:Hid (CpI Bh B3 w wr h (h.ev.2.map scOf) ((h.od.2.take i).map toOf)):=HC.out
  have HC:=zh (HC.out.on (Below.refl _ _).drew)
  have HX:=zh (HX.out.on (Below.refl _ _).drew)
  generalize wr.drew=wd at *
  obtain⟨g,h0,hg,hnext⟩:=HC.out.ord_next (B4:=B4) HPL.out HSI.out
  have HG:=zh hg
  have HN:=zh hnext
  have HL:Hid (h.od.1.n=m.od.1.n):=HPL.out.2.2.1
  clear hg hnext
  refine ka 0 (some 79) (.pointer (some ⟨B3,5,none⟩)) rfl rfl (fun w'=>by go_simp) ?_
  try simp only[Act.put,zK]
  refine kv 1 (some 80) (.slice (some ⟨g,0,none⟩) m.od.1.n h.od.1.c) rfl rfl (fun w' hSw=>by have c9:w'.cell? ⟨B3,5,none⟩=some (.slice (some ⟨g,0,none⟩) m.od.1.n h.od.1.c):=(by rw[← HG.out,← HL.out];exact hSw.1.cell 5);go_simp) ?_
  try simp only[Act.put,zK]
  refine ka 2 (some 81) (.int .i64 i) rfl rfl (fun w'=>by go_simp) ?_
  try simp only[Act.put,zK]
  refine ka 3 (some 82) (.pointer (some ⟨Bh,5,none⟩)) rfl rfl (fun w'=>by go_simp) ?_
  try simp only[Act.put,zK]
  refine kv 4 (some 83) (.slice (some ⟨b,o,none⟩) m.od.1.n m.od.1.c) rfl rfl (fun w' hSw=>by have c9:w'.cell? ⟨Bh,5,none⟩=some (.slice (some ⟨b,o,none⟩) m.od.1.n m.od.1.c):=(by rw[← HA.out];exact hSw.2.1.cell 5);go_simp) ?_
  try simp only[Act.put,zK]
  refine ka 5 (some 84) (.int .i64 i) rfl rfl (fun w'=>by go_simp) ?_
  try simp only[Act.put,zK]
  refine ka 6 (some 85) (.pointer (some ⟨b,o+i * 2,none⟩)) rfl rfl (fun w'=>by go_simp) ?_
  try simp only[Act.put,zK]
  refine ka 7 (some 86) (.pointer (some ⟨b,o+i * 2+1,none⟩)) rfl rfl (fun w'=>by go_simp) ?_
  try simp only[Act.put,zK]
  refine kv 8 (some 87) (.slice hd.A hd.n hd.c) rfl rfl (fun w' hSw=>by have c9:=HQ.out w' hSw.2.2;go_simp) ?_
  try simp only[Act.put,zK]
  refine kr [9] ?_
  refine kc rfl (fun K hK=>?_) kn
  go_simp
  refine (HCL.out _ HC.out.below).mono ?_
  rintro e5 w5 ⟨A5,c5,rfl,ho5,hb5⟩
  have H5:=zh (HN.out _ hb5)
  have HX5:=zh (HX.out.on hb5)
  have HC5:=zh (HC.out.on hb5)
  have HO5:=zh ho5
  clear ho5 hb5 hHeld
  go_simp
  refine hK.out _ _ ⟨HC5.out.b3,HX5.out.1,HC5.out.below⟩ (fun hHeld=>?_)
  clear hK K
  try simp only[Act.put,zK]
  refine ka 10 (some 89) (.pointer (some ⟨g,i * 2,none⟩)) rfl rfl (fun w'=>by go_simp) ?_
  try simp only[Act.put,zK]
  refine ka 11 (some 90) (.pointer (some ⟨g,i * 2+1,none⟩)) rfl rfl (fun w'=>by go_simp) ?_
  try simp only[Act.put,zK]
  refine kr [12] ?_
  refine kz (o:={dst:=none,op:=Op.store 40 (Operand.tmp 90) (Operand.tmp 88),type:=0,pos:="rows.go:141",after:=#[⟨11,.data⟩,⟨9,.data⟩,⟨9,.chain⟩,⟨0,.phase⟩,⟨1,.phase⟩,⟨2,.phase⟩,⟨3,.phase⟩,⟨4,.phase⟩,⟨5,.phase⟩,⟨6,.phase⟩,⟨7,.phase⟩,⟨8,.phase⟩,⟨9,.phase⟩],guard:=none}) rfl (fun K hK=>?_)
  have y5:=H5.out.1
  have f5:=H5.out.2.1
  go_simp
  obtain⟨hx6,h6,hc6,hp6,hcs6,hka,hkb⟩:=H5.out.2.2 ⟨A5,hd.n,c5⟩ HO5.out HX5.out
  have HX6:=zh hx6
  have HP6:=zh hp6
  have hc7:CpI Bh B3 w (w5.setCell ⟨g,i * 2+1,none⟩ (.slice A5 hd.n c5)) h6 (h6.ev.2.map scOf) ((h6.od.2.take (i+1)).map toOf):=by rw[hka];exact hc6
  have HC6:=zh hc7
  clear hx6 hc6 hp6 hcs6 hka hkb hc7 H5 HX5 HC5 HO5 y5 f5 hHeld
  refine hK.out _ _ ?_
  clear hK K
  try simp only[Act.put]
  refine kd (by kernel_rfl) ?_ _
  refine NoPanic.normal ?_
  go_wp2_with fail
  go_roundw
  case rel=>exact⟨i+1,h6,hin,by go_num,HC6,HP6,HX6⟩
  case measure=>simp[intOf];omega
 obtain rfl:i=m.od.1.n:=by omega
 have HC:Hid (CpI Bh B3 w wr h (h.ev.2.map scOf) (h.od.2.map toOf++(h.ma.2.take 0).map tmOf)):=by have:CpI Bh B3 w wr h (h.ev.2.map scOf) ((h.od.2.take m.od.1.n).map toOf):=HC.out;rw[List.take_of_length_le (by rw[own_long odCs_len (by omega) this.od,HPL.out.2.2.1];exact Nat.le_refl _)] at this;show CpI _ _ _ _ _ _ (_++[]);rw[List.append_nil];exact this
 have z:wr.cell? ⟨B3,6,none⟩=some (.slice h.ma.1.A m.ma.1.n h.ma.1.c):=by rw[← HPL.out.2.2.2.1];exact HC.out.b3.cell 6
 go_wp2_with fail
 rename World=>wma
 clear z
 go_loopw [95] (fun v wr=>∃ (i:Nat) (h:HistM),i≤m.ma.1.n∧v=.int .i64 i∧Hid (CpM Bh B3 w wr h i)∧Hid (PlL m h)∧Hid (BoxC m Bh B3 B4 wr)) (fun v _=>m.ma.1.n - (intOf v).toNat)
 case atStart=>exact⟨0,h,Nat.zero_le _,rfl,HC,HPL,HX⟩
 clear HC HPL HX
 obtain⟨i,h,hi0,rfl,HC,HPL,HX⟩:=hrel
 by_cases hin:i<m.ma.1.n
 ·have hlt:(i:Int)<(m.ma.1.n:Int):=by omega
  obtain⟨⟨e,hd⟩,hs⟩:∃ p,m.ma.2[i]?=some p:=⟨m.ma.2[i]'(by rw[hm.fit.ma.1];exact hin),List.getElem?_eq_getElem _⟩
  obtain⟨b,o,hA,hbl,-⟩:=row_cells maCs_len (by omega) hm.ma hs
  have HQ:Hid (∀ W,Below w.heap.size w W→W.cell? ⟨b,o+i * 4+3,none⟩=some (.slice hd.A hd.n hd.c)):=fun W hW=>by
   obtain⟨b2,o2,hA2,_,hc2⟩:=row_cells maCs_len (by omega) (hm.ma.below hW) hs
   obtain⟨rfl,rfl⟩:b=b2∧o=o2:=by rw[hA] at hA2;simpa using hA2
   rw[Nat.add_assoc]
   exact hc2 3 _ rfl
  have HCL:=zh fun W (hW:Below w.heap.size w W)=>clone_in hd.A hd.n hd.c e.ts (by have:=HLW.out.mt _ (List.mem_of_getElem? hs);simp only at this;omega) W (((hm.mt _ (List.mem_of_getElem? hs)).below hW).more hW.size)
  have hbd:m.ma.1.n≤1000:=HLW.out.ma
  have HSI:=zh hs
  have HA:=zh hA
  clear hs hA hbl
  go_wp2_with fail
  refine wp_region_noPanic ?_
  refine wp_region_K (S:=fun W=>Blk W B3 28 h.cs∧Blk W Bh 28 m.cs∧Below w.heap.size w W) 12 (by kernel_rfl) ⟨HC.out.b3.drew,HX.out.1.drew,HC.out.below.drew⟩ (fun hHeld=>?_)
  have HC:Hid (CpI Bh B3 w wr h (h.ev.2.map scOf) (h.od.2.map toOf++(h.ma.2.take i).map tmOf)):=HC.out
  have HC:=zh (HC.out.on (Below.refl _ _).drew)
  have HX:=zh (HX.out.on (Below.refl _ _).drew)
  generalize wr.drew=wd at *
  obtain⟨g,h0,hg,hnext⟩:=HC.out.mat_next (B4:=B4) HPL.out HSI.out
  have HG:=zh hg
  have HN:=zh hnext
  have HL:Hid (h.ma.1.n=m.ma.1.n):=HPL.out.2.2.2.1
  clear hg hnext
  refine ka 0 (some 98) (.pointer (some ⟨B3,6,none⟩)) rfl rfl (fun w'=>by go_simp) ?_
  try simp only[Act.put,zK]
  refine kv 1 (some 99) (.slice (some ⟨g,0,none⟩) m.ma.1.n h.ma.1.c) rfl rfl (fun w' hSw=>by have c9:w'.cell? ⟨B3,6,none⟩=some (.slice (some ⟨g,0,none⟩) m.ma.1.n h.ma.1.c):=(by rw[← HG.out,← HL.out];exact hSw.1.cell 6);go_simp) ?_
  try simp only[Act.put,zK]
  refine ka 2 (some 100) (.int .i64 i) rfl rfl (fun w'=>by go_simp) ?_
  try simp only[Act.put,zK]
  refine ka 3 (some 101) (.pointer (some ⟨Bh,6,none⟩)) rfl rfl (fun w'=>by go_simp) ?_
  try simp only[Act.put,zK]
  refine kv 4 (some 102) (.slice (some ⟨b,o,none⟩) m.ma.1.n m.ma.1.c) rfl rfl (fun w' hSw=>by have c9:w'.cell? ⟨Bh,6,none⟩=some (.slice (some ⟨b,o,none⟩) m.ma.1.n m.ma.1.c):=(by rw[← HA.out];exact hSw.2.1.cell 6);go_simp) ?_
  try simp only[Act.put,zK]
  refine ka 5 (some 103) (.int .i64 i) rfl rfl (fun w'=>by go_simp) ?_
  try simp only[Act.put,zK]
  refine ka 6 (some 104) (.pointer (some ⟨b,o+i * 4,none⟩)) rfl rfl (fun w'=>by go_simp) ?_
  try simp only[Act.put,zK]
  refine ka 7 (some 105) (.pointer (some ⟨b,o+i * 4+3,none⟩)) rfl rfl (fun w'=>by go_simp) ?_
  try simp only[Act.put,zK]
  refine kv 8 (some 106) (.slice hd.A hd.n hd.c) rfl rfl (fun w' hSw=>by have c9:=HQ.out w' hSw.2.2;go_simp) ?_
  try simp only[Act.put,zK]
  refine kr [9] ?_
  refine kc rfl (fun K hK=>?_) kn
  go_simp
  refine (HCL.out _ HC.out.below).mono ?_
  rintro e5 w5 ⟨A5,c5,rfl,ho5,hb5⟩
  have H5:=zh (HN.out _ hb5)
  have HX5:=zh (HX.out.on hb5)
  have HC5:=zh (HC.out.on hb5)
  have HO5:=zh ho5
  clear ho5 hb5 hHeld
  go_simp
  refine hK.out _ _ ⟨HC5.out.b3,HX5.out.1,HC5.out.below⟩ (fun hHeld=>?_)
  clear hK K
  try simp only[Act.put,zK]
  refine ka 10 (some 108) (.pointer (some ⟨g,i * 4,none⟩)) rfl rfl (fun w'=>by go_simp) ?_
  try simp only[Act.put,zK]
  refine ka 11 (some 109) (.pointer (some ⟨g,i * 4+3,none⟩)) rfl rfl (fun w'=>by go_simp) ?_
  try simp only[Act.put,zK]
  refine kr [12] ?_
  refine kz (o:={dst:=none,op:=Op.store 40 (Operand.tmp 109) (Operand.tmp 107),type:=0,pos:="rows.go:144",after:=#[⟨11,.data⟩,⟨9,.data⟩,⟨9,.chain⟩,⟨0,.phase⟩,⟨1,.phase⟩,⟨2,.phase⟩,⟨3,.phase⟩,⟨4,.phase⟩,⟨5,.phase⟩,⟨6,.phase⟩,⟨7,.phase⟩,⟨8,.phase⟩,⟨9,.phase⟩],guard:=none}) rfl (fun K hK=>?_)
  have y5:=H5.out.1
  have f5:=H5.out.2.1
  go_simp
  obtain⟨hx6,h6,hc6,hp6,hcs6,hka,hkb⟩:=H5.out.2.2 ⟨A5,hd.n,c5⟩ HO5.out HX5.out
  have HX6:=zh hx6
  have HP6:=zh hp6
  have hc7:CpI Bh B3 w (w5.setCell ⟨g,i * 4+3,none⟩ (.slice A5 hd.n c5)) h6 (h6.ev.2.map scOf) (h6.od.2.map toOf++(h6.ma.2.take (i+1)).map tmOf):=by rw[hka,hkb];exact hc6
  have HC6:=zh hc7
  clear hx6 hc6 hp6 hcs6 hka hkb hc7 H5 HX5 HC5 HO5 y5 f5 hHeld
  refine hK.out _ _ ?_
  clear hK K
  try simp only[Act.put]
  refine kd (by kernel_rfl) ?_ _
  refine NoPanic.normal ?_
  go_wp2_with fail
  go_roundw
  case rel=>exact⟨i+1,h6,hin,by go_num,HC6,HP6,HX6⟩
  case measure=>simp[intOf];omega
 obtain rfl:i=m.ma.1.n:=by omega
 have HC:Hid (CpI Bh B3 w wr h (h.ev.2.map scOf) (h.od.2.map toOf++h.ma.2.map tmOf)):=by have:CpI Bh B3 w wr h (h.ev.2.map scOf) (h.od.2.map toOf++(h.ma.2.take m.ma.1.n).map tmOf):=HC.out;rwa [List.take_of_length_le (by rw[own_long maCs_len (by omega) this.ma,HPL.out.2.2.2.1];exact Nat.le_refl _)] at this
 have HD:Hid (HOwn w.heap.size wr h):=HC.out.done
 have HB:=zh HC.out.below
 have KR:=zh HC.out.br
 have HNE:=zh HC.out.ne
 have HB3:=zh HC.out.b3
 obtain⟨⟨z0,z1,z2,z3,z4,z5,z6,z7⟩,-⟩:=cf8 HB3.out
 obtain⟨⟨y0,y1,y2,y3,y4,y5,y6,y7⟩,f0,f1,f2,f3,f4,f5,f6,f7⟩:=cf8 KR.out
 clear HC HX
 go_wp2_with fail
 clear z0 y0 f0 z1 y1 f1 z2 y2 f2 z3 y3 f3 z4 y4 f4 z5 y5 f5 z6 y6 f6 z7 y7 f7
 have FL:=zh (fill8 KR.out (.slice h.tr.1.A h.tr.1.n h.tr.1.c) (.slice h.se.1.A h.se.1.n h.se.1.c) (.slice h.ob.1.A h.ob.1.n h.ob.1.c) (.slice h.pr.1.A h.pr.1.n h.pr.1.c) (.slice h.ev.1.A h.ev.1.n h.ev.1.c) (.slice h.od.1.A h.od.1.n h.od.1.c) (.slice h.ma.1.A h.ma.1.n h.ma.1.c) (.slice h.wa.1.A h.wa.1.n h.wa.1.c))
 have HOF:=zh (HD.out.keepT (FL.out.2.1 (fun j=>∀ cs,¬Blk wr j 28 cs) (fun h=>h _ KR.out)) (by decide) (by decide) (by decide) (by decide) (by decide) (by decide) (by decide))
 have HBF:=zh (FL.out.2.2 w HB.out (Nat.le_succ_of_le HNE.out.2.2.2))
 have kf:=FL.out.1
 clear FL HD HB KR
 generalize ((((((((wr.setCell ⟨Bh+1,0,none⟩ (.slice h.tr.1.A h.tr.1.n h.tr.1.c)).setCell ⟨Bh+1,1,none⟩ (.slice h.se.1.A h.se.1.n h.se.1.c)).setCell ⟨Bh+1,2,none⟩ (.slice h.ob.1.A h.ob.1.n h.ob.1.c)).setCell ⟨Bh+1,3,none⟩ (.slice h.pr.1.A h.pr.1.n h.pr.1.c)).setCell ⟨Bh+1,4,none⟩ (.slice h.ev.1.A h.ev.1.n h.ev.1.c)).setCell ⟨Bh+1,5,none⟩ (.slice h.od.1.A h.od.1.n h.od.1.c)).setCell ⟨Bh+1,6,none⟩ (.slice h.ma.1.A h.ma.1.n h.ma.1.c)).setCell ⟨Bh+1,7,none⟩ (.slice h.wa.1.A h.wa.1.n h.wa.1.c))=wf at *
 obtain⟨⟨r0,r1,r2,r3,r4,r5,r6,r7⟩,-⟩:=cf8 kf
 exact bodyPost_ret (v:=.agg #[.slice h.tr.1.A h.tr.1.n h.tr.1.c,.slice h.se.1.A h.se.1.n h.se.1.c,.slice h.ob.1.A h.ob.1.n h.ob.1.c,.slice h.pr.1.A h.pr.1.n h.pr.1.c,.slice h.ev.1.A h.ev.1.n h.ev.1.c,.slice h.od.1.A h.od.1.n h.od.1.c,.slice h.ma.1.A h.ma.1.n h.ma.1.c,.slice h.wa.1.A h.wa.1.n h.wa.1.c]) (by simp[results,Tryz.results42,go_sem,r0,r1,r2,r3,r4,r5,r6,r7]) rfl ⟨h,rfl,HOF.out,HPL.out.1,HBF.out⟩
def bools (bs:List Bool):List Value:=bs.map Value.bool
theorem bools_length (bs:List Bool):(bools bs).length=bs.length:=by unfold bools;simp
theorem bools_set (bs:List Bool) (k:Nat) (b:Bool):(bools bs).set k (.bool b)=bools (bs.set k b):=by unfold bools;rw[List.map_set]
theorem bools_get {bs:List Bool} {k:Nat} {b:Bool} (h:bs[k]?=some b):(bools bs)[k]?=some (.bool b):=by unfold bools;rw[List.getElem?_map,h];rfl
theorem bool_info:(Tryz.prog.info? 4).map (fun i=>(i.zero,i.size,i.bytes))=some (some (.bool false),1,1):=by kernel_rfl
theorem made_bools (n:Nat):madeCells (Value.bool false).cells (n * 1)=(bools (List.replicate n false)).toArray:=by
 apply Array.ext
 ·rw[size_madeCells,List.size_toArray,bools_length,List.length_replicate,Nat.mul_one]
 intro j h1 h2
 have hz:(Value.bool false).cells=#[.bool false]:=by simp[Value.cells]
 simp only[madeCells,hz,Array.getElem_map,Array.getElem_range,List.getElem_toArray,bools,List.getElem_map,List.getElem_replicate]
 simp[Nat.mod_one]
theorem bool_make (n:Nat) (z:Int) (hz:z=(n:Int)) (hn:n≤1000000) (W:World) :
 (Instr.makeSlice 106 (.int .i64 z) (.int .i64 z)).run Tryz.prog W=.ok (.slice (some ⟨W.heap.size,0,none⟩) n n) (W.alloc (.cells (bools (List.replicate n false)).toArray 4)):=by
 subst hz
 obtain⟨i0,hi,hz0,hz1,hz2⟩:=info_parts bool_info
 have hr:=run_make (P:=Tryz.prog) W 106 4 i0 _ Tryz.underlying106 hi hz0 .i64 .i64 n n (by omega) (by omega) (by rw[hz2];omega) (by omega)
 simp only[Int.toNat_natCast] at hr
 rw[hz1,made_bools] at hr
 exact hr
def hasK (H:Hist) (t:Int) (k:Nat) (p:Int→Bool):Bool:=(H.ev.take k).any fun e=>decide (e.t=t)&&p e.kd
def marks (n:Nat) (H:Hist) (k:Nat) (p:Int→Bool):List Bool:=(List.range n).map fun u:Nat=>hasK H u k p
def kOne (k:Int):Bool:=decide (k=1)
def kEnd (k:Int):Bool:=decide (k=5) || decide (k=6)
section
variable {n k u : Nat} {H : Hist} {p : Int → Bool} {e : EvP}
theorem marks_len:(marks n H k p).length=n:=by simp[marks]
theorem marks_get (h:u<n):(marks n H k p)[u]?=some (hasK H u k p):=by simp[marks,h]
theorem marks_nil:marks n H 0 p=List.replicate n false:=by
 unfold marks
 refine List.ext_getElem (by simp) fun i h1 h2=>by simp[hasK]
theorem hasK_next (h:H.ev[k]?=some e) {t:Int}:hasK H t (k+1) p=(hasK H t k p || (decide (e.t=t)&&p e.kd)):=by
 unfold hasK
 rw[List.take_add_one,h,List.any_append]
 simp
theorem marks_no (h:H.ev[k]?=some e) (hp:p e.kd=false):marks n H (k+1) p=marks n H k p:=by
 unfold marks
 congr 1
 funext u
 rw[hasK_next h,hp]
 simp
theorem marks_yes (h:H.ev[k]?=some e) (hp:p e.kd=true) {tn:Nat} (ht:e.t=tn) (hn:tn<n):(marks n H k p).set tn true=marks n H (k+1) p:=by
 refine List.ext_getElem? fun i=>?_
 by_cases hi:i<n
 ·rw[marks_get hi,List.getElem?_set,hasK_next h,hp,ht]
  by_cases e1:tn=i
  ·subst e1
   simp[marks_len,hn]
  rw[if_neg e1,marks_get hi]
  have:¬((tn:Int)=(i:Int)):=by omega
  simp[this]
 rw[List.getElem?_eq_none (by rw[List.length_set,marks_len];omega),List.getElem?_eq_none (by rw[marks_len];omega)]
theorem marks_all (hk:H.ev.length≤k):hasK H u k kOne=hasB H u 1∧hasK H u k kEnd=(hasB H u 5 || hasB H u 6):=by
 unfold hasK hasB
 rw[List.take_of_length_le hk]
 refine⟨rfl,?_⟩
 rw[Bool.eq_iff_iff]
 simp only[List.any_eq_true,Bool.or_eq_true,Bool.and_eq_true,decide_eq_true_eq,kEnd]
 constructor
 ·rintro⟨e,he,h1,h2 | h2⟩
  ·exact .inl ⟨e,he,h1,h2⟩
  exact .inr ⟨e,he,h1,h2⟩
 rintro (⟨e,he,h1,h2⟩ | ⟨e,he,h1,h2⟩)
 ·exact⟨e,he,h1,.inl h2⟩
 exact⟨e,he,h1,.inr h2⟩
end
def leftK (H:Hist) (k:Nat):List Int:=(upI k).filter (openB H)
theorem leftK_all (H:Hist):leftK H H.tr.length=leftL H:=rfl
theorem leftK_len (H:Hist) (k:Nat):(leftK H k).length≤k:=by
 have:=List.length_filter_le (openB H) (upI k)
 rwa [upI_len] at this
theorem leftK_yes {H:Hist} {k:Nat} (h:openB H k=true):leftK H (k+1)=leftK H k++[(k:Int)]:=by unfold leftK;rw[upI_succ,List.filter_append];simp[h]
theorem leftK_no {H:Hist} {k:Nat} (h:openB H k=false):leftK H (k+1)=leftK H k:=by unfold leftK;rw[upI_succ,List.filter_append];simp[h]
structure MkI (w:World) (m:HistM) (n P Q k:Nat) (X:World):Prop where
 p:Blk X P 4 (bools (marks n m.pl k kOne)).toArray
 q:Blk X Q 4 (bools (marks n m.pl k kEnd)).toArray
 h:Blk X w.heap.size 28 m.cs
 below:Below w.heap.size w X
 ne:P≠Q∧w.heap.size<P∧w.heap.size<Q
section
variable {w X Y : World} {m : HistM} {n P Q k : Nat}
theorem MkI.on (h:MkI w m n P Q k X) (hb:Below X.heap.size X Y):MkI w m n P Q k Y:=⟨h.p.below hb h.p.lt,h.q.below hb h.q.lt,h.h.below hb h.h.lt,h.below.trans (hb.mono h.below.size),h.ne⟩
theorem MkI.alloc (h:MkI w m n P Q k X) (o:Obj):MkI w m n P Q k (X.alloc o):=h.on ((Below.refl _ _).alloc (Nat.le_refl _) o)
theorem MkI.pass (h:MkI w m n P Q k X) {e:EvP} (he:m.pl.ev[k]?=some e) (h1:kOne e.kd=false) (h2:kEnd e.kd=false):MkI w m n P Q (k+1) X :=
 ⟨by rw[marks_no he h1];exact h.p,by rw[marks_no he h2];exact h.q,h.h,h.below,h.ne⟩
theorem MkI.one (h:MkI w m n P Q k X) {e:EvP} (he:m.pl.ev[k]?=some e) (h1:kOne e.kd=true) (h2:kEnd e.kd=false) {tn:Nat} (ht:e.t=tn) (hn:tn<n):MkI w m n P Q (k+1) (X.setCell ⟨P,tn,none⟩ (.bool true)):=by
 refine⟨?_,?_,h.h.far (p:=⟨P,tn,none⟩) (by show w.heap.size≠P;have:=h.ne;omega) _,h.below.setCell (p:=⟨P,tn,none⟩) (by show w.heap.size≤P;have:=h.ne;omega) _,h.ne⟩
 ·have:=h.p.set_ tn (.bool true)
  rwa [List.setIfInBounds_toArray,bools_set,marks_yes he h1 ht hn] at this
 rw[marks_no he h2]
 exact h.q.far (p:=⟨P,tn,none⟩) (Ne.symm h.ne.1) _
theorem MkI.fin (h:MkI w m n P Q k X) {e:EvP} (he:m.pl.ev[k]?=some e) (h1:kOne e.kd=false) (h2:kEnd e.kd=true) {tn:Nat} (ht:e.t=tn) (hn:tn<n):MkI w m n P Q (k+1) (X.setCell ⟨Q,tn,none⟩ (.bool true)):=by
 refine⟨?_,?_,h.h.far (p:=⟨Q,tn,none⟩) (by show w.heap.size≠Q;have:=h.ne;omega) _,h.below.setCell (p:=⟨Q,tn,none⟩) (by show w.heap.size≤Q;have:=h.ne;omega) _,h.ne⟩
 ·rw[marks_no he h1]
  exact h.p.far (p:=⟨Q,tn,none⟩) h.ne.1 _
 have:=h.q.set_ tn (.bool true)
 rwa [List.setIfInBounds_toArray,bools_set,marks_yes he h2 ht hn] at this
theorem MkI.grown (h:MkI w m n P Q k X) {v v':Value} {j:Nat} {xs ys:List Value} {j':Nat} (_ho:Y.ownsRow w.heap.size 3 1 v' j' ys) (hg:X.grownBy Y v.ownBlock) (hx:X.ownsRow w.heap.size 3 1 v j xs):MkI w m n P Q k Y:=by
 have k1:KeepT 3 X Y:=KeepT.grown hx hg
 exact⟨k1.blk h.p (by decide),k1.blk h.q (by decide),k1.blk h.h (by decide),h.below.grown hg h.below.size fun g hg2=>(own_in_block hx hg2).1,h.ne⟩
theorem MkI.cellP (h:MkI w m n P Q k X) {u:Nat} (hu:u<n):X.cell? ⟨P,u,none⟩=some (.bool (hasK m.pl u k kOne)):=by rw[h.p.cell,List.getElem?_toArray];exact bools_get (marks_get hu)
theorem MkI.cellQ (h:MkI w m n P Q k X) {u:Nat} (hu:u<n):X.cell? ⟨Q,u,none⟩=some (.bool (hasK m.pl u k kEnd)):=by rw[h.q.cell,List.getElem?_toArray];exact bools_get (marks_get hu)
end
def LeftR (H:Hist) (w:World):Ending→World→Prop:=fun e w'=>∃ (A:Option Addr) (c:Nat),e=.returned (.slice A (leftL H).length c)∧w'.ownsRow w.heap.size 3 1 (.slice A (leftL H).length c) (leftL H).length (ints (leftL H))∧Below w.heap.size w w'
set_option maxRecDepth 100000 in
set_option maxHeartbeats 8000000 in
theorem open_any (m:HistM) (hS:Small m.pl) (hs:shapedB m.pl=true) (w:World) (hm:HRd w w.heap.size m):Calls Tryz.prog 41 #[.agg #[.slice m.tr.1.A m.tr.1.n m.tr.1.c,.slice m.se.1.A m.se.1.n m.se.1.c,.slice m.ob.1.A m.ob.1.n m.ob.1.c,.slice m.pr.1.A m.pr.1.n m.pr.1.c,.slice m.ev.1.A m.ev.1.n m.ev.1.c,.slice m.od.1.A m.od.1.n m.od.1.c,.slice m.ma.1.A m.ma.1.n m.ma.1.c,.slice m.wa.1.A m.wa.1.n m.wa.1.c]] w (LeftR m.pl w):=by
 obtain⟨i0,hi,hz0,hz1,hz2⟩:=info_parts int_info11
 obtain⟨kh,b0,hs0⟩:=ibox w #[.slice m.tr.1.A m.tr.1.n m.tr.1.c,.slice m.se.1.A m.se.1.n m.se.1.c,.slice m.ob.1.A m.ob.1.n m.ob.1.c,.slice m.pr.1.A m.pr.1.n m.pr.1.c,.slice m.ev.1.A m.ev.1.n m.ev.1.c,.slice m.od.1.A m.od.1.n m.od.1.c,.slice m.ma.1.A m.ma.1.n m.ma.1.c,.slice m.wa.1.A m.wa.1.n m.wa.1.c] 28
 obtain⟨n,hn⟩:∃ n,m.tr.1.n=n:=⟨_,rfl⟩
 have hnl:m.tr.2.length=n:=(strs_len hm.tr).trans hn
 have HNL:Hid (m.pl.tr.length=n):=hnl
 have HN:=zh hn
 have hn60:n≤60:=by have:=hS.tr;have:=HNL.out;omega
 have hmk:∀ X,(Instr.makeSlice 106 (.int .i64 (n:Int)) (.int .i64 (n:Int))).run Tryz.prog X=.ok (.slice (some ⟨X.heap.size,0,none⟩) n n) (X.alloc (.cells (bools (List.replicate n false)).toArray 4)):=fun X=>bool_make n n rfl (by omega) X
 have KH:=zh kh
 have B0:=zh b0
 have HFIT:=zh hm.fit
 have HSH:=zh hs
 clear kh b0 hs0 hn hnl hs
 go_enter Tryz.func41,Tryz.ntmps41
 go_upto_region 1 with fail
 go_cut [3,4] (fun s3 s4 wx=>∃ (P Q:Nat),s3=.slice (some ⟨P,0,none⟩) n n∧s4=.slice (some ⟨Q,0,none⟩) n n∧Hid (MkI w m n P Q 0 wx))
 case first =>
  refine wp_region_noPanic ?_
  refine wp_region_held_drew (S:=fun W=>Blk W w.heap.size 28 m.cs) (by kernel_rfl) KH.out.drew (fun hHeld=>?_)
  have KH:=zh KH.out.drew
  have B0:=zh B0.out.drew
  generalize (w.alloc (.cells #[.slice m.tr.1.A m.tr.1.n m.tr.1.c,.slice m.se.1.A m.se.1.n m.se.1.c,.slice m.ob.1.A m.ob.1.n m.ob.1.c,.slice m.pr.1.A m.pr.1.n m.pr.1.c,.slice m.ev.1.A m.ev.1.n m.ev.1.c,.slice m.od.1.A m.od.1.n m.od.1.c,.slice m.ma.1.A m.ma.1.n m.ma.1.c,.slice m.wa.1.A m.wa.1.n m.wa.1.c] 28)).drew=wd at *
  refine tkv 0 (some 9) (.pointer (some ⟨w.heap.size,0,none⟩)) rfl rfl (fun w' hSw=>by (try dsimp only at hSw);go_simp) ?_
  try simp only[Act.put,zS]
  refine tkv 1 (some 10) (.slice m.tr.1.A n m.tr.1.c) rfl rfl (fun w' hSw=>by (have c9:w'.cell? ⟨w.heap.size,0,none⟩=some (.slice m.tr.1.A n m.tr.1.c):=by rw[← HN.out];exact Blk.cell (w:=w') hSw 0);go_simp) ?_
  try simp only[Act.put,zS]
  refine tkv 2 (some 11) (.int .i64 (n:Int)) rfl rfl (fun w' hSw=>by (try dsimp only at hSw);go_simp) ?_
  try simp only[Act.put,zS]
  refine tkv 4 (some 13) (.pointer (some ⟨w.heap.size,0,none⟩)) rfl rfl (fun w' hSw=>by (try dsimp only at hSw);go_simp) ?_
  try simp only[Act.put,zS]
  refine tkv 5 (some 14) (.slice m.tr.1.A n m.tr.1.c) rfl rfl (fun w' hSw=>by (have c9:w'.cell? ⟨w.heap.size,0,none⟩=some (.slice m.tr.1.A n m.tr.1.c):=by rw[← HN.out];exact Blk.cell (w:=w') hSw 0);go_simp) ?_
  try simp only[Act.put,zS]
  refine tkv 6 (some 15) (.int .i64 (n:Int)) rfl rfl (fun w' hSw=>by (try dsimp only at hSw);go_simp) ?_
  try simp only[Act.put,zS]
  refine rdH [3,7] ?_
  refine AllReadyH.cons rfl (fun K hK=>?_) ?_
  ·go_simp
   refine hK.out _ _ (KH.out.alloc _) (fun hHeld=>?_)
   clear hK K
   try simp only[Act.put,zS]
   have hb9:Below wd.heap.size wd (wd.alloc (.cells (bools (List.replicate n false)).toArray 4)):=(Below.refl _ _).alloc (Nat.le_refl _) _
   have hk9:=Blk.new wd 4 (bools (List.replicate n false)).toArray
   have HKP:=zh hk9
   have HLTP:Hid (w.heap.size<wd.heap.size):=KH.out.lt
   have KH:=zh (KH.out.below hb9 KH.out.lt)
   have B0:=zh (B0.out.trans (hb9.mono B0.out.size))
   clear hb9 hk9 hHeld
   generalize wd.alloc (.cells (bools (List.replicate n false)).toArray 4)=uP at *
   generalize wd.heap.size=P at *
   have hHeld:=KH.out
   refine tkv 8 (some 3) (.slice (some ⟨P,0,none⟩) n n) rfl rfl (fun w' hSw=>by (try dsimp only at hSw);go_simp) ?_
   try simp only[Act.put,zS]
   refine rdH [7] ?_
   refine AllReadyH.cons rfl (fun K hK=>?_) ?_
   ·go_simp
    refine hK.out _ _ (KH.out.alloc _) (fun hHeld=>?_)
    clear hK K
    try simp only[Act.put,zS]
    have hb9:Below uP.heap.size uP (uP.alloc (.cells (bools (List.replicate n false)).toArray 4)):=(Below.refl _ _).alloc (Nat.le_refl _) _
    have hk9:=Blk.new uP 4 (bools (List.replicate n false)).toArray
    have HKQ:=zh hk9
    have HLTQ:Hid (w.heap.size<uP.heap.size):=KH.out.lt
    have HNE:Hid (P≠uP.heap.size):=Nat.ne_of_lt HKP.out.lt
    have HKP:=zh (HKP.out.below hb9 HKP.out.lt)
    have KH:=zh (KH.out.below hb9 KH.out.lt)
    have B0:=zh (B0.out.trans (hb9.mono B0.out.size))
    clear hb9 hk9 hHeld
    generalize uP.alloc (.cells (bools (List.replicate n false)).toArray 4)=uQ at *
    generalize uP.heap.size=Q at *
    have hHeld:=KH.out
    refine tkv 9 (some 4) (.slice (some ⟨Q,0,none⟩) n n) rfl rfl (fun w' hSw=>by (try dsimp only at hSw);go_simp) ?_
    try simp only[Act.put,zS]
    refine wpAnyH_done (by kernel_rfl) ?_ _
    refine NoPanic.normal ?_
    go_wp2_with fail
    go_meet
    exact⟨P,Q,rfl,rfl,⟨by rw[marks_nil];exact HKP.out,by rw[marks_nil];exact HKQ.out,KH.out,B0.out,⟨HNE.out,HLTP.out,HLTQ.out⟩⟩⟩
   exact AllReadyH.nil
  refine AllReadyH.cons rfl (fun K hK=>?_) ?_
  ·go_simp
   refine hK.out _ _ (KH.out.alloc _) (fun hHeld=>?_)
   clear hK K
   try simp only[Act.put,zS]
   have hb9:Below wd.heap.size wd (wd.alloc (.cells (bools (List.replicate n false)).toArray 4)):=(Below.refl _ _).alloc (Nat.le_refl _) _
   have hk9:=Blk.new wd 4 (bools (List.replicate n false)).toArray
   have HKP:=zh hk9
   have HLTP:Hid (w.heap.size<wd.heap.size):=KH.out.lt
   have KH:=zh (KH.out.below hb9 KH.out.lt)
   have B0:=zh (B0.out.trans (hb9.mono B0.out.size))
   clear hb9 hk9 hHeld
   generalize wd.alloc (.cells (bools (List.replicate n false)).toArray 4)=uP at *
   generalize wd.heap.size=P at *
   have hHeld:=KH.out
   refine rdH [3] ?_
   refine AllReadyH.cons rfl (fun K hK=>?_) ?_
   ·go_simp
    refine hK.out _ _ (KH.out.alloc _) (fun hHeld=>?_)
    clear hK K
    try simp only[Act.put,zS]
    have hb9:Below uP.heap.size uP (uP.alloc (.cells (bools (List.replicate n false)).toArray 4)):=(Below.refl _ _).alloc (Nat.le_refl _) _
    have hk9:=Blk.new uP 4 (bools (List.replicate n false)).toArray
    have HKQ:=zh hk9
    have HLTQ:Hid (w.heap.size<uP.heap.size):=KH.out.lt
    have HNE:Hid (P≠uP.heap.size):=Nat.ne_of_lt HKP.out.lt
    have HKP:=zh (HKP.out.below hb9 HKP.out.lt)
    have KH:=zh (KH.out.below hb9 KH.out.lt)
    have B0:=zh (B0.out.trans (hb9.mono B0.out.size))
    clear hb9 hk9 hHeld
    generalize uP.alloc (.cells (bools (List.replicate n false)).toArray 4)=uQ at *
    generalize uP.heap.size=Q at *
    have hHeld:=KH.out
    refine tkv 8 (some 3) (.slice (some ⟨Q,0,none⟩) n n) rfl rfl (fun w' hSw=>by (try dsimp only at hSw);go_simp) ?_
    try simp only[Act.put,zS]
    refine tkv 9 (some 4) (.slice (some ⟨P,0,none⟩) n n) rfl rfl (fun w' hSw=>by (try dsimp only at hSw);go_simp) ?_
    try simp only[Act.put,zS]
    refine wpAnyH_done (by kernel_rfl) ?_ _
    refine NoPanic.normal ?_
    go_wp2_with fail
    go_meet
    exact⟨Q,P,rfl,rfl,⟨by rw[marks_nil];exact HKQ.out,by rw[marks_nil];exact HKP.out,KH.out,B0.out,⟨Ne.symm HNE.out,HLTQ.out,HLTP.out⟩⟩⟩
   exact AllReadyH.nil
  exact AllReadyH.nil
 clear KH B0 hmk
 obtain⟨P,Q,rfl,rfl,HM⟩:=hcut
 have z4:wc.cell? ⟨w.heap.size,4,none⟩=some (.slice m.ev.1.A m.ev.1.n m.ev.1.c):=HM.out.h.cell 4
 go_wp2_with fail
 have HLEN:Hid (m.pl.ev.length=m.ev.1.n):=by show m.pl.ev.length=_;rw[← HFIT.out.ev.1];unfold HistM.pl;simp
 obtain⟨en,hen⟩:∃ en,m.ev.1.n=en:=⟨_,rfl⟩
 have HEN:=zh hen
 have hn2:en≤200:=by have:=hS.ev;have:=HLEN.out;omega
 rw[hen] at HLEN z4 ⊢
 clear z4 hen
 go_loopw [20] (fun v wr=>∃ i:Nat,i≤en∧v=.int .i64 i∧Hid (MkI w m n P Q i wr)) (fun v _=>en - (intOf v).toNat)
 case atStart=>exact⟨0,Nat.zero_le _,rfl,HM⟩
 clear HM
 obtain⟨i,hk,rfl,HM⟩:=hrel
 by_cases hlt:i<en
 ·have hlt2:(i:Int)<(en:Int):=by omega
  obtain⟨p,hp⟩:∃ p,m.ev.2[i]?=some p:=⟨m.ev.2[i]'(by rw[HFIT.out.ev.1,HEN.out];exact hlt),List.getElem?_eq_getElem _⟩
  obtain⟨b,o,hA,hb,hc⟩:=row_cells evCs_len (by omega) (hm.ev.below HM.out.below) hp
  have HE:Hid (m.pl.ev[i]?=some p.1):=by show m.pl.ev[i]?=_;unfold HistM.pl;simp[hp]
  have ht0:=shaped_in HSH.out (refs_t (List.mem_of_getElem? HE.out))
  obtain⟨tn,htn⟩:∃ tn:Nat,p.1.t=(tn:Int):=⟨p.1.t.toNat,by omega⟩
  have hmany:m.pl.many 0=n:=HNL.out
  have htl:tn<n:=by rw[hmany] at ht0;simp only at ht0;omega
  have htl2:(tn:Int)<(n:Int):=by omega
  rw[hA]
  have c0:wr.cell? ⟨b,o+i * 9,none⟩=some (.int .i64 p.1.kd):=hc 0 _ rfl
  have c1:wr.cell? ⟨b,o+i * 9+1,none⟩=some (.int .i64 (tn:Int)):=by rw[← htn];exact hc 1 _ rfl
  have c2:wr.cell? ⟨b,o+i * 9+2,none⟩=some (.int .i64 p.1.s):=hc 2 _ rfl
  have c3:wr.cell? ⟨b,o+i * 9+3,none⟩=some (.int .i64 p.1.lev):=hc 3 _ rfl
  have c4:wr.cell? ⟨b,o+i * 9+4,none⟩=some (.int .i64 p.1.o):=hc 4 _ rfl
  have c5:wr.cell? ⟨b,o+i * 9+5,none⟩=some (.int .i64 p.1.vt):=hc 5 _ rfl
  have c6:wr.cell? ⟨b,o+i * 9+6,none⟩=some (.int .i64 p.1.vk):=hc 6 _ rfl
  have c7:wr.cell? ⟨b,o+i * 9+7,none⟩=some (.int .i64 p.1.p):=hc 7 _ rfl
  have c8:wr.cell? ⟨b,o+i * 9+8,none⟩=some (.slice p.2.A p.2.n p.2.c):=hc 8 _ rfl
  have HT:=zh htn
  have HM2:=zh (HM.out.alloc (.cells #[.int .i64 p.1.kd,.int .i64 (tn:Int),.int .i64 p.1.s,.int .i64 p.1.lev,.int .i64 p.1.o,.int .i64 p.1.vt,.int .i64 p.1.vk,.int .i64 p.1.p,.slice p.2.A p.2.n p.2.c] 60))
  have yP:=HM2.out.cellP htl
  have fP:=HM2.out.p.frozen tn
  have yQ:=HM2.out.cellQ htl
  have fQ:=HM2.out.q.frozen tn
  clear hc hp hA ht0 hmany htn
  by_cases h1:p.1.kd=1
  ·have hb1:(p.1.kd==1)=true:=by simpa using h1
   have HX:=zh (HM2.out.one HE.out (by unfold kOne;simpa using h1) (by unfold kEnd;simp[h1]) HT.out htl)
   clear h1
   go_wp2_with fail
   go_roundw
   case rel=>exact⟨i+1,by omega,by go_num,HX⟩
   case measure=>simp[intOf];omega
  have hb1:(p.1.kd==1)=false:=by simpa using h1
  by_cases h5:p.1.kd=5
  ·have hb5:(p.1.kd==5)=true:=by simpa using h5
   have HX:=zh (HM2.out.fin HE.out (by unfold kOne;simpa using h1) (by unfold kEnd;simp[h5]) HT.out htl)
   clear h1 h5
   go_wp2_with fail
   go_roundw
   case rel=>exact⟨i+1,by omega,by go_num,HX⟩
   case measure=>simp[intOf];omega
  have hb5:(p.1.kd==5)=false:=by simpa using h5
  by_cases h6:p.1.kd=6
  ·have hb6:(p.1.kd==6)=true:=by simpa using h6
   have HX:=zh (HM2.out.fin HE.out (by unfold kOne;simpa using h1) (by unfold kEnd;simp[h6]) HT.out htl)
   clear h1 h5 h6
   go_wp2_with fail
   go_roundw
   case rel=>exact⟨i+1,by omega,by go_num,HX⟩
   case measure=>simp[intOf];omega
  have hb6:(p.1.kd==6)=false:=by simpa using h6
  have HX:=zh (HM2.out.pass HE.out (by unfold kOne;simpa using h1) (by unfold kEnd;simp[h5,h6]))
  clear h1 h5 h6
  go_wp2_with fail
  go_roundw
  case rel=>exact⟨i+1,by omega,by go_num,HX⟩
  case measure=>simp[intOf];omega
 obtain rfl:i=en:=by omega
 have z0:wr.cell? ⟨w.heap.size,0,none⟩=some (.slice m.tr.1.A n m.tr.1.c):=by rw[← HN.out];exact HM.out.h.cell 0
 go_wp2_with fail
 rename World=>wo
 clear z0
 have HALL:=zh fun (u:Nat)=>marks_all (u:=u) (Nat.le_of_eq HLEN.out)
 clear HLEN
 have HG:Hid (GotI w (leftK m.pl 0) (.slice none 0 0) wo):=⟨World.ownsRow_nil _ _ _ _,HM.out.below⟩
 go_loopw [7,43] (fun v i3 wr=>∃ k:Nat,k≤n∧i3=.int .i64 k∧Hid (MkI w m n P Q i wr)∧Hid (GotI w (leftK m.pl k) v wr)) (fun _ i3 _=>n - (intOf i3).toNat)
 case atStart=>exact⟨0,Nat.zero_le _,rfl,HM,HG⟩
 clear HM HG
 obtain⟨k,hk3,rfl,HM,HG⟩:=hrel
 by_cases hkn:k<n
 ·have hkn2:(k:Int)<(n:Int):=by omega
  have yP:=HM.out.cellP hkn
  have yQ:=HM.out.cellQ hkn
  have hop:openB m.pl k=(hasK m.pl k i kOne&&!hasK m.pl k i kEnd):=by rw[(HALL.out k).1,(HALL.out k).2];unfold openB;simp
  have hql:=leftK_len m.pl k
  have HQL:=zh hql
  clear hql
  cases h1:hasK m.pl k i kOne
  ·rw[h1] at yP
   have HG2:=zh (HG.out.cast (leftK_no (by rw[hop,h1];rfl)))
   clear hop h1
   go_wp2_with fail
   go_roundw
   case rel=>exact⟨k+1,by omega,by go_num,HM,HG2⟩
   case measure=>simp[intOf];omega
  rw[h1] at yP
  cases h2:hasK m.pl k i kEnd
  ·rw[h2] at yQ
   have HY:=zh (leftK_yes (H:=m.pl) (k:=k) (by rw[hop,h1,h2];rfl))
   clear hop h1 h2
   have OW:=zh (HG.out.alloc (.cells #[.int .i64 (k:Int)] 3))
   have HM2:=zh (HM.out.alloc (.cells #[.int .i64 (k:Int)] 3))
   have hs1:=HG.out.below.size
   generalize hq:leftK m.pl k=q at *
   have hql:=HQL.out
   go_wp2_with (at_builtin;refine wpList_append_own _ rfl (.tmp 57) (.tmp 59) 40 rfl w.heap.size 3 i0 _ 1 8 Tryz.underlying40 hi hz0 hz1 hz2 rfl (by decide) _ _ _ rfl OW.out.own ⟨wr.heap.size,0,none⟩ 1 1 [.int .i64 (k:Int)] rfl rfl (cell_one_new wr (.int .i64 (k:Int)) 3) (by simp[Value.oneCell']) (by unfold maxLen;omega) (by omega) (by simp at hs1 ⊢;omega) ?_;intro v' w2 hown' hgrow _)
   have HN2:Hid (GotI w (leftK m.pl (k+1)) v' w2):=by show GotI _ _ _ _;rw[HY.out];exact OW.out.more hown' hgrow
   have HM3:=zh (HM2.out.grown hown' hgrow OW.out.own)
   clear hown' hgrow OW HG hs1 hq hql HM2
   go_wp2_with fail
   go_roundw
   case rel=>exact⟨k+1,by omega,by go_num,HM3,HN2⟩
   case measure=>simp[intOf];omega
  rw[h2] at yQ
  have HG2:=zh (HG.out.cast (leftK_no (by rw[hop,h1,h2];rfl)))
  clear hop h1 h2
  go_wp2_with fail
  go_roundw
  case rel=>exact⟨k+1,by omega,by go_num,HM,HG2⟩
  case measure=>simp[intOf];omega
 obtain rfl:k=n:=by omega
 have HF:Hid (leftK m.pl k=leftL m.pl):=by show _=_;rw[← leftK_all,HNL.out]
 obtain⟨A,c,rfl,h1,h2⟩:=own_form2 HG.out.own
 go_wp2_with fail
 go_ret
 have h9:=HG.out.own
 rw[HF.out] at h9
 exact⟨A,c,by rw[HF.out];rfl,h9,HG.out.below⟩
structure SameI (a b:HistM) (Ba Bb Bp:Nat) (w X:World):Prop where
 below:Below w.heap.size w X
 ba:Blk X Ba 28 a.cs
 bb:Blk X Bb 28 b.cs
 bp:Blk X Bp 95 #[.pointer (some ⟨Bb,0,none⟩),.pointer (some ⟨Bb,1,none⟩),.pointer (some ⟨Bb,2,none⟩),.pointer (some ⟨Bb,3,none⟩)]
theorem SameI.on {a b:HistM} {Ba Bb Bp:Nat} {w X Y:World} (h:SameI a b Ba Bb Bp w X) (hb:Below X.heap.size X Y):SameI a b Ba Bb Bp w Y:=⟨h.below.trans (hb.mono h.below.size),h.ba.below hb h.ba.lt,h.bb.below hb h.bb.lt,h.bp.below hb h.bp.lt⟩
end Go.Proofs.YtmkknbonmameoaaGreatDoor
