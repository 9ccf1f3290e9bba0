import Derived.Test.YtmkknbonmameoaaGreatDoorQ5
import Derived.Deep.CutRange
import Derived.Deep.DeepCutAuto
import Derived.Test.YtmkknbonmameoaaGreatDoorQ13
import Derived.Test.YtmkknbonmameoaaGreatDoorQ7
-- holds: YtmkknbonmameoaaGreatDoorHZj YtmkknbonmameoaaGreatDoorHZk
namespace Go.Proofs.YtmkknbonmameoaaGreatDoor
open Go.RowKit Go.Shelf
def thB (ks:List (Int × Int × Int)) (s:SeenP):Bool:=decide (0<s.k)&&decide ((ks.count (s.o,s.t,s.k):Nat)=0)
set_option maxRecDepth 100000 in
set_option maxHeartbeats 4000000 in
theorem written11_any (o t k:Int) (ks:List (Int × Int × Int)) (Bb M:Nat) (W:World) (hp:okS (o,t,k)) (hB:Blk W Bb 143 #[.map (some M)]) (hM:CntM 64 keyS okS M ks W) :
 Calls Tryz.prog 98 #[.agg #[.int .i64 o,.int .i64 t,.int .i64 k],.pointer (some ⟨Bb,0,none⟩)] W fun r W'=>r=.returned (.bool (thB ks ⟨o,t,k⟩))∧Below W.heap.size W W':=by
 have b0:Below W.heap.size W (W.alloc (.cells #[.int .i64 o,.int .i64 t,.int .i64 k] 64)):=(Below.refl _ _).alloc (Nat.le_refl _) _
 have KX:=zh (Blk.new W 64 #[.int .i64 o,.int .i64 t,.int .i64 k])
 have z0:=(hB.below b0 hB.lt).cell 0
 have hlk:=(hM.on b0).look seenKeys Tryz.underlying143 hp
 simp only[encS] at hlk
 have B0:=zh b0
 obtain⟨rb,hrb⟩:∃ rb,thB ks ⟨o,t,k⟩=rb:=⟨_,rfl⟩
 rw[hrb]
 have HRB:Hid ((decide (0<k)&&decide ((ks.count (o,t,k):Nat)=0))=rb):=hrb
 generalize ks.count (o,t,k)=cn at *
 clear hB hM b0 hrb
 go_enter Tryz.func98,Tryz.ntmps98
 go_upto_region 1 with fail
 have x0:=KX.out.cell 0
 have x1:=KX.out.cell 1
 have x2:=KX.out.cell 2
 generalize (W.alloc (.cells #[.int .i64 o,.int .i64 t,.int .i64 k] 64))=W0 at *
 by_cases hk:k > 0
 ·cases h0:((cn:Int)==0)
  ·have HR:Hid (rb=false):=by
    show _=_
    have:¬cn=0:=fun e=>by rw[e] at h0;simp at h0
    rw[← HRB.out,decide_eq_false this,Bool.and_false]
   clear HRB
   go_wp2_with fail
   go_ret
   exact⟨by rw[HR.out];rfl,B0.out⟩
  have HR:Hid (rb=true):=by
   show _=_
   have:cn=0:=by have:=eq_of_beq h0;omega
   rw[← HRB.out,decide_eq_true this,decide_eq_true (show 0<k from hk)]
   rfl
  clear HRB
  go_wp2_with fail
  go_ret
  exact⟨by rw[HR.out];rfl,B0.out⟩
 have HR:Hid (rb=false):=by
  show _=_
  rw[← HRB.out,decide_eq_false (show ¬0<k from hk),Bool.false_and]
 clear HRB
 go_wp2_with fail
 go_ret
 exact⟨by rw[HR.out];rfl,B0.out⟩
theorem eg_written11:∀ args w,(callFunc 98 args).run Tryz.prog w=.ok (.enter 98 args) w:=enters_of Tryz.func98 (by kernel_rfl) rfl
set_option maxRecDepth 100000 in
set_option maxHeartbeats 8000000 in
theorem written1_any (e:EvP) (hd:SH) (hn:hd.n≤1000000) (ks:List (Int × Int × Int)) (Bb M N:Nat) (W:World) (hks:ks.length≤1000000) (hw:e.kd=2→okS (e.o,e.vt,e.vk)) (hs:∀ s∈ruSeen e,okS (s.o,s.t,s.k)) (hB:Blk W Bb 143 #[.map (some M)]) (hM:CntM 64 keyS okS M ks W)
 (hR:Reads W N 3 hd.A hd.n (e.scan.flatMap seCs)) (hN:N≤M) :
 Calls Tryz.prog 95 #[.agg #[.int .i64 e.kd,.int .i64 e.t,.int .i64 e.s,.int .i64 e.lev,.int .i64 e.o,.int .i64 e.vt,.int .i64 e.vk,.int .i64 e.p,.slice hd.A hd.n hd.c],.pointer (some ⟨Bb,0,none⟩)] W fun r W'=>r=.returned (.bool ((ruSeen e).any (thB (if e.kd=2 then ks++[(e.o,e.vt,e.vk)] else ks))))∧CntM 64 keyS okS M (if e.kd=2 then ks++[(e.o,e.vt,e.vk)] else ks) W'∧Keep (fun j=>j≠M) W W':=by
 obtain⟨ks2,hks2⟩:∃ ks2,(if e.kd=2 then ks++[(e.o,e.vt,e.vk)] else ks)=ks2:=⟨_,rfl⟩
 rw[hks2]
 have HKS:=zh hks2
 have b0:Below W.heap.size W (W.alloc (.cells #[.int .i64 e.kd,.int .i64 e.t,.int .i64 e.s,.int .i64 e.lev,.int .i64 e.o,.int .i64 e.vt,.int .i64 e.vk,.int .i64 e.p,.slice hd.A hd.n hd.c] 60)):=(Below.refl _ _).alloc (Nat.le_refl _) _
 have KX:=zh (Blk.new W 60 #[.int .i64 e.kd,.int .i64 e.t,.int .i64 e.s,.int .i64 e.lev,.int .i64 e.o,.int .i64 e.vt,.int .i64 e.vk,.int .i64 e.p,.slice hd.A hd.n hd.c])
 have KB:=zh (hB.below b0 hB.lt)
 have KM:=zh (hM.on b0)
 have K0:Hid (Keep (fun j=>j≠M) W (W.alloc (.cells #[.int .i64 e.kd,.int .i64 e.t,.int .i64 e.s,.int .i64 e.lev,.int .i64 e.o,.int .i64 e.vt,.int .i64 e.vk,.int .i64 e.p,.slice hd.A hd.n hd.c] 60))):=Keep.of_all _ b0
 have HBM:Hid (Bb≠M):=hM.blk_ne hB
 have HXM:Hid (W.heap.size≠M):=by have:=hM.lt;show _≠_;omega
 have HR:Hid (∀ X,Keep (fun j=>j≠M) W X→Reads X X.heap.size 3 hd.A hd.n (e.scan.flatMap seCs)):=fun X h=>(h.reads hR (Nat.le_trans hN (Nat.le_of_lt hM.lt)) (fun k hk e=>by omega)).more (by have:=h.size;have:=hM.lt;omega)
 have HW:=zh hw
 have HS:=zh hs
 clear hB hM b0 hks2 hR hw hs
 go_enter Tryz.func95,Tryz.ntmps95
 go_upto_region 1 with fail
 obtain⟨X,hX⟩:∃ X,W.heap.size=X:=⟨_,rfl⟩
 rw[hX] at KX HXM ⊢
 clear hX
 generalize (W.alloc (.cells #[.int .i64 e.kd,.int .i64 e.t,.int .i64 e.s,.int .i64 e.lev,.int .i64 e.o,.int .i64 e.vt,.int .i64 e.vk,.int .i64 e.p,.slice hd.A hd.n hd.c] 60))=W0 at *
 have x0:=KX.out.cell 0
 go_upto_if 6 with fail
 clear x0
 go_cut [16] (fun s16 wx=>Hid (CntM 64 keyS okS M ks2 wx)∧Hid (Blk wx X 60 #[.int .i64 e.kd,.int .i64 e.t,.int .i64 e.s,.int .i64 e.lev,.int .i64 e.o,.int .i64 e.vt,.int .i64 e.vk,.int .i64 e.p,.slice hd.A hd.n hd.c])∧Hid (Blk wx Bb 143 #[.map (some M)])∧Hid (Keep (fun j=>j≠M) W wx))
 case first =>
  cases h2:(e.kd==2)
  ·have H3:Hid (CntM 64 keyS okS M ks2 W0):=by show CntM _ _ _ _ _ _;rw[← HKS.out,if_neg (by simpa using h2)];exact KM.out
   go_wp2_with fail
   go_meet
   exact⟨H3,KX,KB,K0⟩
  have h3:e.kd=2:=by simpa using h2
  have hp:=HW.out h3
  obtain⟨cn,v0,st,wq,w2,hc,hcl,hl,hme,hl1,hgq,hst,hm2,hg2⟩:=(KM.out.on (Below.refl _ W0).drew).bump seenLaw seenKeys Tryz.underlying143 hp (by omega)
  simp only[encS] at hl hme hl1
  have HM2:Hid (CntM 64 keyS okS M ks2 w2):=by show CntM _ _ _ _ _ _;rw[← HKS.out,if_pos h3];exact hm2
  have KX2:=zh ((KX.out.drew).grown hg2 (by intro h;injection h with h;exact HXM.out h))
  have KB2:=zh ((KB.out.drew).grown hg2 (by intro h;injection h with h;exact HBM.out h))
  have KK:=zh ((K0.out.drew).grown hg2 (fun g hg=>.inr fun h=>h (by injection hg with hg;exact hg.symm)))
  have hc0:(cn:Int)≤1000000:=by omega
  have hc1:0≤(cn:Int):=by omega
  have y4:=KX.out.cell 4
  have y5:=KX.out.cell 5
  have y6:=KX.out.cell 6
  have z0:=KB.out.cell 0
  clear hc hm2 hg2 hgq KM KX KB K0 hcl h3 hp
  go_wp2_with fail
  go_region
  all_goals
   go_wp2_with fail
   go_meet
   exact⟨HM2,KX2,KB2,KK⟩
 clear KX KB KM K0
 obtain⟨KM,KX,KB,K0⟩:=hcut
 have c0:=KX.out.cell 0
 have c1:=KX.out.cell 1
 have c2:=KX.out.cell 2
 have c3:=KX.out.cell 3
 have c4:=KX.out.cell 4
 have c5:=KX.out.cell 5
 have c6:=KX.out.cell 6
 have c7:=KX.out.cell 7
 have c8:=KX.out.cell 8
 have HC:=zh (seesZ_any e hd.A hd.n hd.c hn wc (HR.out wc K0.out))
 go_wp2_with fail
 refine HC.out.mono ?_
 rintro r w1 ⟨A2,n2,d2,rfl,hn2,hm2,hr2,b2⟩
 have KM1:=zh (KM.out.on b2)
 have KB1:=zh (KB.out.below b2 KB.out.lt)
 have K1:=zh (K0.out.trans (Keep.of_all _ b2))
 have HC2:=zh (contZ_any 98 eg_written11 #[.pointer (some ⟨Bb,0,none⟩)] (fun k=>match (ruSeen e)[k]? with | none=>false | some s=>thB ks2 s) (fun _ X=>CntM 64 keyS okS M ks2 X∧Blk X Bb 143 #[.map (some M)]) (fun _=>False) A2 n2 d2 (ruSeen e) w1 hm2 hr2 (fun X h=>h.reads hr2 (Nat.le_refl _) (fun _ _ h=>h)) (fun k X Y h hb=>⟨h.1.on hb,h.2.below hb h.2.lt⟩)
  (fun k s X hs hq=>(written11_any s.o s.t s.k ks2 Bb M X (HS.out s (List.mem_of_getElem? hs)) hq.2 hq.1).mono fun r X' h=>⟨by rw[h.1,hs],⟨hq.1.on h.2,hq.2.below h.2 hq.2.lt⟩,Keep.of_all _ h.2⟩) ⟨KM1.out,KB1.out⟩)
 have HAN:Hid (((List.range n2).find? (fun k=>match (ruSeen e)[k]? with | none=>false | some s=>thB ks2 s)).isSome=(ruSeen e).any (thB ks2)):=by
  show _=_
  rw[hn2]
  exact containsZ fun j s hs=>by simp only[hs]
 clear hn2 hr2 b2 HC c0 c1 c2 c3 c4 c5 c6 c7 c8 KM KX KB K0
 go_wp2_with fail
 refine HC2.out.mono ?_
 rintro r w2 ⟨rfl,hk2⟩
 have KM2:=zh (KM1.out.keep hk2 (fun h=>h))
 have K2:=zh (K1.out.trans (hk2.mono fun _ _ _ h=>h))
 rw[HAN.out]
 clear hk2 HC2 KM1 KB1 K1
 go_wp2_with fail
 go_ret
 exact⟨rfl,KM2.out,K2.out⟩
theorem eg_written1:∀ args w,(callFunc 95 args).run Tryz.prog w=.ok (.enter 95 args) w:=enters_of Tryz.func95 (by kernel_rfl) rfl
end Go.Proofs.YtmkknbonmameoaaGreatDoor
namespace Go.Proofs.YtmkknbonmameoaaGreatDoor
open Go.RowKit Go.Shelf
open Go.Maps (Keyed IsMap atKey_put_same atKey_put_other has_true_of_atKey has_false_of_atKey)
def heldZ (v:Value):Option (DataW Value × List MemPlace):=some (.held v,[])
def verZ (v:Int × Int):Value:=.agg #[.int .i64 v.1,.int .i64 v.2]
def OwnM (M nb:Nat) (f:Int × Int→Option (Int × Int)) (W:World):Prop:=∃ D,W.ownsMap (H:=Value) Tryz.prog 110 heldZ M nb D∧IsMap D∧∀ (q:Int × Int) (zd:DataW Value),okZ q→D.atKey (keyZ q) zd=match f q with | some v=>.held (verZ v) | none=>zd
section
variable {M nb : Nat} {f : Int × Int → Option (Int × Int)} {W X : World}
theorem OwnM.lt (h:OwnM M nb f W):M<W.heap.size:=by
 obtain⟨D,h1,_⟩:=h
 exact h1.lt
theorem OwnM.keep {S:Nat→Prop} (h:OwnM M nb f W) (hk:Keep S W X) (hs:S M):OwnM M nb f X:=by
 have hl:=h.lt
 obtain⟨D,h1,h2⟩:=h
 exact⟨D,ownsMap_at h1 (hk.block M hl hs),h2⟩
theorem OwnM.on (h:OwnM M nb f W) (hb:Below W.heap.size W X):OwnM M nb f X:=h.keep (Keep.of_all (fun _=>True) hb) trivial
theorem OwnM.blk_ne (h:OwnM M nb f W) {g:Nat} {t:TypeId} {cs:Array Value} (hb:Blk W g t cs):g≠M:=fun e=>by
 obtain⟨D,⟨es,clock,hm,_⟩,_⟩:=h
 unfold Blk at hb
 rw[e,hm] at hb
 cases hb
theorem OwnM.new (W:World):OwnM W.heap.size 0 (fun _=>none) (W.alloc (.map #[] 0)):=⟨_,World.ownsMap_made _ _ _ _,⟨[],rfl⟩,fun _ _ _=>rfl⟩
theorem OwnM.ext {g:Int × Int→Option (Int × Int)} (h:OwnM M nb f W) (hg:∀ q,g q=f q):OwnM M nb g W:=by rw[show g=f from funext hg];exact h
theorem zeroVerZ (w:World):(zeroValue 57).run Tryz.prog w=.ok (.agg #[.int .i64 0,.int .i64 0]) w:=by kernel_rfl
set_option maxRecDepth 100000 in
theorem OwnM.look (h:OwnM M nb f W) {p:Int × Int} (hp:okZ p):(Instr.lookup 147 (.map (some M)) (encZ p) true).run Tryz.prog W=.ok (.tuple #[match f p with | some v=>verZ v | none=>.agg #[.int .i64 0,.int .i64 0],.bool (f p).isSome]) W:=by
 obtain⟨D,h1,_,h3⟩:=h
 obtain⟨v,ps,hrun,hv⟩:=h1.look_ok writingKeys.keyed Tryz.underlying147 (zeroVerZ W) (zd:=.held (.agg #[.int .i64 0,.int .i64 0])) (zp:=[]) rfl (writingKeys.keyOf p hp)
 rw[hrun]
 unfold heldZ at hv
 injection hv with hv
 injection hv with hv _
 cases hm:f p with
 | none =>
  have h4:∀ z,D.atKey (keyZ p) z=z:=fun z=>by rw[h3 p z hp,hm]
  rw[h4] at hv
  injection hv with hv
  rw[hv,has_false_of_atKey h4]
  rfl
 | some e =>
  have h4:∀ z,D.atKey (keyZ p) z=.held (verZ e):=fun z=>by rw[h3 p z hp,hm]
  rw[h4] at hv
  injection hv with hv
  rw[hv,has_true_of_atKey h4]
  rfl
end
def oB (f:Int × Int→Option (Int × Int)) (t:Int) (s:SeenP):Bool:=match f (t,s.o) with
 | none=>false
 | some v=>!decide (s.t=v.1∧s.k=v.2)
set_option maxRecDepth 100000 in
set_option maxHeartbeats 4000000 in
theorem own11_any (o t k:Int) (e:EvP) (hd:SH) (f:Int × Int→Option (Int × Int)) (Bb Be M nb:Nat) (W:World) (hp:okZ (e.t,o)) (hB:Blk W Bb 147 #[.map (some M)]) (hE:Blk W Be 60 #[.int .i64 e.kd,.int .i64 e.t,.int .i64 e.s,.int .i64 e.lev,.int .i64 e.o,.int .i64 e.vt,.int .i64 e.vk,.int .i64 e.p,.slice hd.A hd.n hd.c]) (hM:OwnM M nb f W) :
 Calls Tryz.prog 100 #[.agg #[.int .i64 o,.int .i64 t,.int .i64 k],.pointer (some ⟨Bb,0,none⟩),.pointer (some ⟨Be,0,none⟩)] W fun r W'=>r=.returned (.bool (oB f e.t ⟨o,t,k⟩))∧Below W.heap.size W W':=by
 have b0:Below W.heap.size W (W.alloc (.cells #[.int .i64 o,.int .i64 t,.int .i64 k] 64)):=(Below.refl _ _).alloc (Nat.le_refl _) _
 have KX:=zh (Blk.new W 64 #[.int .i64 o,.int .i64 t,.int .i64 k])
 have z0:=(hB.below b0 hB.lt).cell 0
 have e1:=(hE.below b0 hE.lt).cell 1
 have hlk:=(hM.on b0).look hp
 simp only[encZ] at hlk
 have B0:=zh b0
 obtain⟨rb,hrb⟩:∃ rb,oB f e.t ⟨o,t,k⟩=rb:=⟨_,rfl⟩
 rw[hrb]
 have HRB:Hid (oB f e.t ⟨o,t,k⟩=rb):=hrb
 unfold oB at HRB
 simp only at HRB
 generalize f (e.t,o)=fo at *
 generalize e.t=et at *
 clear hB hM hE b0 hrb hp
 go_enter Tryz.func100,Tryz.ntmps100
 go_upto_region 1 with fail
 have x0:=KX.out.cell 0
 have x1:=KX.out.cell 1
 have x2:=KX.out.cell 2
 generalize (W.alloc (.cells #[.int .i64 o,.int .i64 t,.int .i64 k] 64))=W0 at *
 cases fo with
 | none =>
  simp only[Option.isSome_none] at hlk
  have HR:Hid (rb=false):=HRB.out.symm
  have B1:Hid (Below W.heap.size W (W0.alloc (.cells #[.int .i64 0,.int .i64 0] 57))):=B0.out.alloc B0.out.size _
  clear HRB
  go_wp2_with fail
  go_ret
  exact⟨by rw[HR.out];rfl,B1.out⟩
 | some v =>
  obtain⟨v1,v2⟩:=v
  simp only[Option.isSome_some,verZ] at hlk
  have HR:Hid (rb=!(t==v1&&k==v2)):=by
   show _=_
   rw[← HRB.out]
   simp only
   congr 1
   rw[Bool.eq_iff_iff]
   simp
  have B1:Hid (Below W.heap.size W (W0.alloc (.cells #[.int .i64 v1,.int .i64 v2] 57))):=B0.out.alloc B0.out.size _
  have KY:=zh (Blk.new W0 57 #[.int .i64 v1,.int .i64 v2])
  have KX1:=zh (KX.out.alloc (.cells #[.int .i64 v1,.int .i64 v2] 57))
  clear HRB
  go_upto_region 2 with fail
  have y0:=KY.out.cell 0
  have y1:=KY.out.cell 1
  have u1:=KX1.out.cell 1
  have u2:=KX1.out.cell 2
  generalize (W0.alloc (.cells #[.int .i64 v1,.int .i64 v2] 57))=W1 at *
  clear x0 x1 x2 z0 e1 hlk KX KX1 KY
  cases h1:(t==v1)<;>cases h2:(k==v2)
  all_goals
   rw[h1,h2] at HR
   go_wp2_with fail
   go_ret
   exact⟨by rw[HR.out];rfl,B1.out⟩
theorem eg_own11:∀ args w,(callFunc 100 args).run Tryz.prog w=.ok (.enter 100 args) w:=enters_of Tryz.func100 (by kernel_rfl) rfl
set_option maxRecDepth 100000 in
set_option maxHeartbeats 8000000 in
theorem own1_any (e:EvP) (hd:SH) (hn:hd.n≤1000000) (f g:Int × Int→Option (Int × Int)) (Bb M N nb:Nat) (W:World) (hnb:nb≤1000000) (hw:e.kd=2→okZ (e.t,e.o)) (hs:∀ s∈ruSeen e,okZ (e.t,s.o)) (hg:∀ q,g q=if e.kd=2 then (if q=(e.t,e.o) then some (e.vt,e.vk) else f q) else f q) (hB:Blk W Bb 147 #[.map (some M)]) (hM:OwnM M nb f W)
 (hR:Reads W N 3 hd.A hd.n (e.scan.flatMap seCs)) (hN:N≤M) :
 Calls Tryz.prog 99 #[.agg #[.int .i64 e.kd,.int .i64 e.t,.int .i64 e.s,.int .i64 e.lev,.int .i64 e.o,.int .i64 e.vt,.int .i64 e.vk,.int .i64 e.p,.slice hd.A hd.n hd.c],.pointer (some ⟨Bb,0,none⟩)] W fun r W'=>r=.returned (.bool ((ruSeen e).any (oB g e.t)))∧(∃ nb2,nb2≤nb+1∧OwnM M nb2 g W')∧Keep (fun j=>j≠M) W W':=by
 have b0:Below W.heap.size W (W.alloc (.cells #[.int .i64 e.kd,.int .i64 e.t,.int .i64 e.s,.int .i64 e.lev,.int .i64 e.o,.int .i64 e.vt,.int .i64 e.vk,.int .i64 e.p,.slice hd.A hd.n hd.c] 60)):=(Below.refl _ _).alloc (Nat.le_refl _) _
 have KX:=zh (Blk.new W 60 #[.int .i64 e.kd,.int .i64 e.t,.int .i64 e.s,.int .i64 e.lev,.int .i64 e.o,.int .i64 e.vt,.int .i64 e.vk,.int .i64 e.p,.slice hd.A hd.n hd.c])
 have KB:=zh (hB.below b0 hB.lt)
 have KM:=zh (hM.on b0)
 have K0:Hid (Keep (fun j=>j≠M) W (W.alloc (.cells #[.int .i64 e.kd,.int .i64 e.t,.int .i64 e.s,.int .i64 e.lev,.int .i64 e.o,.int .i64 e.vt,.int .i64 e.vk,.int .i64 e.p,.slice hd.A hd.n hd.c] 60))):=Keep.of_all _ b0
 have HBM:Hid (Bb≠M):=hM.blk_ne hB
 have HXM:Hid (W.heap.size≠M):=by have:=hM.lt;show _≠_;omega
 have HR:Hid (∀ X,Keep (fun j=>j≠M) W X→Reads X X.heap.size 3 hd.A hd.n (e.scan.flatMap seCs)):=fun X h=>(h.reads hR (Nat.le_trans hN (Nat.le_of_lt hM.lt)) (fun k hk e=>by omega)).more (by have:=h.size;have:=hM.lt;omega)
 have HW:=zh hw
 have HS:=zh hs
 have HG:=zh hg
 have HNB:Hid (nb≤1000000):=hnb
 clear hB hM b0 hR hw hs hg
 go_enter Tryz.func99,Tryz.ntmps99
 go_upto_region 1 with fail
 obtain⟨X,hX⟩:∃ X,W.heap.size=X:=⟨_,rfl⟩
 rw[hX] at KX HXM ⊢
 clear hX
 generalize (W.alloc (.cells #[.int .i64 e.kd,.int .i64 e.t,.int .i64 e.s,.int .i64 e.lev,.int .i64 e.o,.int .i64 e.vt,.int .i64 e.vk,.int .i64 e.p,.slice hd.A hd.n hd.c] 60))=W0 at *
 have x0:=KX.out.cell 0
 go_upto_if 6 with fail
 clear x0
 go_cut [14] (fun s14 wx=>Hid (∃ nb2,nb2≤nb+1∧OwnM M nb2 g wx)∧Hid (Blk wx X 60 #[.int .i64 e.kd,.int .i64 e.t,.int .i64 e.s,.int .i64 e.lev,.int .i64 e.o,.int .i64 e.vt,.int .i64 e.vk,.int .i64 e.p,.slice hd.A hd.n hd.c])∧Hid (Blk wx Bb 147 #[.map (some M)])∧Hid (Keep (fun j=>j≠M) W wx))
 case first =>
  cases h2:(e.kd==2)
  ·have H3:Hid (∃ nb2,nb2≤nb+1∧OwnM M nb2 g W0):=⟨nb,by omega,KM.out.ext fun q=>by rw[HG.out q,if_neg (by simpa using h2)]⟩
   go_wp2_with fail
   go_meet
   exact⟨H3,KX,KB,K0⟩
  have H2:Hid (e.kd=2):=by show _=_;simpa using h2
  obtain⟨D,hD,hI,hA⟩:=KM.out
  have HD:=zh hD
  have HI:=zh hI
  have HA:=zh hA
  have y1:=KX.out.cell 1
  have y4:=KX.out.cell 4
  have y5:=KX.out.cell 5
  have y6:=KX.out.cell 6
  have z0:=KB.out.cell 0
  clear hD hI hA
  go_wp2_with (at_mapUpdate;refine wpList_mapUpdate_own _ rfl _ _ _ 147 rfl 110 57 writingKeys.keyed Tryz.underlying147 heldZ M nb D rfl HD.out (by have:=HNB.out;unfold maxLen;omega) _ _ (keyZ (e.t,e.o)) rfl rfl (writingKeys.keyOf _ (HW.out H2.out)) (.held (verZ (e.vt,e.vk))) [] rfl ?_;intro w7 hown hgrow)
  have HM2:Hid (∃ nb2,nb2≤nb+1∧OwnM M nb2 g w7):=⟨nb+1,Nat.le_refl _,_,hown,HI.out.put _ _,fun q zd hq=>by
   rw[HG.out q,if_pos H2.out]
   by_cases hqe:q=(e.t,e.o)
   ·rw[if_pos hqe,hqe,atKey_put_same HI.out (writingKeys.lit _)]
   ·rw[if_neg hqe,atKey_put_other (writingKeys.ne hq (HW.out H2.out) hqe),HA.out q zd hq]⟩
  have KX2:=zh (KX.out.grown hgrow (by intro h;injection h with h;exact HXM.out h))
  have KB2:=zh (KB.out.grown hgrow (by intro h;injection h with h;exact HBM.out h))
  have KK:=zh (K0.out.grown hgrow (fun g hg=>.inr fun h=>h (by injection hg with hg;exact hg.symm)))
  clear hown hgrow KX KB K0 KM y1 y4 y5 y6 z0
  go_meet
  exact⟨HM2,KX2,KB2,KK⟩
 clear KX KB KM K0
 obtain⟨KM,KX,KB,K0⟩:=hcut
 obtain⟨nb2,hnb2,hm3⟩:=KM.out
 have KM3:=zh hm3
 have HNB2:Hid (nb2≤nb+1):=hnb2
 clear hm3 hnb2 KM
 have c0:=KX.out.cell 0
 have c1:=KX.out.cell 1
 have c2:=KX.out.cell 2
 have c3:=KX.out.cell 3
 have c4:=KX.out.cell 4
 have c5:=KX.out.cell 5
 have c6:=KX.out.cell 6
 have c7:=KX.out.cell 7
 have c8:=KX.out.cell 8
 have HC:=zh (seesZ_any e hd.A hd.n hd.c hn wc (HR.out wc K0.out))
 go_wp2_with fail
 refine HC.out.mono ?_
 rintro r w1 ⟨A2,n2,d2,rfl,hn2,hm2,hr2,b2⟩
 have KM1:=zh (KM3.out.on b2)
 have KB1:=zh (KB.out.below b2 KB.out.lt)
 have KX1:=zh (KX.out.below b2 KX.out.lt)
 have K1:=zh (K0.out.trans (Keep.of_all _ b2))
 have HC2:=zh (contZ_any 100 eg_own11 #[.pointer (some ⟨Bb,0,none⟩),.pointer (some ⟨X,0,none⟩)] (fun k=>match (ruSeen e)[k]? with | none=>false | some s=>oB g e.t s) (fun _ X2=>OwnM M nb2 g X2∧Blk X2 Bb 147 #[.map (some M)]∧Blk X2 X 60 #[.int .i64 e.kd,.int .i64 e.t,.int .i64 e.s,.int .i64 e.lev,.int .i64 e.o,.int .i64 e.vt,.int .i64 e.vk,.int .i64 e.p,.slice hd.A hd.n hd.c]) (fun _=>False) A2 n2 d2 (ruSeen e) w1 hm2 hr2 (fun X h=>h.reads hr2 (Nat.le_refl _) (fun _ _ h=>h)) (fun k X Y h hb=>⟨h.1.on hb,h.2.1.below hb h.2.1.lt,h.2.2.below hb h.2.2.lt⟩)
  (fun k s X2 hs hq=>(own11_any s.o s.t s.k e hd g Bb X M nb2 X2 (HS.out s (List.mem_of_getElem? hs)) hq.2.1 hq.2.2 hq.1).mono fun r X' h=>⟨by rw[h.1,hs],⟨hq.1.on h.2,hq.2.1.below h.2 hq.2.1.lt,hq.2.2.below h.2 hq.2.2.lt⟩,Keep.of_all _ h.2⟩) ⟨KM1.out,KB1.out,KX1.out⟩)
 have HAN:Hid (((List.range n2).find? (fun k=>match (ruSeen e)[k]? with | none=>false | some s=>oB g e.t s)).isSome=(ruSeen e).any (oB g e.t)):=by
  show _=_
  rw[hn2]
  exact containsZ fun j s hs=>by simp only[hs]
 clear hn2 hr2 b2 HC c0 c1 c2 c3 c4 c5 c6 c7 c8 KX KB K0
 go_wp2_with fail
 refine HC2.out.mono ?_
 rintro r w2 ⟨rfl,hk2⟩
 have KM2:=zh (KM1.out.keep hk2 (fun h=>h))
 have K2:=zh (K1.out.trans (hk2.mono fun _ _ _ h=>h))
 rw[HAN.out]
 clear hk2 HC2 KM1 KB1 KX1 K1
 go_wp2_with fail
 go_ret
 exact⟨rfl,⟨nb2,HNB2.out,KM2.out⟩,K2.out⟩
theorem eg_own1:∀ args w,(callFunc 99 args).run Tryz.prog w=.ok (.enter 99 args) w:=enters_of Tryz.func99 (by kernel_rfl) rfl
end Go.Proofs.YtmkknbonmameoaaGreatDoor
