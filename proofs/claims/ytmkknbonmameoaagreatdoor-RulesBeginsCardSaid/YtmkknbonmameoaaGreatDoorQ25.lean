import Derived.Test.YtmkknbonmameoaaGreatDoorQ5
import Derived.Deep.CutRange
import Derived.Deep.DeepCutAuto
import Derived.Test.YtmkknbonmameoaaGreatDoorQ12
-- holds: YtmkknbonmameoaaGreatDoorHZh
namespace Go.Proofs.YtmkknbonmameoaaGreatDoor
open Go.RowKit Go.Shelf
set_option maxRecDepth 100000 in
set_option maxHeartbeats 4000000 in
theorem counted1_any (kd t s lev o vt vk pp:Int) (A:Option Addr) (n c:Nat) (ks:List (Int × Int)) (Bb M:Nat) (W:World) (hp:okZ (t,o)) (hn:ks.length≤1000000) (hB:Blk W Bb 142 #[.map (some M)]) (hM:CntM 110 keyZ okZ M ks W) :
 Calls Tryz.prog 94 #[.agg #[.int .i64 kd,.int .i64 t,.int .i64 s,.int .i64 lev,.int .i64 o,.int .i64 vt,.int .i64 vk,.int .i64 pp,.slice A n c],.pointer (some ⟨Bb,0,none⟩)] W fun r W'=>r=.returned (.bool (decide (kd=2)&&!decide (vk=(ks.count (t,o):Int)+1)))∧CntM 110 keyZ okZ M (if kd=2 then ks++[(t,o)] else ks) W'∧Keep (fun j=>j≠M) W W':=by
 obtain⟨rb,hrb⟩:∃ rb,(decide (kd=2)&&!decide (vk=(ks.count (t,o):Int)+1))=rb:=⟨_,rfl⟩
 obtain⟨ks2,hks⟩:∃ ks2,(if kd=2 then ks++[(t,o)] else ks)=ks2:=⟨_,rfl⟩
 rw[hrb,hks]
 have HRB:=zh hrb
 have HKS:=zh hks
 clear hrb hks
 have b0:Below W.heap.size W (W.alloc (.cells #[.int .i64 kd,.int .i64 t,.int .i64 s,.int .i64 lev,.int .i64 o,.int .i64 vt,.int .i64 vk,.int .i64 pp,.slice A n c] 60)):=(Below.refl _ _).alloc (Nat.le_refl _) _
 have KX:=zh (Blk.new W 60 #[.int .i64 kd,.int .i64 t,.int .i64 s,.int .i64 lev,.int .i64 o,.int .i64 vt,.int .i64 vk,.int .i64 pp,.slice A n c])
 have KB:=zh (hB.below b0 hB.lt)
 have KM:=zh (hM.on b0)
 have K0:Hid (Keep (fun j=>j≠M) W (W.alloc (.cells #[.int .i64 kd,.int .i64 t,.int .i64 s,.int .i64 lev,.int .i64 o,.int .i64 vt,.int .i64 vk,.int .i64 pp,.slice A n c] 60))):=Keep.of_all _ b0
 have HBM:Hid (Bb≠M):=hM.blk_ne hB
 have HXM:Hid (W.heap.size<(W.alloc (.cells #[.int .i64 kd,.int .i64 t,.int .i64 s,.int .i64 lev,.int .i64 o,.int .i64 vt,.int .i64 vk,.int .i64 pp,.slice A n c] 60)).heap.size∧M<W.heap.size):=⟨by simp,hM.lt⟩
 clear hB hM b0
 go_enter Tryz.func94,Tryz.ntmps94
 go_upto_region 1 with fail
 obtain⟨X,hX⟩:∃ X,W.heap.size=X:=⟨_,rfl⟩
 rw[hX] at KX HXM ⊢
 generalize (W.alloc (.cells #[.int .i64 kd,.int .i64 t,.int .i64 s,.int .i64 lev,.int .i64 o,.int .i64 vt,.int .i64 vk,.int .i64 pp,.slice A n c] 60))=W0 at *
 have x0:=KX.out.cell 0
 have x1:=KX.out.cell 1
 have x4:=KX.out.cell 4
 cases h2:(kd==2)
 ·have h2n:(kd != 2)=true:=by simp[bne,h2]
  have h3:kd≠2:=by simpa using h2
  have HR:Hid (rb=false):=by show _=_;rw[← HRB.out,decide_eq_false h3];rfl
  have HM3:Hid (CntM 110 keyZ okZ M ks2 W0):=by show CntM _ _ _ _ _ _;rw[← HKS.out,if_neg h3];exact KM.out
  clear h2 h3
  go_wp2_with fail
  go_ret
  exact⟨by rw[HR.out];rfl,HM3.out,K0.out⟩
 obtain rfl:kd=2:=by simpa using h2
 clear h2
 have b1:Below W0.heap.size W0 (W0.alloc (.cells #[.int .i64 t,.int .i64 o] 110)):=(Below.refl _ _).alloc (Nat.le_refl _) _
 have KY:=zh (Blk.new W0 110 #[.int .i64 t,.int .i64 o])
 have KX1:=zh (KX.out.below b1 KX.out.lt)
 have KB1:=zh (KB.out.below b1 KB.out.lt)
 have KM1:=zh (KM.out.on b1)
 have K1:=zh (K0.out.trans (Keep.of_all _ b1))
 have HYM:Hid (W0.heap.size≠M):=by have:=HXM.out;show _≠_;omega
 have HXM2:Hid (X≠M):=by have:=HXM.out;show _≠_;omega
 clear b1 KX KB KM K0
 go_upto_region 4 with fail
 clear x0 x1 x4
 obtain⟨Y,hY⟩:∃ Y,W0.heap.size=Y:=⟨_,rfl⟩
 rw[hY] at KY HYM ⊢
 generalize W0.alloc (.cells #[.int .i64 t,.int .i64 o] 110)=W1 at *
 have KD:=zh (KM1.out.on (Below.refl _ W1).drew)
 obtain⟨cn,v0,st,wq,w2,hc,hcl,hl,hme,hl1,hgq,hst,hm2,hg2⟩:=KD.out.bump writingLaw writingKeys Tryz.underlying142 hp (by omega)
 simp only[encZ] at hl hme hl1
 have HM2:=zh hm2
 have KX2:=zh ((KX1.out.drew).grown hg2 (by intro h;injection h with h;exact HXM2.out h))
 have KY2:=zh ((KY.out.drew).grown hg2 (by intro h;injection h with h;exact HYM.out h))
 have KB2:=zh ((KB1.out.drew).grown hg2 (by intro h;injection h with h;exact HBM.out h))
 have KK:=zh ((K1.out.drew).grown hg2 (fun g hg=>.inr fun h=>h (by injection hg with hg;exact hg.symm)))
 have hc0:(cn:Int)≤1000000:=by omega
 have hc1:0≤(cn:Int):=by omega
 have y0:=KY.out.cell 0
 have y1:=KY.out.cell 1
 have z0:=KB1.out.cell 0
 have HC:Hid (cn=ks.count (t,o)):=hc
 clear hc hm2 hg2 hgq KM1 KD KX1 KB1 KY hX hY hcl
 go_cut [16] (fun s16 wx=>w2=wx)
 case first =>
  go_region
  all_goals
   go_wp2_with fail
   go_meet
   exact rfl
 obtain rfl:=hcut
 clear hl hme hl1 hst y0 y1 z0
 have hlk:=(HM2.out.on (Below.refl _ w2).drew).look writingKeys Tryz.underlying142 hp
 rw[List.count_append,List.count_singleton_self,← HC.out] at hlk
 simp only[encZ] at hlk
 rw[show ((cn+1:Nat):Int)=(cn:Int)+1 by omega] at hlk
 have u0:=KY2.out.cell 0
 have u1:=KY2.out.cell 1
 have v1:=KB2.out.cell 0
 have x6:=KX2.out.cell 6
 have HR:Hid (rb=(vk != (cn:Int)+1)):=by show _=_;rw[← HRB.out,← HC.out];simp only[decide_true,Bool.true_and];rfl
 have HM3:Hid (CntM 110 keyZ okZ M ks2 w2):=by show CntM _ _ _ _ _ _;rw[← HKS.out,if_pos rfl];exact HM2.out
 cases hbb:(vk != (cn:Int)+1)
 all_goals
  rw[hbb] at HR
  go_wp2_with fail
  go_region
  all_goals
   go_wp2_with fail
   go_ret
   exact⟨by rw[HR.out];rfl,HM3.out.on (Below.refl _ _).drew,KK.out.drew⟩
set_option maxRecDepth 100000 in
theorem counted1_no (kd t s lev o vt vk pp:Int) (A:Option Addr) (n c:Nat) (Bb:Nat) (W:World) (h2:kd≠2) :
 Calls Tryz.prog 94 #[.agg #[.int .i64 kd,.int .i64 t,.int .i64 s,.int .i64 lev,.int .i64 o,.int .i64 vt,.int .i64 vk,.int .i64 pp,.slice A n c],.pointer (some ⟨Bb,0,none⟩)] W fun r W'=>r=.returned (.bool false)∧Below W.heap.size W W':=by
 have b0:Below W.heap.size W (W.alloc (.cells #[.int .i64 kd,.int .i64 t,.int .i64 s,.int .i64 lev,.int .i64 o,.int .i64 vt,.int .i64 vk,.int .i64 pp,.slice A n c] 60)):=(Below.refl _ _).alloc (Nat.le_refl _) _
 have KX:=zh (Blk.new W 60 #[.int .i64 kd,.int .i64 t,.int .i64 s,.int .i64 lev,.int .i64 o,.int .i64 vt,.int .i64 vk,.int .i64 pp,.slice A n c])
 have B0:=zh b0
 have h2n:(kd != 2)=true:=by simp[bne,h2]
 clear b0 h2
 go_enter Tryz.func94,Tryz.ntmps94
 go_upto_region 1 with fail
 have x0:=KX.out.cell 0
 generalize (W.alloc (.cells #[.int .i64 kd,.int .i64 t,.int .i64 s,.int .i64 lev,.int .i64 o,.int .i64 vt,.int .i64 vk,.int .i64 pp,.slice A n c] 60))=W0 at *
 go_wp2_with fail
 go_ret
 exact⟨rfl,B0.out⟩
end Go.Proofs.YtmkknbonmameoaaGreatDoor
