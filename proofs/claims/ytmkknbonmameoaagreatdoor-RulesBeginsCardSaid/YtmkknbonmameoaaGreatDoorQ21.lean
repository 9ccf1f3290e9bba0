import Derived.Test.YtmkknbonmameoaaGreatDoorQ5
import Derived.Maps.Own
import Derived.Maps.OwnSet
import Derived.Maps.OwnOps
import Derived.Maps.OwnIn
import Derived.StringKeys
import Derived.Test.YtmkknbonmameoaaGreatDoorQ16
import Derived.Test.YtmkknbonmameoaaGreatDoorQ19
-- holds: YtmkknbonmameoaaGreatDoorHIm
namespace Go.Proofs.YtmkknbonmameoaaGreatDoor
open Go.RowKit Go.Shelf Go.Maps
instance decInS (s:ByteArray) (l:List ByteArray):Decidable (s∈l):=decidable_of_iff (l.any (fun t=>decide (t=s))=true) (by simp)
def addS (l:List ByteArray) (n:ByteArray):List ByteArray:=if n∈l then l else l++[n]
def dstF (l:List ByteArray) (r:List ByteArray):List ByteArray:=r.foldl addS l
theorem dst_len:∀ {r l:List ByteArray},l.Nodup→(dstF l r).length≤l.length+r.length∧((dstF l r).length=l.length+r.length↔(l++r).Nodup)
 | [],l,h=>by simp[dstF,h]
 | n :: r,l,h=>by
  show (dstF (addS l n) r).length≤_∧((dstF (addS l n) r).length=_↔_)
  by_cases hn:n∈l
  ·have e:addS l n=l:=by unfold addS;rw[if_pos hn]
   rw[e]
   have:=(dst_len (r:=r) h).1
   refine⟨by simp;omega,fun hh=>by simp at hh;omega,fun hh=>?_⟩
   exact absurd rfl ((List.nodup_append.1 hh).2.2 n hn n (by simp))
  have e:addS l n=l++[n]:=by unfold addS;rw[if_neg hn]
  have h2:(l++[n]).Nodup:=by
   rw[List.nodup_append]
   exact⟨h,by simp,fun a ha b hb=>by simp at hb;subst hb;exact fun e=>hn (e▸ha)⟩
  have:=dst_len (r:=r) h2
  rw[e]
  rw[List.length_append,List.append_assoc] at this
  simp only[List.length_singleton,List.singleton_append] at this
  refine⟨by simp;omega,?_⟩
  rw[← this.2]
  simp
  omega
theorem dst_snoc (l r:List ByteArray) (s:ByteArray):dstF l (r++[s])=addS (dstF l r) s:=by unfold dstF;rw[List.foldl_append];rfl
theorem mem_dst {s:ByteArray}:∀ {r l:List ByteArray},s∈dstF l r↔s∈l∨s∈r
 | [],l=>by simp[dstF]
 | n :: r,l=>by
  show s∈dstF (addS l n) r↔_
  rw[mem_dst]
  unfold addS
  split
  ·rename_i h
   simp only[List.mem_cons]
   constructor
   ·rintro (h1 | h1)
    ·exact .inl h1
    exact .inr (.inr h1)
   rintro (h1 | rfl | h1)
   ·exact .inl h1
   ·exact .inl h
   exact .inr h1
  simp[or_assoc]
structure MapS (D:DataW Unit) (l:List ByteArray):Prop where
 isMap:IsMap D
 size:Maps.size D=(dstF [] l).length
 has:∀ s:ByteArray,Maps.has D (.string s.data.toList)=decide (s∈l)
theorem key_neI {p q:ByteArray} (h:p≠q):Lit.string p.data.toList≠Lit.string q.data.toList:=fun e=>h (by
 injection e with e
 cases p;cases q
 congr 1
 exact Array.toList_inj.1 e)
theorem MapS.none_:MapS (.map []) []:=⟨⟨[],rfl⟩,rfl,fun s=>by simp;rfl⟩
theorem MapS.put {D:DataW Unit} {l:List ByteArray} {s:ByteArray} {v:DataW Unit} (h:MapS D l) (ht:Tidy D):MapS (D.put (.string s.data.toList) v) (l++[s]):=by
 refine⟨h.isMap.put _ _,?_,fun t=>?_⟩
 ·rw[size_put ht,h.has,h.size,dst_snoc]
  unfold addS
  by_cases hs:s∈l
  ·rw[if_pos (mem_dst.2 (.inr hs)),decide_eq_true hs];rfl
  have hd:s ∉ dstF [] l:=fun e=>hs (by simpa using mem_dst.1 e)
  rw[decide_eq_false hs,if_neg hd,List.length_append];rfl
 by_cases e:t=s
 ·subst e
  rw[has_put_same h.isMap (show WideAt.IsKeyLit (.string t.data.toList) from trivial),decide_eq_true (by simp)]
 rw[has_put_other (key_neI e),h.has]
 rw[decide_eq_decide]
 simp[e]
theorem map_blockI {W W':World} {M k:Nat} {D:DataW Unit} (h:W.ownsMap (H:=Unit) Tryz.prog 9 (plainElem Tryz.prog 3) M k D) (hb:W'.heap[M]?=W.heap[M]?):W'.ownsMap (H:=Unit) Tryz.prog 9 (plainElem Tryz.prog 3) M k D:=by
 obtain⟨es,clock,h1,r⟩:=h
 exact⟨es,clock,hb.trans h1,r⟩
theorem names_part {l:List ByteArray} {k:Nat} {s:ByteArray} (hs:l[k]?=some s) (hw:wrdB s=false):namesB l=false:=by
 rw[Bool.eq_false_iff]
 intro h
 have:=(namesB_iff.1 h).1 s (List.mem_of_getElem? hs)
 rw[hw] at this
 cases this
set_option maxRecDepth 100000 in
set_option maxHeartbeats 4000000 in
theorem apart_any (A:Option Addr) (n c:Nat) (l:List ByteArray) (hn:n≤1000) (hss:∀ s∈l,s.size≤140737488355328) (w:World) (hR:Reads w w.heap.size 1 A n (strs l)) :
 Calls Tryz.prog 71 #[.slice A n c] w fun e w'=>e=.returned (.bool (namesB l))∧Below w.heap.size w w':=by
 have hmm:=@run_makeMap Tryz.prog
 have HL:=zh (strs_len hR)
 have HR:=zh hR
 have HSS:=zh hss
 have HM:Hid ((w.alloc (.map #[] 0)).ownsMap (H:=Unit) Tryz.prog 9 (plainElem Tryz.prog 3) w.heap.size 0 (.map [])):=World.ownsMap_made _ _ _ _
 have HB:Hid (Below w.heap.size w (w.alloc (.map #[] 0))):=(Below.refl _ _).alloc (Nat.le_refl _) _
 clear hR hss
 go_enter Tryz.func71,Tryz.ntmps71
 go_wp2_with fail
 generalize w.alloc (.map #[] 0)=W0 at *
 obtain⟨M,hM⟩:∃ M,M=w.heap.size:=⟨_,rfl⟩
 rw[← hM] at HM ⊢
 have HMW:Hid (w.heap.size≤M):=by show _≤_;omega
 clear hM
 go_loopw [9] (fun v wr=>∃ i:Nat,v=.int .i64 i∧i≤n∧Hid (∃ D,wr.ownsMap (H:=Unit) Tryz.prog 9 (plainElem Tryz.prog 3) M i D∧MapS D (l.take i))∧Hid (∀ s∈l.take i,wrdB s=true)∧Hid (Below w.heap.size w wr)) (fun v _=>n - (intOf v).toNat)
 case atStart=>exact⟨0,rfl,Nat.zero_le _,⟨_,HM.out,MapS.none_⟩,by simp[Hid],HB⟩
 clear HM HB
 obtain⟨i,rfl,hin,HD,HW,HB⟩:=hrel
 by_cases hin2:i<n
 ·have hlt:(i:Int)<(n:Int):=by omega
  obtain⟨s,hs⟩:∃ s,l[i]?=some s:=⟨l[i]'(by rw[HL.out];omega),List.getElem?_eq_getElem _⟩
  have hsz:=HSS.out s (List.mem_of_getElem? hs)
  obtain⟨b,o,rfl,hb,g0⟩:=str_at (HR.out.below HB.out) hs
  have HC:=zh (Word_any s (by omega) wr)
  have HS:=zh hs
  clear hs
  cases hw:wordB s.data.toList
  ·rw[hw] at HC
   have HN:=zh (names_part HS.out hw)
   clear hw
   go_wp2_with fail
   refine HC.out.mono ?_
   rintro e w1 ⟨rfl,b1⟩
   have HB1:=zh (HB.out.trans (b1.mono HB.out.size))
   clear b1 HC
   go_wp2_with fail
   go_ret
   exact⟨by rw[HN.out];rfl,HB1.out⟩
  rw[hw] at HC
  have HWD:Hid (wrdB s=true):=hw
  clear hw
  go_wp2_with fail
  refine HC.out.mono ?_
  rintro e w1 ⟨rfl,b1⟩
  have HB1:=zh (HB.out.trans (b1.mono HB.out.size))
  obtain⟨D,hd0,hi⟩:=HD.out
  have hd:=map_blockI hd0 (b1.block M hd0.lt)
  have HDD:=zh hd
  have HI:Hid (MapS (D.put (.string s.data.toList) (.lit (.int .i64 (i:Int)))) (l.take (i+1))):=by
   have:=hi.put (v:=.lit (.int .i64 (i:Int))) (s:=s) (hd.tidy (string_keyed Tryz.underlying9))
   rw[List.take_add_one,HS.out]
   exact this
  have HKEY:Hid (keyOf Tryz.prog 9 (.string s)=some (.string s.data.toList)):=Go.WideMaps.keyOf_string_mk Tryz.underlying9 (by unfold maxLen;omega)
  clear b1 HC HD hd hd0 hi
  go_wp2_with (at_mapUpdate;refine wpList_mapUpdate_own _ rfl _ _ _ 170 rfl 9 3 (string_keyed Tryz.underlying9) Tryz.underlying170 _ M i D rfl HDD.out (by unfold maxLen;omega) _ _ (.string s.data.toList) rfl rfl HKEY.out (.lit (.int .i64 (i:Int))) [] (plainElem_int Tryz.underlying3 (WalkArith.wf_i64 (by omega))) ?_;intro w5 hown5 hgrow5)
  have HO5:=zh hown5
  have HB5:Hid (Below w.heap.size w w5):=HB1.out.grown hgrow5 HB1.out.size (fun k e=>by cases e;exact HMW.out)
  clear hown5 hgrow5
  go_roundw
  case rel=>exact⟨i+1,by go_num,hin2,⟨_,HO5.out,HI.out⟩,(by
   intro t ht
   rw[List.take_add_one,HS.out] at ht
   rcases List.mem_append.1 ht with ht | ht
   ·exact HW.out t ht
   ·simp at ht
    subst ht
    exact HWD.out),HB5⟩
  case measure=>simp[intOf];omega
 have hge:¬(i:Int)<(n:Int):=by omega
 obtain rfl:i=n:=by omega
 obtain⟨D,hd,hi⟩:=HD.out
 have hlen:=fun ty=>hd.len Tryz.underlying170 ty
 have htk:l.take i=l:=List.take_of_length_le (by rw[HL.out];omega)
 rw[htk] at hi
 rw[hi.size] at hlen
 have hlw:=HW.out
 rw[htk] at hlw
 have HQ:Hid ((((dstF [] l).length:Int)==(i:Int))=namesB l):=by
  have h2:=(dst_len (r:=l) (l:=[]) (by simp)).2
  simp only[List.length_nil,Nat.zero_add,List.nil_append] at h2
  show _=_
  rw[Bool.eq_iff_iff,namesB_iff,beq_iff_eq,← h2,HL.out]
  exact⟨fun h=>⟨hlw,by omega⟩,fun h=>by omega⟩
 clear hd hi HD htk hlw
 go_wp2_with fail
 go_ret
 exact⟨by rw[← HQ.out];rfl,HB.out⟩
end Go.Proofs.YtmkknbonmameoaaGreatDoor
