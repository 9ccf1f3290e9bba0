import Derived.Lib.OthersKept
import Derived.BigQuiet
import Derived.Deep.QuietTactic
import Derived.Test.YtmkknbonmameoaaGreatDoorQ2
import Derived.Test.YtmkknbonmameoaaGreatDoorQ4
import Derived.Test.YtmkknbonmameoaaGreatDoorShelf
-- holds: YtmkknbonmameoaaGreatDoorHLb YtmkknbonmameoaaGreatDoorHLd
namespace Go.Proofs.YtmkknbonmameoaaGreatDoor
theorem zh {p:Prop} (h:p):Go.RowKit.Hid p:=h
open Go.RowKit
set_option maxHeartbeats 400000 in
theorem isWrong_any (s:ByteArray) (w:World) :
 Calls Tryz.prog 182 #[.string s,.int .i32 ((decL s.data.toList).1:Nat)] w fun e w'=>e=.returned (.bool (bad s.data.toList))∧w=w':=by
 have h:=wrong_pref s.data.toList
 have HP:Hid (∀ w:World,Calls Tryz.prog 185 #[.string s,.string ⟨#[239,191,189]⟩] w fun e w'=>e=.returned (.bool (Lib.hasPrefix s.data.toList [239,191,189]))∧w=w'):=fun w =>
  (Tryz.strings_HasPrefix s ⟨#[239,191,189]⟩ w).mono fun e w' hp=>⟨hp.1,hp.2.symm⟩
 generalize Lib.hasPrefix s.data.toList [239,191,189]=p at *
 rw[← h]
 clear h
 generalize (decL s.data.toList).1=r at *
 by_cases hr:r=65533
 ·have hrb:((r:Int)==65533)=true:=by simp;omega
  rw[decide_eq_true hr,Bool.true_and]
  clear hr
  go_enter Tryz.func182,Tryz.ntmps182
  go_wp2_with fail
  refine (HP.out _).mono ?_
  rintro e w1 ⟨rfl,rfl⟩
  go_wp2_with fail
  go_ret
  exact⟨rfl,rfl⟩
 have hrb:((r:Int)==65533)=false:=by simp;omega
 rw[decide_eq_false hr,Bool.false_and]
 clear hr
 go_enter Tryz.func182,Tryz.ntmps182
 go_wp2_with fail
 go_ret
 exact⟨rfl,rfl⟩
set_option maxHeartbeats 800000 in
theorem wordClo_no (u:Nat) (r:Int) (K:Nat) (w:World) (h:wordGo u r=false) :
 Calls Tryz.prog 174 #[.int .i64 u,.int .i32 r,.pointer (some ⟨K,0,none⟩)] w fun e w'=>e=.returned (.bool false)∧w=w':=by
 have HL:=zh fun w=>isLetter_any r w
 have HD:=zh fun w=>isDg_any r w
 unfold wordGo at h
 have hl:isLt r=false:=by simp at h;exact h.1
 rw[hl] at HL h
 rw[Bool.false_or] at h
 clear hl
 by_cases hu:u=0
 ·have hub:((u:Int)==0)=true:=by simp;omega
  clear h hu
  go_enter Tryz.func174,Tryz.ntmps174
  go_wp2_with fail
  refine (HL.out _).mono ?_
  rintro e w1 ⟨rfl,rfl⟩
  go_wp2_with fail
  go_ret
  exact⟨rfl,rfl⟩
 have hub:((u:Int)==0)=false:=by simp;omega
 have hd:isDg r=false:=by simp at h;exact h hu
 rw[hd] at HD
 clear h hd hu
 go_enter Tryz.func174,Tryz.ntmps174
 go_wp2_with fail
 refine (HL.out _).mono ?_
 rintro e w1 ⟨rfl,rfl⟩
 go_wp2_with fail
 refine (HD.out _).mono ?_
 rintro e w1 ⟨rfl,rfl⟩
 go_wp2_with fail
 go_ret
 exact⟨rfl,rfl⟩
set_option maxHeartbeats 800000 in
theorem wordClo_yes (u n:Nat) (r:Int) (b:Bool) (K:Nat) (w:World) (hc:w.cell? ⟨K,0,none⟩=some (.bool b)) (hf:w.frozen? ⟨K,0,none⟩=false) (h:wordGo u r=true) (hn:Lib.runeLen r=n) (hn4:n≤4) (hu9:u≤9223372036854775800) :
 Calls Tryz.prog 174 #[.int .i64 u,.int .i32 r,.pointer (some ⟨K,0,none⟩)] w fun e w'=>e=.returned (.bool (!decide (24<u+n)))∧w'=w.setCell ⟨K,0,none⟩ (.bool (decide (24<u+n))):=by
 have HL:=zh fun w=>isLetter_any r w
 have HD:=zh fun w=>isDg_any r w
 have HR:Hid (∀ w:World,Calls Tryz.prog 177 #[.int .i32 r] w fun e w'=>e=.returned (.int .i64 n)∧w=w'):=fun w=>by
  rw[← hn];exact (Tryz.utf8_RuneLen r w).mono fun e w' hp=>⟨hp.1,hp.2.symm⟩
 have hc2:=World.cell?_setCell_same' w ⟨K,0,none⟩ (.bool (decide (24<u+n))) (by rw[hc];rfl)
 clear hn
 unfold wordGo at h
 have hd24:decide (24<u+n)=decide ((24:Int)<(u:Int)+n):=by rw[decide_eq_decide];omega
 rw[hd24] at hc2 ⊢
 cases hl:isLt r
 ·rw[hl] at HL h
  rw[Bool.false_or] at h
  have hu:u≠0:=by simp at h;exact h.1
  have hd:isDg r=true:=by simp at h;exact h.2
  rw[hd] at HD
  have hub:((u:Int)==0)=false:=by simp;omega
  clear h hd hl hd24
  cases h24:decide ((24:Int)<(u:Int)+n)
  all_goals
   rw[h24] at hc2
   go_enter Tryz.func174,Tryz.ntmps174
   go_wp2_with fail
   refine (HL.out _).mono ?_
   rintro e w1 ⟨rfl,rfl⟩
   go_wp2_with fail
   refine (HD.out _).mono ?_
   rintro e w1 ⟨rfl,rfl⟩
   go_wp2_with fail
   refine (HR.out _).mono ?_
   rintro e w1 ⟨rfl,rfl⟩
   go_wp2_with fail
   go_ret
   exact⟨rfl,rfl⟩
 rw[hl] at HL
 clear h hl hd24
 cases h24:decide ((24:Int)<(u:Int)+n)
 all_goals
  rw[h24] at hc2
  go_enter Tryz.func174,Tryz.ntmps174
  go_wp2_with fail
  refine (HL.out _).mono ?_
  rintro e w1 ⟨rfl,rfl⟩
  go_wp2_with fail
  refine (HR.out _).mono ?_
  rintro e w1 ⟨rfl,rfl⟩
  go_wp2_with fail
  go_ret
  exact⟨rfl,rfl⟩
def RunWord (s:ByteArray) (K:Nat) (w:World) (e:Ending) (w':World):Prop :=
 ∃ (n:Nat) (full:Bool),e=.returned (.int .i64 n)∧n≤s.size∧w'.cell? ⟨K,0,none⟩=some (.bool full)∧Below K w w'∧WordEnd s.data.toList n full
theorem wordI_ge:∀ (I:List It) (u:Nat),u≤(wordI u I).1
 | [],u=>Nat.le_refl _
 | (c,bs) :: I,u=>by
  cases hg:wordGo u c
  ·rw[wordI_no hg];exact Nat.le_refl _
  by_cases h24:24<u+bs.length
  ·unfold wordI
   rw[if_pos hg,if_pos h24]
   exact Nat.le_refl _
  rw[wordI_go hg h24]
  exact Nat.le_trans (Nat.le_add_right _ _) (wordI_ge I _)
theorem WordAt.le24 {l:List UInt8} {p:Nat} (h:WordAt l p):p≤24:=by
 unfold WordAt at h
 have h1:=wordI_le (items l) 0 (by omega)
 have h2:=wordI_ge (items (l.drop p)) p
 rw[h] at h1
 omega
set_option maxHeartbeats 1600000 in
theorem runWord_any (s:ByteArray) (K:Nat) (w:World) (hK:K<w.heap.size) (hc:w.cell? ⟨K,0,none⟩=some (.bool false)) (hf:w.frozen? ⟨K,0,none⟩=false) (_hs:s.size≤9223372036854775807) :
 Calls Tryz.prog 173 #[.string s,.func (Fn.func 174) #[] #[.pointer (some ⟨K,0,none⟩)]] w (RunWord s K w):=by
 have HC:=zh hc
 have HF:=zh hf
 clear hc hf
 go_enter Tryz.func173,Tryz.ntmps173
 go_wp2_with fail
 go_loopw [] (fun wr=>∃ p:Nat,p≤s.size∧wr.heap[w.heap.size]?=some (.stringIter s p)∧Below K w wr∧wr.cell? ⟨K,0,none⟩=some (.bool false)∧wr.frozen? ⟨K,0,none⟩=false∧WordAt s.data.toList p) (fun wr=>s.size - wr.iterPos w.heap.size)
 case atStart =>
  have hb:Below w.heap.size w (w.iter s 0):=(Below.refl _ _).alloc (Nat.le_refl _) _
  exact⟨0,Nat.zero_le _,World.iter_heap _ _ _,hb.mono (Nat.le_of_lt hK),(hb.cell (p:=⟨K,0,none⟩) hK).trans HC.out,(hb.frozen (p:=⟨K,0,none⟩) hK).trans HF.out,WordAt.zero _⟩
 obtain⟨p,hp,hit,hB,hcr,hfr,hI⟩:=hrel
 have hsz:w.heap.size<wr.heap.size:=(Array.getElem?_eq_some_iff.1 hit).1
 have hKk:K≠w.heap.size:=by omega
 by_cases hlt:p<s.size
 ·have hne:=drop_ne hlt
  have hwd:=width_le hlt
  have hw1:=(decL_width (s.data.toList.drop p)).1
  have hw4:=(decL_width (s.data.toList.drop p)).2
  have hit1:=Lib.iterAt_heap wr w.heap.size s p (p+(decL (s.data.toList.drop p)).2) hit
  have hk1:=iter_keeps wr w.heap.size K 0 s (p+(decL (s.data.toList.drop p)).2) hKk
  have hB1:=Lib.below_iterAt hB (Nat.le_of_lt hK) s (p+(decL (s.data.toList.drop p)).2)
  have hnx:∀ ty,(Instr.next (.pointer (some ⟨w.heap.size,0,none⟩)) true ty).run Tryz.prog wr=.ok (.tuple #[.bool true,.int .i64 p,.int .i32 ((decL (s.data.toList.drop p)).1:Nat)]) (wr.iterAt w.heap.size s (p+(decL (s.data.toList.drop p)).2)):=fun ty=>by rw[Lib.run_next_any_at wr w.heap.size s p ty hit hlt,decode_drop]
  have hHW:=isWrong_any (s.extract p s.size)
  rw[extract_list] at hHW
  have HW:=zh hHW
  have hrl:bad (s.data.toList.drop p)=false→Lib.runeLen (((decL (s.data.toList.drop p)).1:Nat):Int)=((decL (s.data.toList.drop p)).2:Nat):=fun h=>runeLen_dec h
  have hp24:=hI.le24
  have hSt:=fun h=>hI.stop hne h
  have hGo:=fun hb hgo h=>hI.go hne hb hgo h
  have hFu:=fun hb hgo h=>hI.full hne hb hgo h
  obtain⟨t,ht⟩:∃ t,s.extract p s.size=t:=⟨_,rfl⟩
  rw[ht] at HW
  have HIT:=zh hit
  have HIT1:=zh hit1
  obtain⟨wq,hwq⟩:∃ wq,wq=wr.iterAt w.heap.size s (p+(decL (s.data.toList.drop p)).2):=⟨_,rfl⟩
  rw[← hwq] at hnx HIT1 hk1 hB1
  have hcq:wq.cell? ⟨K,0,none⟩=some (.bool false):=hk1.1.trans hcr
  have hfq:wq.frozen? ⟨K,0,none⟩=false:=hk1.2.trans hfr
  have HCQ:=zh hcq
  have HFQ:=zh hfq
  have hset:=fun v=>World.cell?_setCell_same' wq ⟨K,0,none⟩ v (by rw[hcq];rfl)
  have HSET:=zh hset
  have hfset:∀ v,(wq.setCell ⟨K,0,none⟩ v).frozen? ⟨K,0,none⟩=false:=fun v=>by rw[World.frozen?_setCell];exact hfq
  have HFSET:=zh hfset
  clear hit hit1 hk1 hB hcr hfr hHW hne hwq hI hcq hfq hset hfset
  generalize (decL (s.data.toList.drop p)).1=r at *
  generalize (decL (s.data.toList.drop p)).2=d at *
  cases hbad:bad (s.data.toList.drop p)
  ·rw[hbad] at HW
   cases hgo:wordGo p (r:Nat)
   ·have hst:=hSt (.inr ⟨hbad,hgo⟩)
    have HG:=zh fun W=>wordClo_no p r K W hgo
    have hfin:RunWord s K w (.returned (.int .i64 p)) wq:=⟨p,false,rfl,hp,HCQ.out,hB1,hst⟩
    have HFIN:=zh hfin
    clear hfin hst hgo hbad hSt hGo hFu hrl
    go_wp2_with fail
    refine (HW.out _).mono ?_
    rintro e w1 ⟨rfl,rfl⟩
    go_wp2_with fail
    refine (HG.out _).mono ?_
    rintro e w2 ⟨rfl,rfl⟩
    go_wp2_with fail
    go_ret
    exact HFIN.out
   have HG:=zh fun W h1 h2=>wordClo_yes p d r false K W h1 h2 hgo (hrl hbad) hw4 (by omega)
   by_cases h24:24<p+d
   ·have hst:=hFu hbad hgo h24
    rw[decide_eq_true h24] at HG
    have hfin:RunWord s K w (.returned (.int .i64 p)) (wq.setCell ⟨K,0,none⟩ (.bool true)) :=
     ⟨p,true,rfl,hp,HSET.out _,hB1.setCell (p:=⟨K,0,none⟩) (Nat.le_refl _) _,hst⟩
    have HFIN:=zh hfin
    clear hfin hst hgo hbad hSt hGo hFu hrl
    go_wp2_with fail
    refine (HW.out _).mono ?_
    rintro e w1 ⟨rfl,rfl⟩
    go_wp2_with fail
    refine (HG.out _ HCQ.out HFQ.out).mono ?_
    rintro e w2 ⟨rfl,rfl⟩
    go_wp2_with fail
    go_ret
    exact HFIN.out
   have hst:=zh (hGo hbad hgo h24)
   rw[decide_eq_false h24] at HG
   have HB2:=zh (hB1.setCell (p:=⟨K,0,none⟩) (Nat.le_refl _) (.bool false))
   have HIT2:Hid ((wq.setCell ⟨K,0,none⟩ (.bool false)).heap[w.heap.size]?=some (.stringIter s (p+d))):=(Below.heap_setCell _ _ _ _ (fun e=>hKk e.symm)).trans HIT1.out
   clear hgo hbad hSt hGo hFu hrl hB1
   go_wp2_with fail
   refine (HW.out _).mono ?_
   rintro e w1 ⟨rfl,rfl⟩
   go_wp2_with fail
   refine (HG.out _ HCQ.out HFQ.out).mono ?_
   rintro e w2 ⟨rfl,rfl⟩
   go_wp2_with fail
   go_roundw
   case rel=>exact⟨p+d,hwd,HIT2.out,HB2.out,HSET.out _,HFSET.out _,hst.out⟩
   case measure=>rw[iterPos_is HIT2.out,iterPos_is HIT.out];omega
  rw[hbad] at HW
  have hst:=hSt (.inl hbad)
  have hfin:RunWord s K w (.returned (.int .i64 p)) wq:=⟨p,false,rfl,hp,HCQ.out,hB1,hst⟩
  have HFIN:=zh hfin
  clear hfin hst hbad hSt hGo hFu hrl
  go_wp2_with fail
  refine (HW.out _).mono ?_
  rintro e w1 ⟨rfl,rfl⟩
  go_wp2_with fail
  go_ret
  exact HFIN.out
 have hnx:∀ ty,(Instr.next (.pointer (some ⟨w.heap.size,0,none⟩)) true ty).run Tryz.prog wr=_:=fun ty=>Lib.run_next_end_at wr w.heap.size s p ty hit hlt
 have hfi:=hI.fin (drop_end hlt)
 obtain rfl:p=s.size:=by omega
 have hfin:RunWord s K w (.returned (.int .i64 s.size)) wr:=⟨s.size,false,rfl,hp,hcr,hB,hfi⟩
 have HFIN:=zh hfin
 clear hfin hfi hI hit hcr hfr hB hlt
 go_wp2_with fail
 go_ret
 exact HFIN.out
set_option maxHeartbeats 800000 in
theorem word_any (s:ByteArray) (hs:s.size≤9223372036854775807) (w:World) :
 Calls Tryz.prog 157 #[.string s] w fun e w'=>e=.returned (.tuple #[.int .i64 (wordN s.data.toList),.int .i64 (wordErr s.data.toList)])∧Below w.heap.size w w':=by
 have H:=zh fun W h1 h2 h3=>runWord_any s w.heap.size W h1 h2 h3 hs
 go_enter Tryz.func157,Tryz.ntmps157
 go_wp2_with fail
 refine (H.out _ (by simp) (by simp) (by simp)).mono ?_
 rintro e w1 ⟨n,full,rfl,hn,hc,hB,hE⟩
 have hB2:Below w.heap.size w w1:=((Below.refl _ _).alloc (Nat.le_refl _) _).trans hB
 have HN:Hid (wordN s.data.toList=n):=hE.1
 have HBD:Hid (wordBad s.data.toList=(decide (n=0) || full)):=by
  show wordBad s.data.toList=_
  unfold wordBad
  rw[HN.out,hE.2]
 clear hE hB
 by_cases h0:n=0
 ·have hb:((n:Int)==0)=true:=by simp;omega
  have HE:Hid (wordErr s.data.toList=120):=wordErr_yes (by rw[HBD.out,decide_eq_true h0];rfl)
  clear h0
  go_wp2_with fail
  go_ret2
  exact⟨by rw[HN.out,HE.out];rfl,hB2⟩
 have hb:((n:Int)==0)=false:=by simp;omega
 cases full
 ·have HE:Hid (wordErr s.data.toList=0):=wordErr_no (by rw[HBD.out,decide_eq_false h0];rfl)
  clear h0
  go_wp2_with fail
  go_ret2
  exact⟨by rw[HN.out,HE.out];rfl,hB2⟩
 have HE:Hid (wordErr s.data.toList=120):=wordErr_yes (by rw[HBD.out,Bool.or_true])
 clear h0
 go_wp2_with fail
 go_ret2
 exact⟨by rw[HN.out,HE.out];rfl,hB2⟩
def wordB (l:List UInt8):Bool:=decide (wordErr l=0)&&decide (wordN l=l.length)
set_option maxHeartbeats 800000 in
theorem Word_any (s:ByteArray) (hs:s.size≤9223372036854775807) (w:World) :
 Calls Tryz.prog 125 #[.string s] w fun e w'=>e=.returned (.bool (wordB s.data.toList))∧Below w.heap.size w w':=by
 have H:=zh (word_any s hs w)
 have HS:=zh (Lib.size_eq s)
 by_cases h0:wordErr s.data.toList=0
 ·have hb:(wordErr s.data.toList==0)=true:=by simpa using h0
  by_cases hn:wordN s.data.toList=s.size
  ·have hnb:((wordN s.data.toList:Int)==(s.size:Int))=true:=by simp;omega
   have HR:Hid (wordB s.data.toList=true):=by show wordB _=true;unfold wordB;rw[decide_eq_true h0,decide_eq_true (by rw[hn,HS.out])];rfl
   clear h0 hn
   go_enter Tryz.func125,Tryz.ntmps125
   go_wp2_with fail
   refine H.out.mono ?_
   rintro e w1 ⟨rfl,hB⟩
   go_wp2_with fail
   go_ret
   exact⟨by rw[HR.out];rfl,hB⟩
  have hnb:((wordN s.data.toList:Int)==(s.size:Int))=false:=by simp;omega
  have HR:Hid (wordB s.data.toList=false):=by show wordB _=false;unfold wordB;rw[decide_eq_false (show ¬wordN s.data.toList=s.data.toList.length by rw[← HS.out];exact hn),Bool.and_false]
  clear h0 hn
  go_enter Tryz.func125,Tryz.ntmps125
  go_wp2_with fail
  refine H.out.mono ?_
  rintro e w1 ⟨rfl,hB⟩
  go_wp2_with fail
  go_ret
  exact⟨by rw[HR.out];rfl,hB⟩
 have hb:(wordErr s.data.toList==0)=false:=by simpa using h0
 have HR:Hid (wordB s.data.toList=false):=by show wordB _=false;unfold wordB;rw[decide_eq_false h0];rfl
 clear h0
 go_enter Tryz.func125,Tryz.ntmps125
 go_wp2_with fail
 refine H.out.mono ?_
 rintro e w1 ⟨rfl,hB⟩
 go_wp2_with fail
 go_ret
 exact⟨by rw[HR.out];rfl,hB⟩
end Go.Proofs.YtmkknbonmameoaaGreatDoor
