import Derived.Deep.Heap
import Derived.Lib.OthersKept
import Derived.Below
import Derived.Test.YtmkknbonmameoaaGreatDoorQ1
import Derived.Test.YtmkknbonmameoaaGreatDoorQ3
import Derived.Lib.Strings
import Derived.Lib.ItoaNum
-- holds: YtmkknbonmameoaaGreatDoorHLv YtmkknbonmameoaaGreatDoorHLw
namespace Go.Proofs.YtmkknbonmameoaaGreatDoor
open Go.RowKit
theorem cell_blk {W W':World} {b o:Nat} (h:W'.heap[b]?=W.heap[b]?):W'.cell? ⟨b,o,none⟩=W.cell? ⟨b,o,none⟩:=by
 unfold World.cell?
 rw[h]
theorem frozen_blk {W W':World} {b o:Nat} (h:W'.heap[b]?=W.heap[b]?):W'.frozen? ⟨b,o,none⟩=W.frozen? ⟨b,o,none⟩:=by
 unfold World.frozen?
 rw[h]
theorem iter_keeps (w:World) (k b o:Nat) (s:ByteArray) (p:Nat) (h:b≠k) :
 (w.iterAt k s p).cell? ⟨b,o,none⟩=w.cell? ⟨b,o,none⟩∧(w.iterAt k s p).frozen? ⟨b,o,none⟩=w.frozen? ⟨b,o,none⟩ :=
 ⟨cell_blk (Lib.iterAt_other w k b s p h),frozen_blk (Lib.iterAt_other w k b s p h)⟩
theorem iterPos_is {w:World} {k:Nat} {s:ByteArray} {p:Nat} (h:w.heap[k]?=some (.stringIter s p)):w.iterPos k=p:=by unfold World.iterPos;rw[h]
theorem drop_ne {s:ByteArray} {p:Nat} (h:p<s.size):s.data.toList.drop p≠[]:=by
 intro e
 have:=congrArg List.length e
 rw[List.length_drop,← Lib.size_eq] at this
 simp at this
 omega
theorem items_at {l:List UInt8} {p:Nat} (h:l.drop p≠[]):items (l.drop p)=(clsL (l.drop p),(l.drop p).take (decL (l.drop p)).2) :: items (l.drop (p+(decL (l.drop p)).2)):=by
 rw[items_cons h,List.drop_drop]
theorem take_width {l:List UInt8} (h:l≠[]):(l.take (decL l).2).length=(decL l).2:=by
 have:=decL_le h
 rw[List.length_take]
 omega
theorem drop_end {s:ByteArray} {p:Nat} (h:¬p<s.size):s.data.toList.drop p=[]:=by
 rw[List.drop_eq_nil_iff,← Lib.size_eq]
 omega
theorem width_le {s:ByteArray} {p:Nat} (h:p<s.size):p+(decL (s.data.toList.drop p)).2≤s.size:=by
 have:=decL_le (drop_ne h)
 rw[List.length_drop,← Lib.size_eq] at this
 omega
theorem cls_good {l:List UInt8} (h:bad l=false):clsL l=(decL l).1:=by unfold clsL;rw[h];rfl
theorem cls_bad {l:List UInt8} (h:bad l=true):clsL l=-1:=by unfold clsL;rw[h];rfl
theorem extract_list (s:ByteArray) (p:Nat):(s.extract p s.size).data.toList=s.data.toList.drop p:=by
 simp only[ByteArray.data_extract,Array.toList_extract]
 rw[Lib.size_eq,List.extract_eq_take_drop,List.take_of_length_le (by rw[List.length_drop];omega)]
theorem dec10 {l:List UInt8}:clsL l=10↔bt l 0=10:=by
 constructor
 ·intro e
  have hb:=clsL_bad (l:=l) (by omega)
  rw[cls_good hb] at e
  rcases Nat.lt_or_ge (bt l 0) 128 with h1 | h1
  ·rw[decL_low h1] at e
   simp at e
   omega
  have:=decL_high h1
  omega
 intro e
 have hb:bad l=false:=by unfold bad;rw[decL_low (by omega),e];rfl
 rw[cls_good hb,decL_low (by omega),e]
 rfl
def GapAt (l:List UInt8) (p:Nat) (rem:Bool):Prop:=gapI false (items l)=(p+(gapI rem (items (l.drop p))).1,(gapI rem (items (l.drop p))).2)
def GapEnd (l:List UInt8) (p:Nat) (b:Bool):Prop:=(gapI false (items l)).1=p∧(gapI false (items l)).2.1=b
theorem GapAt.zero (l:List UInt8):GapAt l 0 false:=by
 unfold GapAt
 rw[List.drop_zero,Nat.zero_add]
theorem GapAt.go {l:List UInt8} {p:Nat} {rem:Bool} (h:GapAt l p rem) (hne:l.drop p≠[]) (hb:bad (l.drop p)=false) (hgo:gapGo rem ((decL (l.drop p)).1:Nat)=true) :
 GapAt l (p+(decL (l.drop p)).2) (rem || (((decL (l.drop p)).1:Nat):Int)==35):=by
 unfold GapAt at h ⊢
 rw[h,items_at hne,cls_good hb,gapI_go hgo]
 simp only[take_width hne,Nat.add_assoc]
theorem GapAt.stop {l:List UInt8} {p:Nat} {rem:Bool} (h:GapAt l p rem) (hne:l.drop p≠[]) (hb:bad (l.drop p)=false) (hgo:gapGo rem ((decL (l.drop p)).1:Nat)=false) :
 GapEnd l p (rem&&decide (bt (l.drop p) 0≠10))∧(rem || (((decL (l.drop p)).1:Nat):Int)==35)=rem:=by
 constructor
 ·unfold GapAt at h
  unfold GapEnd
  rw[h,items_at hne,cls_good hb,gapI_no hgo]
  refine⟨rfl,?_⟩
  show (rem&&(((decL (l.drop p)).1:Nat):Int) != 10)=_
  rw[← cls_good hb]
  congr 1
  rw[Bool.eq_iff_iff,bne_iff_ne,decide_eq_true_eq,ne_eq,dec10]
 unfold gapGo at hgo
 cases rem
 ·simp at hgo ⊢
  intro e
  have:=hgo.2
  omega
 rfl
theorem GapAt.bad {l:List UInt8} {p:Nat} {rem:Bool} (h:GapAt l p rem) (hne:l.drop p≠[]) (hb:bad (l.drop p)=true) :
 GapEnd l p (rem&&decide (bt (l.drop p) 0≠10)):=by
 unfold GapAt at h
 unfold GapEnd
 have hn:gapGo rem (-1)=false:=by cases rem<;>rfl
 rw[h,items_at hne,cls_bad hb,gapI_no hn]
 refine⟨rfl,?_⟩
 show (rem&&((-1:Int) != 10))=_
 congr 1
 rw[← cls_bad hb,Bool.eq_iff_iff,bne_iff_ne,decide_eq_true_eq,ne_eq,dec10]
theorem GapAt.fin {l:List UInt8} {p:Nat} {rem:Bool} (h:GapAt l p rem) (he:l.drop p=[]):GapEnd l p false:=by
 unfold GapAt at h
 unfold GapEnd
 rw[h,he,items_nil,gapI_nil]
 exact⟨rfl,rfl⟩
def WordAt (l:List UInt8) (p:Nat):Prop:=wordI 0 (items l)=wordI p (items (l.drop p))
def WordEnd (l:List UInt8) (p:Nat) (full:Bool):Prop:=(wordI 0 (items l)).1=p∧(wordI 0 (items l)).2.1=full
theorem WordAt.zero (l:List UInt8):WordAt l 0:=by unfold WordAt;rw[List.drop_zero]
theorem WordAt.go {l:List UInt8} {p:Nat} (h:WordAt l p) (hne:l.drop p≠[]) (hb:bad (l.drop p)=false) (hgo:wordGo p ((decL (l.drop p)).1:Nat)=true) (h24:¬24<p+(decL (l.drop p)).2) :
 WordAt l (p+(decL (l.drop p)).2):=by
 unfold WordAt at h ⊢
 rw[h,items_at hne,cls_good hb,wordI_go hgo (by rw[take_width hne];exact h24),take_width hne]
theorem WordAt.full {l:List UInt8} {p:Nat} (h:WordAt l p) (hne:l.drop p≠[]) (hb:bad (l.drop p)=false) (hgo:wordGo p ((decL (l.drop p)).1:Nat)=true) (h24:24<p+(decL (l.drop p)).2) :
 WordEnd l p true:=by
 unfold WordAt at h
 unfold WordEnd
 rw[h,items_at hne,cls_good hb,wordI_full hgo (by rw[take_width hne];exact h24)]
 exact⟨rfl,rfl⟩
theorem WordAt.stop {l:List UInt8} {p:Nat} (h:WordAt l p) (hne:l.drop p≠[]) (hgo:bad (l.drop p)=true∨(bad (l.drop p)=false∧wordGo p ((decL (l.drop p)).1:Nat)=false)) :
 WordEnd l p false:=by
 unfold WordAt at h
 unfold WordEnd
 have hno:wordGo p (clsL (l.drop p))=false:=by
  rcases hgo with hb | ⟨hb,hg⟩
  ·rw[cls_bad hb];unfold wordGo isLt isDg;simp
  rw[cls_good hb];exact hg
 rw[h,items_at hne,wordI_no hno]
 exact⟨rfl,rfl⟩
theorem WordAt.fin {l:List UInt8} {p:Nat} (h:WordAt l p) (he:l.drop p=[]):WordEnd l p false:=by
 unfold WordAt at h
 unfold WordEnd
 rw[h,he,items_nil,wordI]
 exact⟨rfl,rfl⟩
theorem wordI_le:∀ (I:List It) (u:Nat),u≤24→(wordI u I).1≤24
 | [],u,h=>h
 | (c,bs) :: I,u,h=>by
  cases hg:wordGo u c
  ·rw[wordI_no hg];exact h
  by_cases h24:24<u+bs.length
  ·rw[wordI_full hg h24];exact h
  rw[wordI_go hg h24];exact wordI_le I _ (by omega)
end Go.Proofs.YtmkknbonmameoaaGreatDoor
namespace Go.Proofs.YtmkknbonmameoaaGreatDoor
def wordN (l:List UInt8):Nat:=(wordI 0 (items l)).1
def wordBad (l:List UInt8):Bool:=decide (wordN l=0) || (wordI 0 (items l)).2.1
def wordErr (l:List UInt8):Int:=if wordBad l=true then 120 else 0
theorem wordErr_yes {l:List UInt8} (h:wordBad l=true):wordErr l=120:=by unfold wordErr;rw[if_pos h]
theorem wordErr_no {l:List UInt8} (h:wordBad l=false):wordErr l=0:=by unfold wordErr;rw[if_neg (by simp[h])]
end Go.Proofs.YtmkknbonmameoaaGreatDoor
