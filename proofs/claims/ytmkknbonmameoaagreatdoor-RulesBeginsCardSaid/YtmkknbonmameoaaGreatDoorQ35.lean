import Derived.Deep.CutRange
import Derived.Deep.DeepCutAuto
import Derived.Deep.CutBlock
import Derived.Test.YtmkknbonmameoaaGreatDoorQ23
import Derived.Test.YtmkknbonmameoaaGreatDoorQ32
import Derived.Test.YtmkknbonmameoaaGreatDoorQ7
import Derived.Test.YtmkknbonmameoaaGreatDoorQ34
-- holds: YtmkknbonmameoaaGreatDoorHJs YtmkknbonmameoaaGreatDoorHYb YtmkknbonmameoaaGreatDoorHAw
namespace Go.Proofs.YtmkknbonmameoaaGreatDoor
open Go.RowKit Go.Shelf
structure H4 where
 a0:SH
 a1:SH
 a2:SH
 a3:SH
def H4.at_ (h:H4) (s:Nat):SH:=if s=0 then h.a0 else if s=1 then h.a1 else if s=2 then h.a2 else h.a3
def H4.set (h:H4) (s:Nat) (x:SH):H4:=if s=0 then ⟨x,h.a1,h.a2,h.a3⟩ else if s=1 then ⟨h.a0,x,h.a2,h.a3⟩ else if s=2 then ⟨h.a0,h.a1,x,h.a3⟩ else ⟨h.a0,h.a1,h.a2,x⟩
def H4.cs (h:H4):Array Value:=#[.slice h.a0.A h.a0.n h.a0.c,.slice h.a1.A h.a1.n h.a1.c,.slice h.a2.A h.a2.n h.a2.c,.slice h.a3.A h.a3.n h.a3.c]
def H4.rows (h:H4) (r:List (Nat × Int)):List (List Value × SH):=[(ints (spk 0 r),h.a0),(ints (spk 1 r),h.a1),(ints (spk 2 r),h.a2),(ints (spk 3 r),h.a3)]
structure SpkI (w:World) (m:HistM) (B3:Nat) (X:World) (r:List (Nat × Int)) (h:H4):Prop where
 below:Below w.heap.size w X
 bh:Blk X w.heap.size 28 m.cs
 br:Blk X (w.heap.size+1) 80 #[.slice none 0 0,.slice none 0 0,.slice none 0 0,.slice none 0 0]
 b3:Blk X B3 80 h.cs
 ne:w.heap.size+1<B3
 rg:RG 3 1 w.heap.size X (h.rows r)
theorem firstsF_len:∀ (r l:List Int),(firstsF l r).length≤l.length+r.length
 | [],l=>by simp[firstsF]
 | n :: r,l=>by
  rw[firstsF_cons]
  have h1:=firstsF_len r (addI l n)
  have h2:(addI l n).length≤l.length+1:=by unfold addI;split<;>simp
  rw[List.length_cons]
  omega
theorem spk_le (s:Nat) (r:List (Nat × Int)):(spk s r).length≤r.length:=by
 unfold spk
 have h1:=firstsF_len (ofSort s r) []
 have h2:(ofSort s r).length≤r.length:=by unfold ofSort;rw[List.length_map];exact List.length_filter_le ..
 simp at h1
 omega
section
variable {w X Y Z : World} {m : HistM} {B3 s k : Nat} {r r' : List (Nat × Int)} {h : H4} {n : Int} {A : Option Addr} {c' : Nat}
theorem SpkI.on (c:SpkI w m B3 X r h) (hb:Below X.heap.size X Y):SpkI w m B3 Y r h:=⟨c.below.trans (hb.mono c.below.size),c.bh.below hb c.bh.lt,c.br.below hb c.br.lt,c.b3.below hb c.b3.lt,c.ne,c.rg.on hb⟩
theorem SpkI.to (c:SpkI w m B3 X r h) (e:r'=r):SpkI w m B3 X r' h:=by rw[e];exact c
theorem h4_cs (hs:s<4) (x:SH):(h.set s x).cs=h.cs.setIfInBounds s (.slice x.A x.n x.c):=by
 have:s=0∨s=1∨s=2∨s=3:=by omega
 rcases this with rfl | rfl | rfl | rfl<;>rfl
theorem h4_at (hs:s<4):(h.rows r)[s]?=some (ints (spk s r),h.at_ s):=by
 have:s=0∨s=1∨s=2∨s=3:=by omega
 rcases this with rfl | rfl | rfl | rfl<;>rfl
theorem h4_set (hs:s<4) (x:SH) (hq:∀ q,q<4→q≠s→spk q r'=spk q r):(h.set s x).rows r'=(h.rows r).set s (ints (spk s r'),x):=by
 have:s=0∨s=1∨s=2∨s=3:=by omega
 unfold H4.rows
 rcases this with rfl | rfl | rfl | rfl
 ·rw[hq 1 (by omega) (by omega),hq 2 (by omega) (by omega),hq 3 (by omega) (by omega)];rfl
 ·rw[hq 0 (by omega) (by omega),hq 2 (by omega) (by omega),hq 3 (by omega) (by omega)];rfl
 ·rw[hq 0 (by omega) (by omega),hq 1 (by omega) (by omega),hq 3 (by omega) (by omega)];rfl
 rw[hq 0 (by omega) (by omega),hq 1 (by omega) (by omega),hq 2 (by omega) (by omega)];rfl
theorem SpkI.len (c:SpkI w m B3 X r h) (hs:s<4):(h.at_ s).n≤r.length:=by
 have h9:=(c.rg.own s _ (h4_at hs)).1
 rw[ints_length] at h9
 have:=spk_le s r
 simp only[Nat.mul_one] at h9
 omega
theorem SpkI.step (c:SpkI w m B3 X r h) (hs:s<4) (hq:∀ q,q<4→q≠s→spk q r'=spk q r) (hpre:∃ t,spk s r'=spk s r++t) (hb:Below X.heap.size X Y)
 (hg:Y.grownBy Z (Value.slice (h.at_ s).A (h.at_ s).n (h.at_ s).c).ownBlock) (ho:Z.ownsRow w.heap.size 3 1 (.slice A k c') k (ints (spk s r')))
 (hat:(Value.slice A k c').ownBlock=(Value.slice (h.at_ s).A (h.at_ s).n (h.at_ s).c).ownBlock∨(Value.slice A k c').ownBlock=some Y.heap.size) :
 Blk Z B3 80 h.cs∧(∀ g u cs,Blk X g u cs→u≠3→u≠80→Blk (Z.setCell ⟨B3,s,none⟩ (.slice A k c')) g u cs)∧∃ h2,SpkI w m B3 (Z.setCell ⟨B3,s,none⟩ (.slice A k c')) r' h2:=by
 have d:=c.on hb
 have hold:=d.rg.own s _ (h4_at hs)
 have k1:KeepT 3 Y Z:=KeepT.grown hold hg
 have b3Z:=k1.blk d.b3 (by decide)
 have k2:=box_turn b3Z s (.slice A k c')
 refine⟨b3Z,fun g u cs hbk h1 h2=>k2.blk (k1.blk (hbk.below hb hbk.lt) h1) h2,h.set s ⟨A,k,c'⟩,?_⟩
 obtain⟨t,ht⟩:=hpre
 have e:ints (spk s r')=ints (spk s r)++ints t:=by rw[ht,ints_append]
 rw[e] at ho
 have hrg:=(d.rg.grow (h4_at hs) ho hg hat).keepT k2 (by decide)
 constructor
 ·exact (d.below.grown hg d.below.size fun g hg2=>(own_in_block hold hg2).1).setCell (p:=⟨B3,s,none⟩) (by show w.heap.size≤B3;have:=c.ne;omega) _
 ·exact k2.blk (k1.blk d.bh (by decide)) (by decide)
 ·exact (k1.blk d.br (by decide)).far (p:=⟨B3,s,none⟩) (Nat.ne_of_lt c.ne) _
 ·rw[h4_cs hs]
  exact b3Z.set_ s _
 ·exact c.ne
 rw[h4_set hs _ hq,e]
 exact hrg
theorem SpkI.first (c:SpkI w m B3 X r h) (hs:s<4) (hb:Below X.heap.size X Y)
 (hg:Y.grownBy Z (Value.slice (h.at_ s).A (h.at_ s).n (h.at_ s).c).ownBlock) (ho:Z.ownsRow w.heap.size 3 1 (.slice A k c') k (ints (addI (spk s r) n)))
 (hat:(Value.slice A k c').ownBlock=(Value.slice (h.at_ s).A (h.at_ s).n (h.at_ s).c).ownBlock∨(Value.slice A k c').ownBlock=some Y.heap.size) :
 Blk Z B3 80 h.cs∧(∀ g u cs,Blk X g u cs→u≠3→u≠80→Blk (Z.setCell ⟨B3,s,none⟩ (.slice A k c')) g u cs)∧∃ h2,SpkI w m B3 (Z.setCell ⟨B3,s,none⟩ (.slice A k c')) (r++[(s,n)]) h2:=by
 have e:spk s (r++[(s,n)])=addI (spk s r) n:=by rw[spk_snoc,if_pos rfl]
 refine c.step hs (fun q hq hne=>?_) ?_ hb hg (by rw[e];exact ho) hat
 ·rw[spk_snoc,if_neg (Ne.symm hne)]
 rw[e];exact addI_pre
theorem SpkI.made {t v:Int} (c:SpkI w m B3 X r h) (hb:Below X.heap.size X Y)
 (hg:Y.grownBy Z (Value.slice (h.at_ 0).A (h.at_ 0).n (h.at_ 0).c).ownBlock) (ho:Z.ownsRow w.heap.size 3 1 (.slice A k c') k (ints (madeL (spk 0 r) t v)))
 (hat:(Value.slice A k c').ownBlock=(Value.slice (h.at_ 0).A (h.at_ 0).n (h.at_ 0).c).ownBlock∨(Value.slice A k c').ownBlock=some Y.heap.size) :
 Blk Z B3 80 h.cs∧(∀ g u cs,Blk X g u cs→u≠3→u≠80→Blk (Z.setCell ⟨B3,0,none⟩ (.slice A k c')) g u cs)∧∃ h2,SpkI w m B3 (Z.setCell ⟨B3,0,none⟩ (.slice A k c')) (r++refsV t v) h2:=by
 by_cases hv:v=0
 ·have e1:refsV t v=[]:=by unfold refsV;rw[if_pos hv]
  have e2:madeL (spk 0 r) t v=spk 0 r:=by unfold madeL;rw[if_pos hv]
  rw[e1,List.append_nil]
  rw[e2] at ho
  exact c.step (by omega) (fun _ _ _=>rfl) ⟨[],by simp⟩ hb hg ho hat
 have e1:refsV t v=[(0,t)]:=by unfold refsV;rw[if_neg hv]
 have e2:madeL (spk 0 r) t v=addI (spk 0 r) t:=by unfold madeL;rw[if_neg hv]
 rw[e1]
 rw[e2] at ho
 exact c.first (by omega) hb hg ho hat
end
structure Askd (w:World) (m:HistM):Prop where
 mid:Mid m
 caps:CapsR m
 names:(m.tr.1.n≤m.tr.1.c)∧(m.se.1.n≤m.se.1.c)∧(m.ob.1.n≤m.ob.1.c)∧m.pr.1.n≤m.pr.1.c
 rd:HRd w w.heap.size m
theorem Askd.on {w X:World} {m:HistM} (a:Askd w m) (hb:Below w.heap.size w X):Askd X m:=⟨a.mid,a.caps,a.names,(a.rd.on hb).more hb.size⟩
theorem Askd.fair {w:World} {m:HistM} (a:Askd w m) (h:rightW m.pl=true):Fair m:=by
 unfold rightW at h
 rw[Bool.and_eq_true] at h
 exact a.rd.fair h.1 (right_shaped h.2)
def frX (H:Hist):Option (Nat × Nat):=if rightW H then ruFirst H else none
def plX (H:Hist) (r:Int):Option Nat:=if rightW H=true∧1≤r∧r≤10 then ruPlace H r.toNat else none
def plXE (H:Hist) (r:Int):Int:=if rightW H then (if 1≤r∧r≤10 then 0 else 250) else 210
def plNX (f:Option Nat):Int:=match f with
 | none=>0
 | some i=>i
def wrX (H:Hist) (x:Int):List Int:=if rightW H then ruWriters H x else []
structure RulesW (I:World→Prop):Prop where
 on:∀ {W X:World},I W→Below W.heap.size W X→I X
 first:∀ (m:HistM) (w:World),I w→Askd w m→Calls Tryz.prog 10 #[.agg #[.slice m.tr.1.A m.tr.1.n m.tr.1.c,.slice m.se.1.A m.se.1.n m.se.1.c,.slice m.ob.1.A m.ob.1.n m.ob.1.c,.slice m.pr.1.A m.pr.1.n m.pr.1.c,.slice m.ev.1.A m.ev.1.n m.ev.1.c,.slice m.od.1.A m.od.1.n m.od.1.c,.slice m.ma.1.A m.ma.1.n m.ma.1.c,.slice m.wa.1.A m.wa.1.n m.wa.1.c]] w fun e w'=>e=.returned (.tuple #[.agg #[.int .i64 (frR (frX m.pl)),.int .i64 (frP (frX m.pl))],.bool (frX m.pl).isSome,.int .i64 (checkW m.pl)])∧Below w.heap.size w w'
 place:∀ (m:HistM) (r:Int) (w:World),I w→Askd w m→Calls Tryz.prog 15 #[.agg #[.slice m.tr.1.A m.tr.1.n m.tr.1.c,.slice m.se.1.A m.se.1.n m.se.1.c,.slice m.ob.1.A m.ob.1.n m.ob.1.c,.slice m.pr.1.A m.pr.1.n m.pr.1.c,.slice m.ev.1.A m.ev.1.n m.ev.1.c,.slice m.od.1.A m.od.1.n m.od.1.c,.slice m.ma.1.A m.ma.1.n m.ma.1.c,.slice m.wa.1.A m.wa.1.n m.wa.1.c],.int .i64 r] w fun e w'=>e=.returned (.tuple #[.int .i64 (plNX (plX m.pl r)),.bool (plX m.pl r).isSome,.int .i64 (plXE m.pl r)])∧Below w.heap.size w w'
 sound:∀ (m:HistM) (w:World),I w→Askd w m→Calls Tryz.prog 11 #[.agg #[.slice m.tr.1.A m.tr.1.n m.tr.1.c,.slice m.se.1.A m.se.1.n m.se.1.c,.slice m.ob.1.A m.ob.1.n m.ob.1.c,.slice m.pr.1.A m.pr.1.n m.pr.1.c,.slice m.ev.1.A m.ev.1.n m.ev.1.c,.slice m.od.1.A m.od.1.n m.od.1.c,.slice m.ma.1.A m.ma.1.n m.ma.1.c,.slice m.wa.1.A m.wa.1.n m.wa.1.c]] w fun e w'=>e=.returned (.bool (okX m.pl))∧Below w.heap.size w w'
 writers:∀ (m:HistM) (x:Int) (w:World),I w→Askd w m→Calls Tryz.prog 17 #[.agg #[.slice m.tr.1.A m.tr.1.n m.tr.1.c,.slice m.se.1.A m.se.1.n m.se.1.c,.slice m.ob.1.A m.ob.1.n m.ob.1.c,.slice m.pr.1.A m.pr.1.n m.pr.1.c,.slice m.ev.1.A m.ev.1.n m.ev.1.c,.slice m.od.1.A m.od.1.n m.od.1.c,.slice m.ma.1.A m.ma.1.n m.ma.1.c,.slice m.wa.1.A m.wa.1.n m.wa.1.c],.int .i64 x] w fun e w'=>∃ (A:Option Addr) (n c:Nat),e=.returned (.tuple #[.slice A n c,.int .i64 (checkW m.pl)])∧n=(wrX m.pl x).length∧Reads w' w'.heap.size 1 A n (ints (wrX m.pl x))∧Below w.heap.size w w'
end Go.Proofs.YtmkknbonmameoaaGreatDoor
