import Derived.Test.YtmkknbonmameoaaGreatDoorQ5
import Derived.Lib.SliceRun
import Derived.Deep.Matrix
import Derived.Test.YtmkknbonmameoaaGreatDoorQ15
import Derived.Test.YtmkknbonmameoaaGreatDoorQ10
import Derived.Laws.StructEq
import Derived.Deep.LoopGhost
-- holds: YtmkknbonmameoaaGreatDoorHIp YtmkknbonmameoaaGreatDoorHIh YtmkknbonmameoaaGreatDoorHIu YtmkknbonmameoaaGreatDoorHJkb
namespace Go.Proofs.YtmkknbonmameoaaGreatDoor
open Go.RowKit Go.Shelf
theorem own_mono {w:World} {base base':Nat} {e:TypeId} {size:Nat} {v:Value} {n:Nat} {xs:List Value} (h:w.ownsRow base e size v n xs) (hb:base'≤base):w.ownsRow base' e size v n xs:=by
 refine⟨h.1,?_⟩
 rcases h.2 with h2 | ⟨g,cap,cur,h1,hg,rest⟩
 ·exact .inl h2
 exact .inr ⟨g,cap,cur,h1,Nat.le_trans hb hg,rest⟩
theorem own_block11 {w:World} {base:Nat} {e:TypeId} {v:Value} {n:Nat} {xs:List Value} (h:w.ownsRow base e 1 v n xs):∀ b,v.ownBlock=some b→base≤b:=by
 intro b hb
 rcases h.2 with ⟨rfl,_⟩ | ⟨g,cap,cur,rfl,hg,_⟩
 ·cases hb
 have e:some g=some b:=hb
 injection e with e
 omega
theorem own_on {w w':World} {base:Nat} {e:TypeId} {size:Nat} {v:Value} {n:Nat} {xs:List Value} (h:w.ownsRow base e size v n xs) (hb:Below w.heap.size w w'):w'.ownsRow base e size v n xs :=
 (Keep.of_all (fun _=>True) hb).own h fun _ _=>trivial
theorem strs_take (xs:List ByteArray) (k:Nat):(strs xs).take k=strs (xs.take k):=by unfold strs;rw[List.map_take]
theorem strs_one (ss:List ByteArray):∀ u∈strs ss,u.oneCell'=true:=by
 intro u hu
 unfold strs at hu
 obtain⟨s,_,rfl⟩:=List.mem_map.1 hu
 rfl
theorem strs_len {w:World} {B n:Nat} {A:Option Addr} {ss:List ByteArray} (h:Reads w B 1 A n (strs ss)):ss.length=n:=by
 have:=h.1;rw[strs_length] at this;omega
theorem str_at {w:World} {B n k:Nat} {A:Option Addr} {s:ByteArray} {ss:List ByteArray} (h:Reads w B 1 A n (strs ss)) (hs:ss[k]?=some s) :
 ∃ b o,A=some ⟨b,o,none⟩∧b<B∧w.cell? ⟨b,o+k,none⟩=some (.string s):=by
 have hk:=(List.getElem?_eq_some_iff.1 hs).1
 have hl:=strs_len h
 obtain⟨b,o,hA,hb,hc⟩:=reads_plain h (by omega)
 exact⟨b,o,hA,hb,hc k _ (by unfold strs;rw[List.getElem?_map,hs];rfl)⟩
theorem strs_get {w:World} {b o:Nat} {ss:List ByteArray} (hc:∀ j u,(strs ss)[j]?=some u→w.cell? ⟨b,o+j,none⟩=some u):∀ j,j<ss.length→w.cell? ⟨b,o+j,none⟩=some (.string (ss.getD j ByteArray.empty)):=by
 intro j hj
 refine hc j _ ?_
 unfold strs
 rw[List.getElem?_map,List.getElem?_eq_getElem hj,List.getD_eq_getElem?_getD,List.getElem?_eq_getElem hj]
 rfl
theorem strs_cut {w:World} {B n k:Nat} {A:Option Addr} {l:List ByteArray} (h:Reads w B 1 A n (strs l)) (hk:k≤n):Reads w B 1 A k (strs (l.take k)):=by
 have:=reads_take h hk
 rwa [Nat.mul_one,strs_take] at this
theorem str_lit (w:World) (ss:List ByteArray) (t:TypeId) (cs:Array Value) (h:cs=(strs ss).toArray):Reads (w.alloc (.cells cs t)) (w.alloc (.cells cs t)).heap.size 1 (some ⟨w.heap.size,0,none⟩) ss.length (strs ss):=by
 subst h
 exact⟨by rw[strs_length,Nat.mul_one],fun _=>⟨_,rfl,by simp,fun j u hu=>by
  rw[Go.WideShapes.add_plain,Nat.zero_add,(Blk.new w t (strs ss).toArray).cell,List.getElem?_toArray];exact hu⟩⟩
theorem own_at {w:World} {base n c k:Nat} {A:Option Addr} {t:TypeId} {xs:List Value} (h:w.ownsRow base t 1 (.slice A n c) n xs) (hk:k<n) :
 ∃ g,A=some ⟨g,0,none⟩∧base≤g∧g<w.heap.size∧w.frozen? ⟨g,k,none⟩=false∧(∃ u,xs[k]?=some u∧w.cell? ⟨g,k,none⟩=some u):=by
 have hl:=h.1
 rcases h.2 with ⟨_,e2⟩ | ⟨g,cap,cur,e1,hb,hk2,h3,h4,h5,h6⟩
 ·omega
 injection e1 with e1 e3 e4
 subst e1;subst e4
 have hkx:k<xs.length:=by omega
 refine⟨g,rfl,hb,(Array.getElem?_eq_some_iff.1 hk2).1,h.frozenAt k,xs[k],List.getElem?_eq_getElem hkx,?_⟩
 rw[cell_of_row w g k cur _ (0,0) hk2]
 have:xs[k]?=some xs[k]:=List.getElem?_eq_getElem hkx
 rw[← this,← h6,List.getElem?_take,if_pos (by omega),Array.getElem?_toList]
def CopyS (ss:List ByteArray) (w:World) (e:Ending) (w':World):Prop:=∃ (A:Option Addr) (n c:Nat),e=.returned (.slice A n c)∧w'.ownsRow w.heap.size 9 1 (.slice A n c) n (strs ss)∧Below w.heap.size w w'
theorem clones_any (A:Option Addr) (n c:Nat) (zs:List ByteArray) (hn:n * 16≤140737488355328) (w:World) (hR:Reads w w.heap.size 1 A n (strs zs)) :
 Calls Tryz.prog 45 #[.slice A n c] w (CopyS zs w):=by
 have hl:=strs_len hR
 rcases Nat.eq_zero_or_pos n with h | h
 ·subst h
  obtain rfl:zs=[]:=List.eq_nil_of_length_eq_zero hl
  cases A with
  | none =>
   refine (Tryz.slices_Clone_string_nil 0 c w).mono ?_
   rintro e w' ⟨rfl,rfl⟩
   exact⟨none,0,0,rfl,World.ownsRow_nil _ _ _ _,Below.refl _ _⟩
  | some ad =>
   refine (Tryz.slices_Clone_string_zero ad c w).mono ?_
   rintro e w' ⟨v',rfl,ho,_,hb⟩
   obtain⟨A',c',rfl,h1,h2⟩:=own_form2 ho
   exact⟨A',0,c',rfl,ho,hb⟩
 obtain⟨b,o,rfl,hb,hc⟩:=reads_plain hR h
 refine (Tryz.slices_Clone_string b o n c zs w (by omega) (by omega) (strs_get hc)).mono ?_
 rintro e w' ⟨v',rfl,ho,_,hb⟩
 rw[List.take_of_length_le (by omega)] at ho
 obtain⟨A',c',rfl,h1,h2⟩:=own_form2 ho
 exact⟨A',n,c',rfl,ho,hb⟩
theorem eqi11_any (A A2:Option Addr) (n m c d:Nat) (xs ys:List Int) (hn:n≤140737488355328) (hm:m≤140737488355328) (w:World) (hR:Reads w w.heap.size 1 A n (ints xs)) (hR2:Reads w w.heap.size 1 A2 m (ints ys)) :
 Calls Tryz.prog 19 #[.slice A n c,.slice A2 m d] w fun e w'=>e=.returned (.bool (decide (xs=ys)))∧Below w.heap.size w w':=by
 have hl:=ints_len hR
 have hl2:=ints_len hR2
 rcases Nat.eq_zero_or_pos n with h0 | h0
 ·subst h0
  refine (Tryz.slices_Equal_int_empty A A2 c m d w (by omega)).mono ?_
  rintro e w' ⟨rfl,rfl⟩
  refine⟨?_,Below.refl _ _⟩
  obtain rfl:xs=[]:=List.eq_nil_of_length_eq_zero hl
  cases ys with
  | nil=>simp at hl2;subst hl2;rfl
  | cons y ys => simp at hl2; have : ¬ m = 0 := by omega
                 simp[this]
 by_cases hnm:n=m
 ·subst hnm
  obtain⟨b,o,rfl,hb,hc⟩:=reads_plain hR h0
  obtain⟨b2,o2,rfl,hb2,hc2⟩:=reads_plain hR2 h0
  refine (Tryz.slices_Equal_int b o n c b2 o2 n d xs ys w (by omega) (by omega) (by omega) (by omega) (ints_get hc) (ints_get hc2)).mono ?_
  rintro e w' ⟨rfl,q,rfl⟩
  refine⟨?_,below_drewN (Below.refl _ _) _⟩
  rw[List.take_of_length_le (by omega),List.take_of_length_le (by omega)]
  have:(xs==ys)=decide (xs=ys):=by rw[Bool.eq_iff_iff];simp
  rw[this]
 refine (Tryz.slices_Equal_int_lens A A2 n c m d w hnm).mono ?_
 rintro e w' ⟨rfl,rfl⟩
 refine⟨?_,Below.refl _ _⟩
 have:¬xs=ys:=fun e=>hnm (by rw[← hl,← hl2,e])
 simp[this]
theorem elemS_size (W:World):(sizeOf (Tryz.prog.elem 22)).run Tryz.prog W=.ok 1 W:=by kernel_rfl
theorem sliceS_h (A:Option Addr) (len cap h:Nat) (hh:h≤cap) (W:World) :
 (Instr.slice 22 (.slice A len cap) none (some (.int .i64 (h:Int))) none).run Tryz.prog W=.ok (.slice A h cap) W:=by
 have e0:Value.slice (if cap=0 then A else A.map (·.add (0 * 1))) (h - 0) (cap - 0)=.slice A h cap:=by
  have:(if cap=0 then A else A.map (·.add (0 * 1)))=A:=by
   split
   ·rfl
   cases A<;>simp[Addr.add]
  rw[this,Nat.sub_zero,Nat.sub_zero]
 rw[run_slice_h W 22 A len cap (show Tryz.prog.underlying 22=some (.slice (Tryz.prog.elem 22)) by kernel_rfl) .i64 h (by omega) (by omega),elemS_size]
 exact congrArg (fun v=>Result.ok v W) e0
set_option maxHeartbeats 400000 in
theorem sclone_any (s:ByteArray) (hs:s.size≤100000) (w:World):Calls Tryz.prog 44 #[.string s] w fun e w'=>e=.returned (.string s)∧Below w.heap.size w w':=by
 have H:=zh (Tryz.stringslite_Clone s w (by omega))
 go_enter Tryz.func44,Tryz.ntmps44
 go_wp2_with fail
 refine H.out.mono ?_
 rintro e w1 ⟨rfl,b⟩
 go_wp2_with fail
 go_ret
 exact⟨rfl,b⟩
theorem ne_eqSeen {a b:SeenP} (h:a≠b):((a.o==b.o)=false)∨((a.o==b.o)=true∧(a.t==b.t)=false)∨((a.o==b.o)=true∧(a.t==b.t)=true∧(a.k==b.k)=false):=by
 by_cases h0:a.o≠b.o
 ·exact .inl (by simpa using h0)
 have h0:=Decidable.not_not.1 h0
 by_cases h1:a.t≠b.t
 ·exact .inr (.inl ⟨by simpa using h0,by simpa using h1⟩)
 have h1:=Decidable.not_not.1 h1
 by_cases h2:a.k≠b.k
 ·exact .inr (.inr (⟨by simpa using h0,by simpa using h1,by simpa using h2⟩))
 have h2:=Decidable.not_not.1 h2
 exact absurd (by cases a;cases b;simp_all) h
set_option maxRecDepth 100000 in
set_option maxHeartbeats 4000000 in
theorem eqSeen_any (A A2:Option Addr) (n m c c2:Nat) (xs ys:List SeenP) (hn:n≤140737488355328) (w:World) (hR:Reads w w.heap.size 3 A n (xs.flatMap seCs)) (hR2:Reads w w.heap.size 3 A2 m (ys.flatMap seCs)) :
 Calls Tryz.prog 166 #[.slice A n c,.slice A2 m c2] w fun e w'=>e=.returned (.bool (decide (xs=ys)))∧Below w.heap.size w w':=by
 have HR:=zh hR
 have HR2:=zh hR2
 have HL:=zh (reads_len_s seCs_len (by omega) hR)
 have HL2:=zh (reads_len_s seCs_len (by omega) hR2)
 clear hR hR2
 by_cases hnm:n=m
 ·subst hnm
  go_enter Tryz.func166,Tryz.ntmps166
  go_wp2_with fail
  go_loopg [13] n (fun gg i wr=>∃ k:Nat,k+gg=n∧i=.int .i64 k∧Hid (xs.take k=ys.take k)∧Hid (Below w.heap.size w wr))
  case atStart=>exact⟨0,by omega,rfl,by simp[Hid],Below.refl _ _⟩
  obtain⟨k,hk,rfl,ht,bk⟩:=hrel
  cases gk with
  | succ g2 =>
   have hlt:(k:Int)<(n:Int):=by omega
   obtain⟨p,hp⟩:∃ p,xs[k]?=some p:=⟨xs[k]'(by rw[HL.out];omega),List.getElem?_eq_getElem _⟩
   obtain⟨q,hq⟩:∃ q,ys[k]?=some q:=⟨ys[k]'(by rw[HL2.out];omega),List.getElem?_eq_getElem _⟩
   obtain⟨b,o,rfl,hb,hc⟩:=row_cells seCs_len (by omega) (HR.out.below bk.out) hp
   obtain⟨b2,o2,rfl,hb2,hc2⟩:=row_cells seCs_len (by omega) (HR2.out.below bk.out) hq
   have c0:wr.cell? ⟨b,o+k * 3,none⟩=some (.int .i64 p.o):=hc 0 _ rfl
   have d0:wr.cell? ⟨b2,o2+k * 3,none⟩=some (.int .i64 q.o):=hc2 0 _ rfl
   have c1:wr.cell? ⟨b,o+k * 3+1,none⟩=some (.int .i64 p.t):=hc 1 _ rfl
   have d1:wr.cell? ⟨b2,o2+k * 3+1,none⟩=some (.int .i64 q.t):=hc2 1 _ rfl
   have c2:wr.cell? ⟨b,o+k * 3+2,none⟩=some (.int .i64 p.k):=hc 2 _ rfl
   have d2:wr.cell? ⟨b2,o2+k * 3+2,none⟩=some (.int .i64 q.k):=hc2 2 _ rfl
   have HK:=zh hk
   clear hc hc2
   by_cases hpq:p=q
   ·subst hpq
    have HT:Hid (xs.take (k+1)=ys.take (k+1)):=by
     show _=_
     rw[List.take_add_one,List.take_add_one,ht.out,hp,hq]
    clear hp hq hk
    go_wp2_with fail
    go_quiet (fail)
    go_wp2_with fail
    go_roundg g2
    case measure=>omega
    case rel=>exact⟨k+1,by have:=HK.out;omega,by go_num,HT,below_drewN bk.out _⟩
   have HD:Hid (decide (xs=ys)=false):=by
    show _=_
    rw[decide_eq_false_iff_not]
    rintro rfl
    rw[hp] at hq
    injection hq with hq
    exact hpq hq
   have hc:=ne_eqSeen hpq
   clear hp hq hk hpq
   rcases hc with e0 | ⟨e0,e1⟩ | ⟨e0,e1,e2⟩
   all_goals
    go_wp2_with fail
    go_quiet (fail)
    go_wp2_with fail
    go_ret
    exact⟨by rw[HD.out];rfl,below_drewN bk.out _⟩
  | zero =>
   have hge:¬(k:Int)<(n:Int):=by omega
   have HD:Hid (decide (xs=ys)=true):=by
    show _=_
    rw[decide_eq_true_eq]
    have:=ht.out
    rwa [List.take_of_length_le (by rw[HL.out];omega),List.take_of_length_le (by rw[HL2.out];omega)] at this
   have HK:=zh hk
   clear hk
   go_wp2_with fail
   go_ret
   exact⟨by rw[HD.out];rfl,bk.out⟩
 have hb:((n:Int) != (m:Int))=true:=by simp;omega
 have HD:Hid (decide (xs=ys)=false):=by
  show _=_
  rw[decide_eq_false_iff_not]
  rintro rfl
  exact hnm (HL.out.symm.trans HL2.out)
 clear hnm
 go_enter Tryz.func166,Tryz.ntmps166
 go_wp2_with fail
 go_ret
 exact⟨by rw[HD.out];rfl,Below.refl _ _⟩
set_option maxRecDepth 100000 in
set_option maxHeartbeats 8000000 in
theorem sameEvent_any (p q:EvP × SH) (hp:p.2.n≤140737488355328) (hq:q.2.n≤140737488355328) (w:World) (hR:Reads w w.heap.size 3 p.2.A p.2.n (p.1.scan.flatMap seCs)) (hR2:Reads w w.heap.size 3 q.2.A q.2.n (q.1.scan.flatMap seCs)) :
 Calls Tryz.prog 128 #[.agg #[.int .i64 p.1.kd,.int .i64 p.1.t,.int .i64 p.1.s,.int .i64 p.1.lev,.int .i64 p.1.o,.int .i64 p.1.vt,.int .i64 p.1.vk,.int .i64 p.1.p,.slice p.2.A p.2.n p.2.c],.agg #[.int .i64 q.1.kd,.int .i64 q.1.t,.int .i64 q.1.s,.int .i64 q.1.lev,.int .i64 q.1.o,.int .i64 q.1.vt,.int .i64 q.1.vk,.int .i64 q.1.p,.slice q.2.A q.2.n q.2.c]] w fun e w'=>e=.returned (.bool (decide (p.1=q.1)))∧Below w.heap.size w w':=by
 have B2:Hid (Below w.heap.size w ((w.alloc (.cells #[.int .i64 p.1.kd,.int .i64 p.1.t,.int .i64 p.1.s,.int .i64 p.1.lev,.int .i64 p.1.o,.int .i64 p.1.vt,.int .i64 p.1.vk,.int .i64 p.1.p,.slice p.2.A p.2.n p.2.c] 60)).alloc (.cells #[.int .i64 q.1.kd,.int .i64 q.1.t,.int .i64 q.1.s,.int .i64 q.1.lev,.int .i64 q.1.o,.int .i64 q.1.vt,.int .i64 q.1.vk,.int .i64 q.1.p,.slice q.2.A q.2.n q.2.c] 60))):=((Below.refl _ w).alloc (Nat.le_refl _) _).alloc (by simp) _
 have HC:=zh (eqSeen_any p.2.A q.2.A p.2.n q.2.n p.2.c q.2.c p.1.scan q.1.scan hp _ ((hR.below B2.out).more B2.out.size) ((hR2.below B2.out).more B2.out.size))
 clear hR hR2
 by_cases h0:p.1.kd≠q.1.kd
 ·have HD:Hid (decide (p.1=q.1)=false):=decide_eq_false fun e=>h0 (by rw[e])
  have e0:(p.1.kd==q.1.kd)=false:=by simpa using h0
  clear HC h0
  go_enter Tryz.func128,Tryz.ntmps128
  go_wp2_with fail
  go_ret
  exact⟨by rw[HD.out];rfl,B2.out⟩
 have h0:=Decidable.not_not.1 h0
 by_cases h1:p.1.t≠q.1.t
 ·have HD:Hid (decide (p.1=q.1)=false):=decide_eq_false fun e=>h1 (by rw[e])
  have e0:(p.1.kd==q.1.kd)=true:=by rw[h0];simp
  have e1:(p.1.t==q.1.t)=false:=by simpa using h1
  clear HC h0 h1
  go_enter Tryz.func128,Tryz.ntmps128
  go_wp2_with fail
  go_ret
  exact⟨by rw[HD.out];rfl,B2.out⟩
 have h1:=Decidable.not_not.1 h1
 by_cases h2:p.1.s≠q.1.s
 ·have HD:Hid (decide (p.1=q.1)=false):=decide_eq_false fun e=>h2 (by rw[e])
  have e0:(p.1.kd==q.1.kd)=true:=by rw[h0];simp
  have e1:(p.1.t==q.1.t)=true:=by rw[h1];simp
  have e2:(p.1.s==q.1.s)=false:=by simpa using h2
  clear HC h0 h1 h2
  go_enter Tryz.func128,Tryz.ntmps128
  go_wp2_with fail
  go_ret
  exact⟨by rw[HD.out];rfl,B2.out⟩
 have h2:=Decidable.not_not.1 h2
 by_cases h3:p.1.lev≠q.1.lev
 ·have HD:Hid (decide (p.1=q.1)=false):=decide_eq_false fun e=>h3 (by rw[e])
  have e0:(p.1.kd==q.1.kd)=true:=by rw[h0];simp
  have e1:(p.1.t==q.1.t)=true:=by rw[h1];simp
  have e2:(p.1.s==q.1.s)=true:=by rw[h2];simp
  have e3:(p.1.lev==q.1.lev)=false:=by simpa using h3
  clear HC h0 h1 h2 h3
  go_enter Tryz.func128,Tryz.ntmps128
  go_wp2_with fail
  go_ret
  exact⟨by rw[HD.out];rfl,B2.out⟩
 have h3:=Decidable.not_not.1 h3
 by_cases h4:p.1.o≠q.1.o
 ·have HD:Hid (decide (p.1=q.1)=false):=decide_eq_false fun e=>h4 (by rw[e])
  have e0:(p.1.kd==q.1.kd)=true:=by rw[h0];simp
  have e1:(p.1.t==q.1.t)=true:=by rw[h1];simp
  have e2:(p.1.s==q.1.s)=true:=by rw[h2];simp
  have e3:(p.1.lev==q.1.lev)=true:=by rw[h3];simp
  have e4:(p.1.o==q.1.o)=false:=by simpa using h4
  clear HC h0 h1 h2 h3 h4
  go_enter Tryz.func128,Tryz.ntmps128
  go_wp2_with fail
  go_ret
  exact⟨by rw[HD.out];rfl,B2.out⟩
 have h4:=Decidable.not_not.1 h4
 by_cases h5:p.1.vt≠q.1.vt
 ·have HD:Hid (decide (p.1=q.1)=false):=decide_eq_false fun e=>h5 (by rw[e])
  have e0:(p.1.kd==q.1.kd)=true:=by rw[h0];simp
  have e1:(p.1.t==q.1.t)=true:=by rw[h1];simp
  have e2:(p.1.s==q.1.s)=true:=by rw[h2];simp
  have e3:(p.1.lev==q.1.lev)=true:=by rw[h3];simp
  have e4:(p.1.o==q.1.o)=true:=by rw[h4];simp
  have e5:(p.1.vt==q.1.vt)=false:=by simpa using h5
  clear HC h0 h1 h2 h3 h4 h5
  go_enter Tryz.func128,Tryz.ntmps128
  go_wp2_with fail
  go_ret
  exact⟨by rw[HD.out];rfl,B2.out⟩
 have h5:=Decidable.not_not.1 h5
 by_cases h6:p.1.vk≠q.1.vk
 ·have HD:Hid (decide (p.1=q.1)=false):=decide_eq_false fun e=>h6 (by rw[e])
  have e0:(p.1.kd==q.1.kd)=true:=by rw[h0];simp
  have e1:(p.1.t==q.1.t)=true:=by rw[h1];simp
  have e2:(p.1.s==q.1.s)=true:=by rw[h2];simp
  have e3:(p.1.lev==q.1.lev)=true:=by rw[h3];simp
  have e4:(p.1.o==q.1.o)=true:=by rw[h4];simp
  have e5:(p.1.vt==q.1.vt)=true:=by rw[h5];simp
  have e6:(p.1.vk==q.1.vk)=false:=by simpa using h6
  clear HC h0 h1 h2 h3 h4 h5 h6
  go_enter Tryz.func128,Tryz.ntmps128
  go_wp2_with fail
  go_ret
  exact⟨by rw[HD.out];rfl,B2.out⟩
 have h6:=Decidable.not_not.1 h6
 by_cases h7:p.1.p≠q.1.p
 ·have HD:Hid (decide (p.1=q.1)=false):=decide_eq_false fun e=>h7 (by rw[e])
  have e0:(p.1.kd==q.1.kd)=true:=by rw[h0];simp
  have e1:(p.1.t==q.1.t)=true:=by rw[h1];simp
  have e2:(p.1.s==q.1.s)=true:=by rw[h2];simp
  have e3:(p.1.lev==q.1.lev)=true:=by rw[h3];simp
  have e4:(p.1.o==q.1.o)=true:=by rw[h4];simp
  have e5:(p.1.vt==q.1.vt)=true:=by rw[h5];simp
  have e6:(p.1.vk==q.1.vk)=true:=by rw[h6];simp
  have e7:(p.1.p==q.1.p)=false:=by simpa using h7
  clear HC h0 h1 h2 h3 h4 h5 h6 h7
  go_enter Tryz.func128,Tryz.ntmps128
  go_wp2_with fail
  go_ret
  exact⟨by rw[HD.out];rfl,B2.out⟩
 have h7:=Decidable.not_not.1 h7
 have e0:(p.1.kd==q.1.kd)=true:=by rw[h0];simp
 have e1:(p.1.t==q.1.t)=true:=by rw[h1];simp
 have e2:(p.1.s==q.1.s)=true:=by rw[h2];simp
 have e3:(p.1.lev==q.1.lev)=true:=by rw[h3];simp
 have e4:(p.1.o==q.1.o)=true:=by rw[h4];simp
 have e5:(p.1.vt==q.1.vt)=true:=by rw[h5];simp
 have e6:(p.1.vk==q.1.vk)=true:=by rw[h6];simp
 have e7:(p.1.p==q.1.p)=true:=by rw[h7];simp
 have HD:Hid (decide (p.1=q.1)=decide (p.1.scan=q.1.scan)):=by show _=_;rw[decide_eq_decide];exact⟨fun e=>by rw[e],fun e=>by cases p with | mk a x=>cases q with | mk b y=>cases a;cases b;simp_all⟩
 clear h0 h1 h2 h3 h4 h5 h6 h7
 go_enter Tryz.func128,Tryz.ntmps128
 go_wp2_with fail
 refine HC.out.mono ?_
 rintro e w1 ⟨rfl,b1⟩
 rw[← HD.out] at *
 have B3:=zh (B2.out.trans (b1.mono B2.out.size))
 clear b1 HC
 go_wp2_with fail
 go_ret
 exact⟨rfl,B3.out⟩
def KeepT (t:TypeId) (X Y:World):Prop:=Keep (fun j=>∀ cs,¬Blk X j t cs) X Y
section
variable {t u e : TypeId} {W X Y Z : World} {g B n s : Nat} {cs : Array Value} {v v' : Value} {xs : List Value}
theorem KeepT.of_below (h:Below X.heap.size X Y):KeepT t X Y:=Keep.of_all _ h
theorem KeepT.blk (h:KeepT t X Y) (hb:Blk X g u cs) (hne:u≠t):Blk Y g u cs:=Keep.blk h hb fun _ hd=>Blk.ne_ hb hd hne rfl
theorem KeepT.own (h:KeepT t X Y) (ho:X.ownsRow B e s v n xs) (hne:e≠t):Y.ownsRow B e s v n xs:=Keep.own h ho fun g hg _ hd=>by
 obtain⟨_,_,cur,hb⟩:=own_in ho hg
 exact Blk.ne_ hb hd hne rfl
theorem KeepT.set (hb:Blk X g t cs) (i:Nat) (c:Value):KeepT t X (X.setCell ⟨g,i,none⟩ c):=(Keep.refl _ X).set (.inr fun h=>h cs hb) i c
theorem KeepT.grown (ho:X.ownsRow B t s v n xs) (hg:X.grownBy Y v.ownBlock):KeepT t X Y:=(Keep.refl _ X).grown hg fun g hg=>.inr fun h=>by
 obtain⟨_,_,cur,hb⟩:=own_in ho hg
 exact h cur hb
theorem own_in_block (h:X.ownsRow B e s v n xs) (hg:v.ownBlock=some g):B≤g∧g<X.heap.size:=⟨(own_in h hg).1,(own_in h hg).2.1⟩
end
structure RG (t:TypeId) (s B:Nat) (X:World) (ps:List (List Value × SH)):Prop where
 own:∀ (i:Nat) (p:List Value × SH),ps[i]?=some p→X.ownsRow B t s (.slice p.2.A p.2.n p.2.c) p.2.n p.1
 nd:∀ (i j:Nat) (p q:List Value × SH),ps[i]?=some p→ps[j]?=some q→i≠j→∀ g,(Value.slice p.2.A p.2.n p.2.c).ownBlock=some g→(Value.slice q.2.A q.2.n q.2.c).ownBlock≠some g
section
variable {t u : TypeId} {s B C i j : Nat} {X Y : World} {ps : List (List Value × SH)} {xs : List Value} {hd hd' : SH}
theorem RG.nil:RG t s B X []:=⟨fun _ _ h=>by simp at h,fun _ _ _ _ h=>by simp at h⟩
theorem RG.on (h:RG t s B X ps) (hb:Below X.heap.size X Y):RG t s B Y ps:=⟨fun i p hp=>own_on (h.own i p hp) hb,h.nd⟩
theorem RG.keepT (h:RG t s B X ps) (hk:KeepT u X Y) (hne:t≠u):RG t s B Y ps:=⟨fun i p hp=>hk.own (h.own i p hp) hne,h.nd⟩
theorem RG.mono (h:RG t s B X ps) (hC:C≤B):RG t s C X ps:=⟨fun i p hp=>own_mono (h.own i p hp) hC,h.nd⟩
theorem RG.add (h:RG t s B X ps) (hb:Below X.heap.size X Y) (hB:B≤X.heap.size) (ho:Y.ownsRow X.heap.size t s (.slice hd.A hd.n hd.c) hd.n xs):RG t s B Y (ps++[(xs,hd)]):=by
 have old:∀ {i:Nat} {p:List Value × SH},ps[i]?=some p→∀ g,(Value.slice p.2.A p.2.n p.2.c).ownBlock=some g→g<X.heap.size:=fun hp g hg=>(own_in_block (h.own _ _ hp) hg).2
 have new:∀ g,(Value.slice hd.A hd.n hd.c).ownBlock=some g→X.heap.size≤g:=fun g hg=>(own_in_block ho hg).1
 have at_:∀ {i:Nat} {p:List Value × SH},(ps++[(xs,hd)])[i]?=some p→(ps[i]?=some p)∨(i=ps.length∧p=(xs,hd)):=by
  intro i p hp
  rcases Nat.lt_or_ge i ps.length with h1 | h1
  ·rw[List.getElem?_append_left h1] at hp;exact .inl hp
  rw[List.getElem?_append_right h1] at hp
  have h2:i - ps.length=0:=by
   have:=(List.getElem?_eq_some_iff.1 hp).1
   simp at this
   omega
  rw[h2] at hp
  simp at hp
  exact .inr ⟨by omega,hp.symm⟩
 constructor
 ·intro i p hp
  rcases at_ hp with hp | ⟨_,rfl⟩
  ·exact own_on (h.own i p hp) hb
  exact own_mono ho hB
 intro i j p q hp hq hij g hg hg2
 rcases at_ hp with hp | ⟨e1,rfl⟩
 ·rcases at_ hq with hq | ⟨e2,rfl⟩
  ·exact h.nd i j p q hp hq hij g hg hg2
  have:=old hp g hg
  have:=new g hg2
  omega
 rcases at_ hq with hq | ⟨e2,rfl⟩
 ·have:=old hq g hg2
  have:=new g hg
  omega
 omega
theorem RG.grow (h:RG t s B X ps) (hi:ps[i]?=some (xs,hd)) {us:List Value} {m:Nat} {A':Option Addr} {c':Nat} (ho:Y.ownsRow B t s (.slice A' m c') m (xs++us)) (hg:X.grownBy Y (Value.slice hd.A hd.n hd.c).ownBlock)
 (hat:(Value.slice A' m c').ownBlock=(Value.slice hd.A hd.n hd.c).ownBlock∨(Value.slice A' m c').ownBlock=some X.heap.size):RG t s B Y (ps.set i (xs++us,⟨A',m,c'⟩)):=by
 have hlt:=(List.getElem?_eq_some_iff.1 hi).1
 have at_:∀ {k:Nat} {p:List Value × SH},(ps.set i (xs++us,(⟨A',m,c'⟩:SH)))[k]?=some p→(k=i∧p=(xs++us,⟨A',m,c'⟩))∨(k≠i∧ps[k]?=some p):=by
  intro k p hp
  by_cases e:i=k
  ·subst e
   rw[List.getElem?_set_self hlt] at hp
   injection hp with hp
   exact .inl ⟨rfl,hp.symm⟩
  rw[List.getElem?_set_ne e] at hp
  exact .inr ⟨fun e2=>e e2.symm,hp⟩
 have other:∀ {k:Nat} {p:List Value × SH},k≠i→ps[k]?=some p→∀ g,(Value.slice p.2.A p.2.n p.2.c).ownBlock=some g→(Value.slice A' m c').ownBlock≠some g:=by
  intro k p hk hp g hg e
  rcases hat with hat | hat
  ·rw[hat] at e
   exact h.nd k i p (xs,hd) hp hi hk g hg e
  rw[hat] at e
  injection e with e
  have:=(own_in_block (h.own k p hp) hg).2
  omega
 constructor
 ·intro k p hp
  rcases at_ hp with ⟨_,rfl⟩ | ⟨hk,hp⟩
  ·exact ho
  exact ((Keep.refl (fun j=>(Value.slice hd.A hd.n hd.c).ownBlock≠some j) X).grown hg fun g hg=>.inr fun h=>h hg).own (h.own k p hp) fun g hg2 e=>h.nd k i p (xs,hd) hp hi hk g hg2 e
 intro k l p q hp hq hkl g hg hg2
 rcases at_ hp with ⟨e1,rfl⟩ | ⟨e1,hp⟩
 ·rcases at_ hq with ⟨e2,rfl⟩ | ⟨e2,hq⟩
  ·omega
  exact other e2 hq g hg2 hg
 rcases at_ hq with ⟨e2,rfl⟩ | ⟨e2,hq⟩
 ·exact other e1 hp g hg hg2
 exact h.nd k l p q hp hq hkl g hg hg2
theorem RG.store (h:RG t s B X ps) {g c:Nat} {n:Nat} (hi:ps[i]?=some (xs,⟨some ⟨g,0,none⟩,n,c⟩)) (j:Nat) (w:Value):RG t s B (X.setCell ⟨g,j,none⟩ w) (ps.set i (xs.set j w,⟨some ⟨g,0,none⟩,n,c⟩)):=by
 have hlt:=(List.getElem?_eq_some_iff.1 hi).1
 have ho:=h.own i _ hi
 have at_:∀ {k:Nat} {p:List Value × SH},(ps.set i (xs.set j w,(⟨some ⟨g,0,none⟩,n,c⟩:SH)))[k]?=some p→(k=i∧p=(xs.set j w,⟨some ⟨g,0,none⟩,n,c⟩))∨(k≠i∧ps[k]?=some p):=by
  intro k p hp
  by_cases e:i=k
  ·subst e
   rw[List.getElem?_set_self hlt] at hp
   injection hp with hp
   exact .inl ⟨rfl,hp.symm⟩
  rw[List.getElem?_set_ne e] at hp
  exact .inr ⟨fun e2=>e e2.symm,hp⟩
 constructor
 ·intro k p hp
  rcases at_ hp with ⟨_,rfl⟩ | ⟨hk,hp⟩
  ·exact (ho.stored j w).1
  exact ((Keep.refl (fun j=>j≠g) X).set (.inr fun h=>h rfl) j w).own (h.own k p hp) fun g2 hg2 e=>h.nd k i p _ hp hi hk g2 hg2 (by subst e;rfl)
 intro k l p q hp hq hkl g2 hg hg2
 rcases at_ hp with ⟨e1,rfl⟩ | ⟨e1,hp⟩
 ·rcases at_ hq with ⟨e2,rfl⟩ | ⟨e2,hq⟩
  ·omega
  exact h.nd l i q _ hq hi e2 g2 hg2 hg
 rcases at_ hq with ⟨e2,rfl⟩ | ⟨e2,hq⟩
 ·exact h.nd k i p _ hp hi e1 g2 hg hg2
 exact h.nd k l p q hp hq hkl g2 hg hg2
end
structure HOwn (B:Nat) (X:World) (m:HistM):Prop where
 nm:RG 9 1 B X [(strs m.tr.2,m.tr.1),(strs m.se.2,m.se.1),(strs m.ob.2,m.ob.1),(strs m.pr.2,m.pr.1)]
 ev:X.ownsRow B 60 9 (.slice m.ev.1.A m.ev.1.n m.ev.1.c) m.ev.1.n (m.ev.2.flatMap evCs)
 od:X.ownsRow B 66 2 (.slice m.od.1.A m.od.1.n m.od.1.c) m.od.1.n (m.od.2.flatMap odCs)
 ma:X.ownsRow B 69 4 (.slice m.ma.1.A m.ma.1.n m.ma.1.c) m.ma.1.n (m.ma.2.flatMap maCs)
 wa:X.ownsRow B 72 2 (.slice m.wa.1.A m.wa.1.n m.wa.1.c) m.wa.1.n (m.wa.2.flatMap waCs)
 sc:RG 64 3 B X (m.ev.2.map fun p=>(p.1.scan.flatMap seCs,p.2))
 it:RG 3 1 B X ((m.od.2.map fun p=>(ints p.1.ts,p.2))++m.ma.2.map fun p=>(ints p.1.ts,p.2))
section
variable {B C : Nat} {X Y : World} {m : HistM} {u : TypeId}
theorem RG.at_mem {t:TypeId} {s:Nat} {ps:List (List Value × SH)} (h:RG t s B X ps) {p:List Value × SH} (hp:p∈ps):X.ownsRow B t s (.slice p.2.A p.2.n p.2.c) p.2.n p.1:=by
 obtain⟨i,hi⟩:=List.mem_iff_getElem?.1 hp
 exact h.own i p hi
theorem HOwn.rd (h:HOwn B X m):HRd X X.heap.size m where
 tr:=Reads.of_own (h.nm.own 0 _ rfl)
 se:=Reads.of_own (h.nm.own 1 _ rfl)
 ob:=Reads.of_own (h.nm.own 2 _ rfl)
 pr:=Reads.of_own (h.nm.own 3 _ rfl)
 ev:=Reads.of_own h.ev
 od:=Reads.of_own h.od
 ma:=Reads.of_own h.ma
 wa:=Reads.of_own h.wa
 sc:=fun p hp=>Reads.of_own (h.sc.at_mem (List.mem_map.2 ⟨p,hp,rfl⟩))
 ot:=fun p hp=>Reads.of_own (h.it.at_mem (List.mem_append_left _ (List.mem_map.2 ⟨p,hp,rfl⟩)))
 mt:=fun p hp=>Reads.of_own (h.it.at_mem (List.mem_append_right _ (List.mem_map.2 ⟨p,hp,rfl⟩)))
theorem HOwn.on (h:HOwn B X m) (hb:Below X.heap.size X Y):HOwn B Y m:=⟨h.nm.on hb,own_on h.ev hb,own_on h.od hb,own_on h.ma hb,own_on h.wa hb,h.sc.on hb,h.it.on hb⟩
theorem HOwn.mono (h:HOwn B X m) (hC:C≤B):HOwn C X m:=⟨h.nm.mono hC,own_mono h.ev hC,own_mono h.od hC,own_mono h.ma hC,own_mono h.wa hC,h.sc.mono hC,h.it.mono hC⟩
theorem HOwn.keepT (h:HOwn B X m) (hk:KeepT u X Y) (h1:9≠u) (h2:60≠u) (h3:66≠u) (h4:69≠u) (h5:72≠u) (h6:64≠u) (h7:3≠u):HOwn B Y m :=
 ⟨h.nm.keepT hk h1,hk.own h.ev h2,hk.own h.od h3,hk.own h.ma h4,hk.own h.wa h5,h.sc.keepT hk h6,h.it.keepT hk h7⟩
end
theorem fill8 {X:World} {g:Nat} {t:TypeId} {c0 c1 c2 c3 c4 c5 c6 c7:Value} (hb:Blk X g t #[c0,c1,c2,c3,c4,c5,c6,c7]) (v0 v1 v2 v3 v4 v5 v6 v7:Value) :
 Blk ((((((((X.setCell ⟨g,0,none⟩ v0).setCell ⟨g,1,none⟩ v1).setCell ⟨g,2,none⟩ v2).setCell ⟨g,3,none⟩ v3).setCell ⟨g,4,none⟩ v4).setCell ⟨g,5,none⟩ v5).setCell ⟨g,6,none⟩ v6).setCell ⟨g,7,none⟩ v7) g t #[v0,v1,v2,v3,v4,v5,v6,v7]∧(∀ S:Nat→Prop,¬S g→Keep S X ((((((((X.setCell ⟨g,0,none⟩ v0).setCell ⟨g,1,none⟩ v1).setCell ⟨g,2,none⟩ v2).setCell ⟨g,3,none⟩ v3).setCell ⟨g,4,none⟩ v4).setCell ⟨g,5,none⟩ v5).setCell ⟨g,6,none⟩ v6).setCell ⟨g,7,none⟩ v7))∧∀ w:World,Below w.heap.size w X→w.heap.size≤g→Below w.heap.size w ((((((((X.setCell ⟨g,0,none⟩ v0).setCell ⟨g,1,none⟩ v1).setCell ⟨g,2,none⟩ v2).setCell ⟨g,3,none⟩ v3).setCell ⟨g,4,none⟩ v4).setCell ⟨g,5,none⟩ v5).setCell ⟨g,6,none⟩ v6).setCell ⟨g,7,none⟩ v7):=by
 refine⟨?_,fun S hS=>(((((((((Keep.refl S X).set (.inr hS) 0 v0).set (.inr hS) 1 v1).set (.inr hS) 2 v2).set (.inr hS) 3 v3).set (.inr hS) 4 v4).set (.inr hS) 5 v5).set (.inr hS) 6 v6).set (.inr hS) 7 v7),fun w hB hg=>((((((((((((((((hB).setCell (p:=⟨g,0,none⟩) hg v0)).setCell (p:=⟨g,1,none⟩) hg v1)).setCell (p:=⟨g,2,none⟩) hg v2)).setCell (p:=⟨g,3,none⟩) hg v3)).setCell (p:=⟨g,4,none⟩) hg v4)).setCell (p:=⟨g,5,none⟩) hg v5)).setCell (p:=⟨g,6,none⟩) hg v6)).setCell (p:=⟨g,7,none⟩) hg v7)⟩
 have:=((((((((hb.set_ 0 v0).set_ 1 v1).set_ 2 v2).set_ 3 v3).set_ 4 v4).set_ 5 v5).set_ 6 v6).set_ 7 v7)
 simpa using this
theorem cf8 {X:World} {g:Nat} {t:TypeId} {c0 c1 c2 c3 c4 c5 c6 c7:Value} (h:Blk X g t #[c0,c1,c2,c3,c4,c5,c6,c7]) :
 (X.cell? ⟨g,0,none⟩=some c0∧X.cell? ⟨g,1,none⟩=some c1∧X.cell? ⟨g,2,none⟩=some c2∧X.cell? ⟨g,3,none⟩=some c3∧X.cell? ⟨g,4,none⟩=some c4∧X.cell? ⟨g,5,none⟩=some c5∧X.cell? ⟨g,6,none⟩=some c6∧X.cell? ⟨g,7,none⟩=some c7) ∧
 X.frozen? ⟨g,0,none⟩=false∧X.frozen? ⟨g,1,none⟩=false∧X.frozen? ⟨g,2,none⟩=false∧X.frozen? ⟨g,3,none⟩=false∧X.frozen? ⟨g,4,none⟩=false∧X.frozen? ⟨g,5,none⟩=false∧X.frozen? ⟨g,6,none⟩=false∧X.frozen? ⟨g,7,none⟩=false :=
 ⟨⟨h.cell 0,h.cell 1,h.cell 2,h.cell 3,h.cell 4,h.cell 5,h.cell 6,h.cell 7⟩,h.frozen 0,h.frozen 1,h.frozen 2,h.frozen 3,h.frozen 4,h.frozen 5,h.frozen 6,h.frozen 7⟩
end Go.Proofs.YtmkknbonmameoaaGreatDoor
