import Derived.Test.YtmkknbonmameoaaGreatDoorQ6
import Derived.Test.YtmkknbonmameoaaGreatDoorWords
-- holds: YtmkknbonmameoaaGreatDoorHWe
namespace Go.Proofs.YtmkknbonmameoaaGreatDoor
open Go.RowKit
theorem below_drewN {B:Nat} {a w:World} (h:Below B a w) (n:Nat):Below B a (w.drewN n):=⟨h.os,h.tape,h.output,h.size,h.block⟩
theorem own_form2 {w:World} {base:Nat} {e:TypeId} {size:Nat} {v:Value} {n:Nat} {xs:List Value} (h:w.ownsRow base e size v n xs):∃ A c,v=.slice A n c∧n≤c∧c≤9223372036854775807:=by
 rcases h.2 with ⟨rfl,rfl⟩ | ⟨g,cap,cur,rfl,_,_,hnc,hcm,_⟩
 ·exact⟨_,_,rfl,Nat.le_refl _,by decide⟩
 exact⟨_,_,rfl,hnc,by unfold maxLen at hcm;omega⟩
def ints (zs:List Int):List Value:=zs.map (Value.int .i64)
theorem ints_length (zs:List Int):(ints zs).length=zs.length:=by unfold ints;simp
def strs (ss:List ByteArray):List Value:=ss.map Value.string
theorem strs_length (ss:List ByteArray):(strs ss).length=ss.length:=by unfold strs;simp
theorem reads_plain {w:World} {B n:Nat} {A:Option Addr} {xs:List Value} (h:Reads w B 1 A n xs) (hn:0<n):∃ b off,A=some ⟨b,off,none⟩∧b<B∧∀ j u,xs[j]?=some u→w.cell? ⟨b,off+j,none⟩=some u:=by
 obtain⟨ad,hA,hb,hc⟩:=h.2 hn
 have hl:0<xs.length:=by have:=h.1;omega
 have h0:=hc 0 xs[0] (List.getElem?_eq_getElem hl)
 obtain⟨b,off,spot⟩:=ad
 have hspot:spot=none:=by simpa [Addr.add] using World.cell?_spot h0
 subst hspot
 exact⟨b,off,hA,hb,fun j u hu=>by rw[← Go.WideShapes.add_plain];exact hc j u hu⟩
theorem int_at {w:World} {B n k:Nat} {A:Option Addr} {v:Int} {vs:List Int} (h:Reads w B 1 A n (ints vs)) (hv:vs[k]?=some v) :
 ∃ b o,A=some ⟨b,o,none⟩∧b<B∧w.cell? ⟨b,o+k,none⟩=some (.int .i64 v):=by
 have hk:=(List.getElem?_eq_some_iff.1 hv).1
 have hl:=h.1
 rw[ints_length] at hl
 obtain⟨b,o,hA,hb,hc⟩:=reads_plain h (by omega)
 exact⟨b,o,hA,hb,hc k _ (by unfold ints;rw[List.getElem?_map,hv];rfl)⟩
theorem ints_len {w:World} {B n:Nat} {A:Option Addr} {vs:List Int} (h:Reads w B 1 A n (ints vs)):vs.length=n:=by
 have:=h.1;rw[ints_length] at this;omega
theorem reads_take {w:World} {B size n k:Nat} {A:Option Addr} {xs:List Value} (h:Reads w B size A n xs) (hk:k≤n):Reads w B size A k (xs.take (k * size)) :=
 ⟨by rw[List.length_take,h.1];exact Nat.min_eq_left (Nat.mul_le_mul_right _ hk),fun hn=>by
  obtain⟨ad,hA,hb,hc⟩:=h.2 (by omega)
  exact⟨ad,hA,hb,fun j u hu=>hc j u (by
   rw[List.getElem?_take] at hu
   split at hu
   ·exact hu
   ·cases hu)⟩⟩
theorem ints_get {w:World} {b o:Nat} {vs:List Int} (hc:∀ j u,(ints vs)[j]?=some u→w.cell? ⟨b,o+j,none⟩=some u):∀ j,j<vs.length→w.cell? ⟨b,o+j,none⟩=some (.int .i64 (vs.getD j 0)):=by
 intro j hj
 refine hc j _ ?_
 unfold ints
 rw[List.getElem?_map,List.getElem?_eq_getElem hj,List.getD_eq_getElem?_getD,List.getElem?_eq_getElem hj]
 rfl
theorem int_lit (w:World) (vs:List Int) (t:TypeId) (cs:Array Value) (h:cs=(ints vs).toArray):Reads (w.alloc (.cells cs t)) (w.alloc (.cells cs t)).heap.size 1 (some ⟨w.heap.size,0,none⟩) vs.length (ints vs):=by
 subst h
 exact⟨by rw[ints_length,Nat.mul_one],fun _=>⟨_,rfl,by simp,fun j u hu=>by
  rw[Go.WideShapes.add_plain,Nat.zero_add,(Blk.new w t (ints vs).toArray).cell,List.getElem?_toArray];exact hu⟩⟩
theorem ints_take (zs:List Int) (k:Nat):(ints zs).take k=ints (zs.take k):=by unfold ints;rw[List.map_take]
theorem ints_append (xs ys:List Int):ints (xs++ys)=ints xs++ints ys:=by unfold ints;rw[List.map_append]
theorem ints_set (xs:List Int) (i:Nat) (v:Int):(ints xs).set i (.int .i64 v)=ints (xs.set i v):=by unfold ints;rw[List.map_set]
theorem reads_cut {w:World} {B n k:Nat} {A:Option Addr} {l:List Int} (h:Reads w B 1 A n (ints l)) (hk:k≤n):Reads w B 1 A k (ints (l.take k)):=by
 have:=reads_take h hk
 rwa [Nat.mul_one,ints_take] at this
structure CopyI (n:Nat) (xs:List Int) (w:World) (A:Option Addr) (c:Nat) (w':World):Prop where
 own:w'.ownsRow w.heap.size 3 1 (.slice A n c) n (ints xs)
 below:Below w.heap.size w w'
section
variable {n : Nat} {xs : List Int} {w w' : World} {A : Option Addr} {c : Nat}
theorem CopyI.reads (h:CopyI n xs w A c w'):Reads w' w'.heap.size 1 A n (ints xs):=Reads.of_own h.own
theorem CopyI.len (h:CopyI n xs w A c w'):xs.length=n:=ints_len h.reads
theorem CopyI.cap (h:CopyI n xs w A c w'):n≤c∧c≤9223372036854775807:=by
 obtain⟨A',c',e,h1,h2⟩:=own_form2 h.own
 injection e with e1 e2 e3
 subst e3
 exact⟨h1,h2⟩
theorem CopyI.set {g:Nat} (h:CopyI n xs w (some ⟨g,0,none⟩) c w') (hg:w.heap.size≤g) (i:Nat) (v:Int):CopyI n (xs.set i v) w (some ⟨g,0,none⟩) c (w'.setCell ⟨g,i,none⟩ (.int .i64 v)) :=
 ⟨by have:=(h.own.stored i (.int .i64 v)).1;rwa [ints_set] at this,h.below.setCell (p:=⟨g,i,none⟩) hg _⟩
end
end Go.Proofs.YtmkknbonmameoaaGreatDoor
