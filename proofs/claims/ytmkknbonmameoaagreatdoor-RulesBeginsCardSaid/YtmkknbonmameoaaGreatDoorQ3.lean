import Derived.Lib.Small
import Derived.Test.YtmkknbonmameoaaGreatDoorQ1
-- holds: YtmkknbonmameoaaGreatDoorHLu
namespace Go.Proofs.YtmkknbonmameoaaGreatDoor
theorem byte_of {c:UInt8} {n:Nat} (h:c.toNat=n) (hn:n<256):c=UInt8.ofNat n:=by
 apply UInt8.toNat.inj
 rw[h,UInt8.toNat_ofNat']
 omega
theorem wrong_pref (l:List UInt8):(decide ((decL l).1=65533)&&!Lib.hasPrefix l [239,191,189])=bad l:=by
 by_cases hp:Lib.hasPrefix l [239,191,189]=true
 ·rw[hp]
  unfold Lib.hasPrefix at hp
  rw[List.isPrefixOf_iff_prefix] at hp
  obtain⟨t,rfl⟩:=hp
  have:decL ([239,191,189]++t)=(65533,3):=by
   unfold decL ct bt Utf8.valid
   simp
  unfold bad
  rw[this]
  simp
 simp only[Bool.not_eq_true] at hp
 rw[hp,Bool.not_false,Bool.and_true]
 unfold bad
 rw[Bool.eq_iff_iff,decide_eq_true_eq,beq_iff_eq]
 refine⟨fun h=>?_,fun h=>by rw[h]⟩
 have hb0:=bt_lt l 0
 have hb1:=bt_lt l 1
 have hb2:=bt_lt l 2
 have hno:¬(2<l.length∧bt l 0=239∧bt l 1=191∧bt l 2=189):=by
  rintro⟨h3,e0,e1,e2⟩
  match l,h3 with
  | a :: b :: c :: t,_ =>
   have ea:a=239:=byte_of (n:=239) e0 (by omega)
   have eb:b=191:=byte_of (n:=191) e1 (by omega)
   have ec:c=189:=byte_of (n:=189) e2 (by omega)
   subst ea;subst eb;subst ec
   simp[Lib.hasPrefix] at hp
 unfold decL at h ⊢
 split at h
 ·omega
 rename_i g0
 rw[if_neg g0]
 split at h
 ·rename_i g1
  rw[if_pos g1]
  split at h
  ·simp only[Bool.and_eq_true,beq_iff_eq] at g1
   omega
  rename_i g2;rw[if_neg g2]
 rename_i g1
 rw[if_neg g1]
 split at h
 ·rename_i g2
  rw[if_pos g2]
  split at h
  ·simp only[Bool.and_eq_true,beq_iff_eq] at g2
   have k2:=ct_len g2.2
   have c1:=g2.1.2
   have c2:=g2.2
   unfold ct at c1 c2
   simp only[Bool.and_eq_true,beq_iff_eq,decide_eq_true_eq] at c1 c2
   exact absurd ⟨k2,by omega,by omega,by omega⟩ hno
  rename_i g3;rw[if_neg g3]
 rename_i g2
 rw[if_neg g2]
 split at h
 ·rename_i g3
  rw[if_pos g3]
  split at h
  ·rename_i g4
   simp only[Bool.and_eq_true,decide_eq_true_eq,ge_iff_le] at g4
   omega
  rename_i g4;rw[if_neg g4]
 rename_i g3;rw[if_neg g3]
theorem dec_ways {l:List UInt8} (hb:bad l=false):((decL l).2=1∧(decL l).1<128)∨((decL l).2=2∧128≤(decL l).1∧(decL l).1<2048) ∨
 ((decL l).2=3∧2048≤(decL l).1∧(decL l).1<65536∧((decL l).1<55296∨57344≤(decL l).1))∨((decL l).2=4∧65536≤(decL l).1∧(decL l).1≤1114111):=by
 have hb':decL l≠(65533,1):=by unfold bad at hb;simpa using hb
 have hb0:=bt_lt l 0
 have hb1:=bt_lt l 1
 have hb2:=bt_lt l 2
 unfold decL at hb' ⊢
 split
 ·omega
 rename_i g0
 rw[if_neg g0] at hb'
 split
 ·rename_i g1
  rw[if_pos g1] at hb'
  split
  ·simp only[Bool.and_eq_true,beq_iff_eq] at g1
   omega
  rename_i g2;rw[if_neg g2] at hb';exact absurd rfl hb'
 rename_i g1
 rw[if_neg g1] at hb'
 split
 ·rename_i g2
  rw[if_pos g2] at hb'
  split
  ·rename_i g3
   unfold Utf8.valid at g3
   simp only[Bool.and_eq_true,Bool.or_eq_true,decide_eq_true_eq,ge_iff_le] at g3
   simp only[Bool.and_eq_true,beq_iff_eq] at g2
   omega
  rename_i g3;rw[if_neg g3] at hb';exact absurd rfl hb'
 rename_i g2
 rw[if_neg g2] at hb'
 split
 ·rename_i g3
  rw[if_pos g3] at hb'
  split
  ·rename_i g4
   unfold Utf8.valid at g4
   simp only[Bool.and_eq_true,Bool.or_eq_true,decide_eq_true_eq,ge_iff_le] at g4
   omega
  rename_i g4;rw[if_neg g4] at hb';exact absurd rfl hb'
 rename_i g3;rw[if_neg g3] at hb';exact absurd rfl hb'
theorem runeLen_dec {l:List UInt8} (hb:bad l=false):Lib.runeLen ((decL l).1:Int)=(decL l).2:=by
 have h:=dec_ways hb
 generalize decL l=d at *
 unfold Lib.runeLen
 repeat' split
 all_goals omega
end Go.Proofs.YtmkknbonmameoaaGreatDoor
