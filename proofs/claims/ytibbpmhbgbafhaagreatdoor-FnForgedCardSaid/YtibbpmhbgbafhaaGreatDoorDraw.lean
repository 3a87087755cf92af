import Derived.Test.YtibbpmhbgbafhaaGreatDoorCkRead
import Derived.Test.YtibbpmhbgbafhaaGreatDoorLinesBoth
import Derived.Test.YtibbpmhbgbafhaaGreatDoorPhrasePlain
import Derived.Test.YtibbpmhbgbafhaaGreatDoorCkSigns
import Derived.Test.YtibbpmhbgbafhaaGreatDoorBlank
import Derived.Laws.OwnMore
import Derived.Laws.Pointers
import Derived.Test.YtibbpmhbgbafhaaGreatDoorChecked
import Derived.Lib.QuietBelow
import Derived.Deep.QuietTactic
import Derived.BigQuiet
import Derived.Deep.RegionWith
import Derived.WalkSmall
set_option maxRecDepth 20000
namespace Go.Proofs.YtibbpmhbgbafhaaGreatDoor
open Go.RowKit Go.Lib
namespace Sn
def dg10 (c:UInt8):Bool:=decide (48≤c.toNat) && decide (c.toNat≤57)
def val10 (a:Nat)(l:List UInt8):Nat:=l.foldl (fun n c=>n*10+(c.toNat-48)) a
theorem val_cons (a:Nat)(c:UInt8)(l:List UInt8):val10 a (c::l)=val10 (a*10+(c.toNat-48)) l:=by
 unfold val10
 rw[List.foldl_cons]
theorem val_app (l:List UInt8)(a:Nat)(c:UInt8):val10 a (l ++ [c])=val10 a l*10+(c.toNat-48):=by
 unfold val10
 rw[List.foldl_append,List.foldl_cons,List.foldl_nil]
theorem dec_val (n:Nat):val10 0 (decDigits n)=n∧(decDigits n).all dg10=true∧decDigits n ≠ []:=by
 induction n using Nat.strongRecOn with
 | ind n ih=>
  rw[decDigits]
  split
  ·rename_i h
   have e:(UInt8.ofNat (48+n)).toNat=48+n:=by simp;omega
   refine⟨?_,?_,by simp⟩
   ·rw[val_cons,e]
    unfold val10
    rw[List.foldl_nil];omega
   ·rw[List.all_cons,List.all_nil,Bool.and_true]
    unfold dg10
    rw[e]
    simp;omega
  ·rename_i h
   obtain⟨h1,h2,h3⟩:=ih (n / 10) (by omega)
   have e:(UInt8.ofNat (48+n % 10)).toNat=48+n % 10:=by simp;omega
   refine⟨?_,?_,by simp⟩
   ·rw[val_app,h1,e];omega
   ·rw[List.all_append,h2,List.all_cons,List.all_nil,Bool.and_true,Bool.true_and]
    unfold dg10
    rw[e]
    simp;omega
theorem parse_ok:∀(l:List UInt8)(acc:Nat),l.all dg10=true→(acc+1)*10 ^ l.length≤1000000000000000000→parseUintM 18446744073709551615 acc l=.ok (val10 acc l)
 | [],acc,_,_=>by unfold parseUintM val10;rw[List.foldl_nil]
 | c::r,acc,h,hb=>by
  rw[List.all_cons,Bool.and_eq_true] at h
  obtain⟨h1,h2⟩:=h
  unfold dg10 at h1
  simp only[Bool.and_eq_true,decide_eq_true_eq] at h1
  rw[List.length_cons,Nat.pow_succ,Nat.mul_comm (10 ^ r.length) 10,← Nat.mul_assoc] at hb
  have hp:1≤10 ^ r.length:=Nat.succ_le_of_lt (Nat.pow_pos (by decide))
  have ha:(acc+1)*10≤1000000000000000000:=Nat.le_trans (Nat.le_mul_of_pos_right _ hp) hb
  have hn:(acc*10+(c.toNat-48)+1)*10 ^ r.length≤1000000000000000000:=Nat.le_trans (Nat.mul_le_mul_right _ (by omega)) hb
  unfold parseUintM
  rw[if_pos h1,if_neg (by omega),if_neg (by omega),parse_ok r _ h2 hn,val_cons]
theorem num_dec (n:Nat)(hn:n<2147483647):numW (decDigits n)=n:=by
 obtain⟨hv,hd,h0⟩:=dec_val n
 have hl:(decDigits n).length≤10:=dec_len10 9 n (by have:(10:Nat) ^ (9+1)=10000000000:=rfl;omega)
 unfold numW
 generalize decDigits n=l at *
 cases l with
 | nil=>exact absurd rfl h0
 | cons c r=>
  have hc:=hd
  rw[List.all_cons,Bool.and_eq_true] at hc
  have h1:=hc.1
  unfold dg10 at h1
  simp only[Bool.and_eq_true,decide_eq_true_eq] at h1
  have hpow:10 ^ (c::r).length≤10 ^ 10:=Nat.pow_le_pow_right (by decide) hl
  have hk:=parse_ok (c::r) 0 hd (by
   have:(10:Nat) ^ 10=10000000000:=rfl
   omega)
  rw[hv] at hk
  have e:Lib.parseIntB 64 (c::r)=.ok (n:Int):=by
   unfold parseIntB
   dsimp only
   rw[if_neg (by omega)]
   unfold parseUintB
   rw[if_neg (by simp),show 2 ^ 64-1=18446744073709551615 from rfl,hk]
   dsimp only
   rw[if_neg (by
    rintro⟨-,h⟩
    have:(2:Nat) ^ (64-1)=9223372036854775808:=rfl
    omega),if_neg (by rintro⟨h,-⟩;omega),if_neg (by omega)]
  rw[e]
theorem index_at (c:UInt8)(sp r:List UInt8):∀a:List UInt8,c ∉ a→Lib.index (a++(c::sp++r)) (c::sp)=(a.length:Int)
 | [],_=>by
  rw[List.nil_append,List.cons_append,Lib.index,if_pos (by rw[← List.cons_append,List.isPrefixOf_iff_prefix];exact List.prefix_append _ _)]
  rfl
 | x::a,h=>by
  have hx:c≠x:=fun e=>h (by rw[e];exact List.mem_cons_self)
  have ih:=index_at c sp r a (fun e=>h (List.mem_cons_of_mem _ e))
  rw[List.cons_append,Lib.index,ih,if_neg (by simp[List.isPrefixOf,hx]),if_neg (by rw[beq_iff_eq];omega)]
  simp
theorem cut_here (a sep b:ByteArray)(c:UInt8)(sp:List UInt8)(hs:sep.data.toList=c::sp)(h:c ∉ a.data.toList):cutA (a++(sep++b)) sep=a∧cutR (a++(sep++b)) sep=b:=by
 have e:(a++(sep++b)).data.toList=a.data.toList++(c::sp++b.data.toList):=by
  rw[← hs]
  simp
 have hi:=index_at c sp b.data.toList a.data.toList h
 have hcut:Lib.cut (a++(sep++b)).data.toList sep.data.toList=(a.data.toList,b.data.toList,true):=by
  unfold Lib.cut
  rw[e,hs,hi,if_pos (by omega),Int.toNat_natCast,List.take_left,← List.append_assoc]
  have:a.data.toList.length+(c::sp).length=(a.data.toList++c::sp).length:=by simp
  rw[this,List.drop_left]
 unfold cutA cutR
 rw[hcut]
 exact⟨rfl,rfl⟩
def jB (M:List ByteArray):ByteArray:=⟨(jc M).toArray⟩
theorem ba_eq {a b:ByteArray} (h:a.data.toList=b.data.toList):a=b:=ByteArray.ext (Array.toList_inj.1 h)
theorem names_jc:∀M:List ByteArray,M ≠ []→(∀t ∈ M,(58:UInt8) ∉ t.data.toList)→names (jB M)=M
 | [],h,_=>absurd rfl h
 | [t],_,hf=>by
  have h0:=hf t (by simp)
  have e:jB [t]=t:=ba_eq (by simp[jB,jc])
  have hc:countB t colon=0:=by
   show count t.data.toList [58]=0
   rw[count_one]
   exact List.count_eq_zero.2 h0
  unfold names
  rw[e,hc,splitB_zero]
 | t::t2::r,_,hf=>by
  have h0:=hf t (by simp)
  have ih:=names_jc (t2::r) (by simp) (fun u hu=>hf u (List.mem_cons_of_mem _ hu))
  have e:jB (t::t2::r)=t++(colon++jB (t2::r)):=ba_eq (by
   show(jc (t::t2::r))=_
   rw[jc]
   simp[jB,colon])
  have hc:countB (jB (t::t2::r)) colon=countB (jB (t2::r)) colon+1:=by
   show count (jB (t::t2::r)).data.toList [58]=count (jB (t2::r)).data.toList [58]+1
   rw[count_one,count_one,e]
   have e2:(t++(colon++jB (t2::r))).data.toList=t.data.toList++58::(jB (t2::r)).data.toList:=by simp[colon]
   rw[e2,List.count_append,List.count_cons_self,List.count_eq_zero.2 h0]
   omega
  have hi:indexB (jB (t::t2::r)) colon=(t.size:Int):=by
   have:=index_at 58 [] (jB (t2::r)).data.toList t.data.toList h0
   show Lib.index (jB (t::t2::r)).data.toList [58]=_
   rw[e]
   have e2:(t++(colon++jB (t2::r))).data.toList=t.data.toList++([58]++(jB (t2::r)).data.toList):=by simp[colon]
   rw[e2,this]
   simp
  unfold names at ih ⊢
  rw[hc,splitB,hi,if_neg (by rw[beq_iff_eq];omega),Int.toNat_natCast,Nat.add_zero,e]
  have x1:(t++(colon++jB (t2::r))).extract 0 t.size=t:=by
   rw[ByteArray.extract_append_eq_left rfl]
  have x2:(t++(colon++jB (t2::r))).extract (t.size+colon.size) (t++(colon++jB (t2::r))).size=jB (t2::r):=by
   rw[← ByteArray.append_assoc]
   exact ByteArray.extract_append_eq_right (by rw[ByteArray.size_append]) (by rw[ByteArray.size_append])
  rw[x1,x2,ih]
theorem dec_free (n:Nat)(c:UInt8)(h:dg10 c=false):c ∉ (⟨(decDigits n).toArray⟩:ByteArray).data.toList:=by
 intro hm
 have:=List.all_eq_true.1 (dec_val n).2.1 c hm
 rw[h] at this
 cases this
theorem sum_cut (a b:Nat):cutA (sumT a b) dash=⟨(decDigits a).toArray⟩∧cutR (sumT a b) dash=⟨(decDigits b).toArray⟩:=by
 unfold sumT
 rw[ByteArray.append_assoc]
 exact cut_here _ dash _ 45 [] rfl (dec_free a 45 (by decide))
theorem sum_free (a b:Nat):(59:UInt8) ∉ (sumT a b).data.toList:=by
 intro hm
 have e:(sumT a b).data.toList=(decDigits a ++ [45])++decDigits b:=by simp[sumT]
 rw[e,List.mem_append,List.mem_append] at hm
 rcases hm with (hm|hm)|hm
 ·exact dec_free a 59 (by decide) hm
 ·simp at hm
 ·exact dec_free b 59 (by decide) hm
theorem sign_free {c:UInt8} {l:List UInt8} (h:l.all Pl.signB=true)(hc:Pl.signB c=false):c ∉ l:=fun hm=>by
 have:=List.all_eq_true.1 h c hm
 rw[hc] at this
 cases this
theorem jc_free:∀M:List ByteArray,(∀t ∈ M,(59:UInt8) ∉ t.data.toList)→(59:UInt8) ∉ jc M
 | [],_=>by simp[jc]
 | [t],h=>by simpa [jc] using h t (by simp)
 | t::t2::r,h=>by
  have ih:=jc_free (t2::r) (fun u hu=>h u (List.mem_cons_of_mem _ hu))
  have h0:=h t (by simp)
  rw[jc]
  intro hm
  rcases List.mem_append.1 hm with hm|hm
  ·exact h0 hm
  ·rcases List.mem_cons.1 hm with hm|hm
   ·exact absurd hm (by decide)
   ·exact ih hm
theorem read_own (d s:ByteArray)(A B:Int)(M:List ByteArray)(h b:Int)(x y p q:Nat)(hok:signerOk d s A B M h b=true)
  (hx:x<2147483647) (hy:y<2147483647) (hp:p<2147483647) (hq:q<2147483647) :
  readS (frontT d s M h b x y++sumT p q)=⟨d,s,M,h,b,x,y,p,q⟩∧right ⟨d,s,M,h,b,x,y,p,q⟩ (frontT d s M h b x y++sumT p q)=true:=by
 have hok2:=hok
 unfold signerOk at hok2
 simp only[Bool.and_eq_true,decide_eq_true_eq] at hok2
 obtain⟨g1,g2,-,g4,g5,g6,g7,g8⟩:=hok2
 have hd:(59:UInt8) ∉ d.data.toList:=by
  unfold Pl.domOk at g1
  simp only[Bool.and_eq_true] at g1
  exact sign_free g1.2.2 (by decide)
 have hs:(59:UInt8) ∉ s.data.toList:=by
  unfold Pl.selOk at g2
  simp only[Bool.and_eq_true] at g2
  intro hm
  have:=List.all_eq_true.1 g2.2.2 59 hm
  exact absurd this (by decide)
 have hM:∀t ∈ M,(59:UInt8) ∉ t.data.toList∧(58:UInt8) ∉ t.data.toList:=fun t ht=>by
  have hh:=List.all_eq_true.1 g8 t ht
  unfold nameB Pl.sNameOk Pl.nameOk at hh
  simp only[Bool.and_eq_true] at hh
  refine⟨sign_free hh.2 (by decide),fun hm=>?_⟩
  have:=List.all_eq_true.1 hh.1.2.2 58 hm
  exact absurd this (by decide)
 have hf:∀k:Int,k=0∨k=1→(59:UInt8) ∉ (formT k).data.toList∧(47:UInt8) ∉ (formT k).data.toList∧fmN (formT k)=k:=fun k hk=>by
  rcases hk with rfl|rfl<;>decide
 obtain⟨-,hh2,hh3⟩:=hf h g4
 obtain⟨hb1,-,hb3⟩:=hf b g5
 have hj:(59:UInt8) ∉ (jB M).data.toList:=jc_free M fun t ht=>(hM t ht).1
 have hM0:M ≠ []:=by intro e;rw[e] at g6;exact absurd g6 (by decide)
 have hnm:=names_jc M hM0 fun t ht=>(hM t ht).2
 have ev:frontT d s M h b x y++sumT p q=⟨#[32,100,61]⟩++(d++(mS++(s++(mC++(formT h++(mSl++(formT b++(mH++(jB M++(mB++(sumT x y++(mX++sumT p q)))))))))))):=by
  unfold frontT
  simp only[ByteArray.append_assoc]
  rfl
 obtain⟨c1,r1'⟩:=cut_here d mS (s++(mC++(formT h++(mSl++(formT b++(mH++(jB M++(mB++(sumT x y++(mX++sumT p q)))))))))) 59 [32,115,61] rfl hd
 obtain⟨c2,r2'⟩:=cut_here s mC (formT h++(mSl++(formT b++(mH++(jB M++(mB++(sumT x y++(mX++sumT p q)))))))) 59 [32,99,61] rfl hs
 obtain⟨c3,r3'⟩:=cut_here (formT h) mSl (formT b++(mH++(jB M++(mB++(sumT x y++(mX++sumT p q)))))) 47 [] rfl hh2
 obtain⟨c4,r4'⟩:=cut_here (formT b) mH (jB M++(mB++(sumT x y++(mX++sumT p q)))) 59 [32,104,61] rfl hb1
 obtain⟨c5,r5'⟩:=cut_here (jB M) mB (sumT x y++(mX++sumT p q)) 59 [32,98,61] rfl hj
 obtain⟨c6,r6'⟩:=cut_here (sumT x y) mX (sumT p q) 59 [32,120,61] rfl (sum_free x y)
 have et:t0 (frontT d s M h b x y++sumT p q)=d++(mS++(s++(mC++(formT h++(mSl++(formT b++(mH++(jB M++(mB++(sumT x y++(mX++sumT p q))))))))))):=by
  rw[ev]
  generalize d++(mS++(s++(mC++(formT h++(mSl++(formT b++(mH++(jB M++(mB++(sumT x y++(mX++sumT p q)))))))))))=R
  unfold t0
  have e:((⟨#[32,100,61]⟩:ByteArray)++R).data.toList=32::100::61::R.data.toList:=by simp
  rw[e]
  apply ba_eq
  unfold Lib.trimPrefix
  rw[if_pos (by simp[Lib.hasPrefix])]
  rfl
 obtain⟨s1,s2⟩:=sum_cut x y
 obtain⟨s3,s4⟩:=sum_cut p q
 have n:∀k:Nat,k<2147483647→numW (⟨(decDigits k).toArray⟩:ByteArray).data.toList=k:=fun k hk=>num_dec k hk
 constructor
 ·unfold readS Sn.r5 Sn.r4 Sn.r3 Sn.r2 Sn.r1
  rw[et,r1',r2',r3',r4',r5',r6',c1,c2,c3,c4,c5,c6]
  unfold mk
  rw[hnm,hh3,hb3,s1,s2,s3,s4,n x hx,n y hy,n p hp,n q hq]
 ·unfold right says sumR valueOf
  simp only[Int.toNat_natCast,Bool.and_eq_true,decide_eq_true_eq,beq_iff_eq]
  exact⟨⟨g1,g2,g4,g5,g6,g7,g8⟩,⟨by omega,by omega,by omega,by omega⟩,⟨by omega,by omega,by omega,by omega⟩,trivial⟩
end Sn
namespace Sn
theorem sign_form (msg d s:ByteArray)(A B:Int)(M:List ByteArray)(h b:Int)(hne:plSign msg d s A B M h b≠⟨#[]⟩) :
  signerOk d s A B M h b=true∧(RH msg).code=0∧(RH msg).fields.length<200∧Pl.nameOk sgName.data.toList=true∧Pl.val (sgValue msg d s A.toNat B.toNat M h b).data.toList=true ∧
   (plSign msg d s A B M h b).data.toList=Pl.lineL (sgName.data.toList,(sgValue msg d s A.toNat B.toNat M h b).data.toList)++msg.data.toList∧(plSign msg d s A B M h b).size≤100000:=by
 unfold plSign at hne ⊢
 split at hne
 ·rename_i hg
  rw[if_pos hg]
  obtain⟨h1,h2,h3⟩:=hg
  have h4:=RH_len msg
  generalize sgValue msg d s A.toNat B.toNat M h b=v at *
  unfold Pl.added at hne ⊢
  have hl:(⟨(Pl.hd [] [(sgName,v)]).toArray⟩:ByteArray).toList=Pl.hd [] [(sgName,v)]:=by
   rw[ByteArray.toList_eq]
  split at hne
  ·exact absurd rfl hne
  ·rename_i h5
   rw[if_neg h5]
   split at hne
   ·exact absurd rfl hne
   ·rename_i h6
    rw[if_neg h6]
    rw[hl] at h5
    unfold Pl.hd at h5 h6 ⊢
    split at h5
    ·rename_i h7
     rw[if_pos h7] at h6 ⊢
     split at h5
     ·exact absurd rfl h5
     ·rename_i h8
      rw[if_neg h8] at h6 ⊢
      unfold Pl.okF at h7
      simp only[Bool.and_eq_true] at h7
      refine⟨h1,h2,by omega,h7.2.1,h7.2.2,?_,?_⟩
      ·unfold Pl.hd Pl.line Pl.lineL
       simp
      ·rw[ByteArray.size_append]
       omega
    ·exact absurd rfl h5
 ·exact absurd rfl hne
theorem forged (msg d s:ByteArray)(A B:Int)(M:List ByteArray)(h:Int)(hne:plSign msg d s A B M h 0≠⟨#[]⟩)(pre post:List UInt8)(c e:UInt8)(hm:msg.data.toList=pre++c::post)(hB:(RH msg).body≤pre.length)(hc:Pl.odd c)(he:Pl.odd e)(hce:c≠e)
  (t:ByteArray) (ht:t.data.toList=Pl.lineL (sgName.data.toList,(sgValue msg d s A.toNat B.toNat M h 0).data.toList)++(pre++e::post)) :
  RH t=⟨0,0,(Pl.lineL (sgName.data.toList,(sgValue msg d s A.toNat B.toNat M h 0).data.toList)).length+(RH msg).body,(sgName.data.toList,(sgValue msg d s A.toNat B.toNat M h 0).data.toList)::(RH msg).fields⟩ ∧
   ansOf [⟨d,s,A,B⟩] (t.extract (RH t).body t.size) sgName (sgValue msg d s A.toNat B.toNat M h 0) (toBA (RH msg).fields)=(d,3):=by
 obtain⟨h1,h2,h3,h4,h5,h6,h7⟩:=sign_form msg d s A B M h 0 hne
 obtain⟨hmz,-⟩:=RH_good msg h2
 have hrm:RH msg=Pl.readHead msg.data.toList:=by unfold RH;rw[if_pos hmz]
 have hts:t.size=(plSign msg d s A B M h 0).size:=by
  have e1:t.data.toList.length=t.size:=by simp
  have e2:(plSign msg d s A B M h 0).data.toList.length=(plSign msg d s A B M h 0).size:=by simp
  rw[← e1,← e2,ht,h6,hm]
  simp
 have hrt:RH t=Pl.readHead t.data.toList:=by unfold RH;rw[if_pos (by omega)]
 have hR:RH t=⟨0,0,(Pl.lineL (sgName.data.toList,(sgValue msg d s A.toNat B.toNat M h 0).data.toList)).length+(RH msg).body,(sgName.data.toList,(sgValue msg d s A.toNat B.toNat M h 0).data.toList)::(RH msg).fields⟩:=by
  rw[hrt,ht,hrm]
  rw[hrm] at h2 h3 hB
  have hl:(Pl.readHead msg.data.toList).body<msg.data.toList.length:=by
   have e1:msg.data.toList.length=pre.length+1+post.length:=by rw[hm];simp;omega
   omega
  refine Pl.readHead_line _ _ msg.data.toList (pre++e::post) h4 h5 h2 h3 hl (by rw[hm];simp) (fun j hj=>?_)
  rw[hm]
  have hj2:j<pre.length:=by omega
  unfold Pl.b
  simp[List.getD,List.getElem?_append_left hj2]
 refine⟨hR,?_⟩
 rw[hR]
 simp only
 obtain⟨u1,u2,⟨A',rfl,ga,ga2⟩,⟨B',rfl,gb,gb2⟩,u3⟩:=signer_parts d s A B M h 0 h1
 have hk:keyOk (A':Int) B'=true:=by
  have:=h1
  unfold signerOk at this
  simp only[Bool.and_eq_true] at this
  exact this.2.2.1
 have hp0:0<Ps.P:=by decide
 rw[Int.toNat_natCast,Int.toNat_natCast] at *
 obtain⟨x,hx⟩:∃x,x=Ps.sm A' 1 (sgBody msg 0).data.toList:=⟨_,rfl⟩
 obtain⟨y,hy⟩:∃x,x=Ps.sm B' 1 (sgBody msg 0).data.toList:=⟨_,rfl⟩
 obtain⟨p,hp⟩:∃x,x=Ps.sm A' 1 (sgHead msg d s A' B' M h 0).data.toList:=⟨_,rfl⟩
 obtain⟨q,hq⟩:∃x,x=Ps.sm B' 1 (sgHead msg d s A' B' M h 0).data.toList:=⟨_,rfl⟩
 have l1:x<2147483647:=by rw[hx];exact Ps.sm_lt A' _ 1 (by decide)
 have l2:y<2147483647:=by rw[hy];exact Ps.sm_lt B' _ 1 (by decide)
 have l3:p<2147483647:=by rw[hp];exact Ps.sm_lt A' _ 1 (by decide)
 have l4:q<2147483647:=by rw[hq];exact Ps.sm_lt B' _ 1 (by decide)
 have hval:sgValue msg d s A' B' M h 0=frontT d s M h 0 x y++sumT p q:=by
  unfold sgValue sgFront
  rw[← hx,← hy,← hp,← hq]
 obtain⟨r1,r2⟩:=read_own d s A' B' M h 0 x y p q h1 l1 l2 l3 l4
 rw[hval]
 unfold ansOf
 rw[r1,if_pos r2]
 have hfk:findK d s [⟨d,s,(A':Int),(B':Int)⟩]=⟨d,s,(A':Int),(B':Int)⟩:=by
  unfold findK
  rw[if_pos (by simp)]
 simp only[hfk]
 obtain⟨ln,hln⟩:∃l,l=Pl.lineL (sgName.data.toList,(frontT d s M h 0 x y++sumT p q).data.toList):=⟨_,rfl⟩
 rw[hval,← hln] at ht
 rw[← hln]
 have b1:t.extract (ln.length+(RH msg).body) t.size=⟨(pre.drop (RH msg).body++e::post).toArray⟩:=by
  apply ba_eq
  rw[Lib.extract_to_end,ht,Pl.drop_sf,List.drop_append_of_le_length hB]
 have b2:msg.extract (RH msg).body msg.size=⟨(pre.drop (RH msg).body++c::post).toArray⟩:=by
  apply ba_eq
  rw[Lib.extract_to_end,hm,List.drop_append_of_le_length hB]
 have hz1:(⟨(pre.drop (RH msg).body++e::post).toArray⟩:ByteArray).size≤100000:=by
  rw[← b1,ByteArray.size_extract];omega
 have hz2:(⟨(pre.drop (RH msg).body++c::post).toArray⟩:ByteArray).size≤100000:=by
  rw[← b2,ByteArray.size_extract];omega
 have hne2:¬x=Ps.sm A' 1 (canonAny ⟨(pre.drop (RH msg).body++e::post).toArray⟩ 0).data.toList:=by
  rw[hx]
  unfold sgBody canonAny
  rw[b2,if_neg (by omega),if_neg (by omega)]
  exact canon_sum A' ga ga2 (pre.drop (RH msg).body) post c e hc he hce
 have hfin:resOf ⟨d,s,(A':Int),(B':Int)⟩ (t.extract (ln.length+(RH msg).body) t.size) sgName (toBA (RH msg).fields) ⟨d,s,M,h,0,x,y,p,q⟩=3:=by
  unfold resOf
  rw[b1,if_neg (by rw[hk];simp),if_neg]
  intro hh
  rw[Bool.and_eq_true,beq_iff_eq] at hh
  simp only[Int.toNat_natCast] at hh
  exact hne2 (by omega)
 rw[hfin]
theorem forged_at (msg d s:ByteArray)(A B:Int)(M:List ByteArray)(h:Int)(T:ByteArray)(hT:T=plSign msg d s A B M h 0)(hne:T≠⟨#[]⟩)(k:Nat)(hk1:(RH T).body≤k)(hk2:k<T.data.toList.length)(e:UInt8)(hc:Pl.odd T.data.toList[k])(he:Pl.odd e)(hce:T.data.toList[k]≠e) :
  ∃ (v:ByteArray) (F:List Fl),(RH ⟨(T.data.toList.set k e).toArray⟩).code=0∧(RH ⟨(T.data.toList.set k e).toArray⟩).fields=(sgName.data.toList,v.data.toList)::F ∧
   ansOf [⟨d,s,A,B⟩] ((⟨(T.data.toList.set k e).toArray⟩:ByteArray).extract (RH ⟨(T.data.toList.set k e).toArray⟩).body (⟨(T.data.toList.set k e).toArray⟩:ByteArray).size) sgName v (toBA F)=(d,3):=by
 subst hT
 obtain⟨h1,h2,h3,h4,h5,h6,h7⟩:=sign_form msg d s A B M h 0 hne
 obtain⟨hmz,-⟩:=RH_good msg h2
 have hrm:RH msg=Pl.readHead msg.data.toList:=by unfold RH;rw[if_pos hmz]
 have hB:(RH (plSign msg d s A B M h 0)).body=(Pl.lineL (sgName.data.toList,(sgValue msg d s A.toNat B.toNat M h 0).data.toList)).length+(RH msg).body:=by
  have e1:RH (plSign msg d s A B M h 0)=Pl.readHead (plSign msg d s A B M h 0).data.toList:=by unfold RH;rw[if_pos h7]
  rw[e1,h6,hrm]
  rw[hrm] at h2 h3
  rw[Pl.readHead_sf _ _ _ h4 h5 h2 h3]
 rw[hB] at hk1
 obtain⟨L,hL⟩:∃L,L=(plSign msg d s A B M h 0).data.toList:=⟨_,rfl⟩
 have hFo:=fun pre post c e hm hBp hc he hce t ht=>forged msg d s A B M h hne pre post c e hm hBp hc he hce t ht
 obtain⟨ln,hln⟩:∃l,l=Pl.lineL (sgName.data.toList,(sgValue msg d s A.toNat B.toNat M h 0).data.toList):=⟨_,rfl⟩
 rw[← hln] at h6 hk1
 have hFo2:∀(pre post:List UInt8) (c e:UInt8),msg.data.toList=pre++c::post→(RH msg).body≤pre.length→Pl.odd c→Pl.odd e→c≠e→∀t:ByteArray,t.data.toList=ln++(pre++e::post)→_:=fun pre post c e hm hBp hc he hce t ht=>hFo pre post c e hm hBp hc he hce t (by rw[ht,hln])
 clear hFo
 obtain⟨i,hi⟩:∃i,k=ln.length+i:=⟨k-ln.length,by omega⟩
 subst hi
 simp only[h6] at hk2 hc hce ⊢
 have him:i<msg.data.toList.length:=by rw[List.length_append] at hk2;omega
 rw[List.getElem_append_right (by omega)] at hc hce
 simp only[Nat.add_sub_cancel_left] at hc hce
 have hspl:msg.data.toList=msg.data.toList.take i++msg.data.toList[i]::msg.data.toList.drop (i+1):=by rw[← List.drop_eq_getElem_cons him,List.take_append_drop]
 have hset:(ln++msg.data.toList).set (ln.length+i) e=ln++(msg.data.toList.take i++e::msg.data.toList.drop (i+1)):=by
  rw[List.set_append_right _ _ (by omega),Nat.add_sub_cancel_left,List.set_eq_take_append_cons_drop,if_pos him]
 rw[hset]
 obtain⟨r1,r2⟩:=hFo2 (msg.data.toList.take i) (msg.data.toList.drop (i+1)) _ e hspl (by rw[List.length_take];omega) hc he hce ⟨(ln++(msg.data.toList.take i++e::msg.data.toList.drop (i+1))).toArray⟩ rfl
 refine⟨_,_,?_,?_,r2⟩
 ·rw[r1]
 ·rw[r1]
end Sn
def Code (B:Nat)(w:World)(o:Option Addr)(c:List UInt8):Prop:=∀k (h:k<c.length),∃ a,o=some a∧a.block<B∧w.cell? (a.add k)=some (.int .u8 (c[k].toNat:Int))
structure Src (w:World)(g:Nat)(o:Option Addr)(n cp a z:Nat):Prop where
 blk:w.heap[g]?=some (.cells #[.slice o n cp,.int .i64 a,.int .i64 z] 69)
theorem Src.c0 {w:World} {g n cp a z:Nat} {o:Option Addr} (h:Src w g o n cp a z):w.cell? ⟨g,0,none⟩=some (.slice o n cp):=by simp[World.cell?,h.blk]
theorem Src.c1 {w:World} {g n cp a z:Nat} {o:Option Addr} (h:Src w g o n cp a z):w.cell? ⟨g,1,none⟩=some (.int .i64 a):=by simp[World.cell?,h.blk]
theorem Src.c2 {w:World} {g n cp a z:Nat} {o:Option Addr} (h:Src w g o n cp a z):w.cell? ⟨g,2,none⟩=some (.int .i64 z):=by simp[World.cell?,h.blk]
theorem Src.f1 {w:World} {g n cp a z:Nat} {o:Option Addr} (h:Src w g o n cp a z):w.frozen? ⟨g,1,none⟩=false:=by simp[World.frozen?,h.blk]
theorem Src.lt {w:World} {g n cp a z:Nat} {o:Option Addr} (h:Src w g o n cp a z):g<w.heap.size:=by
 have h:=h.blk
 by_cases hg:g<w.heap.size
 ·exact hg
 ·rw[Array.getElem?_eq_none (by omega)] at h;cases h
theorem Src.below {w w':World} {g n cp a z:Nat} {o:Option Addr} (h:Src w g o n cp a z)(hb:Below w.heap.size w w'):Src w' g o n cp a z:=
 ⟨by rw[hb.block g h.lt];exact h.blk⟩
theorem Src.set1 {w:World} {g n cp a z:Nat} {o:Option Addr} (h:Src w g o n cp a z)(m:Int)(k:Nat)(hm:m=k):Src (w.setCell ⟨g,1,none⟩ (.int .i64 m)) g o n cp k z:=by
 subst hm
 exact⟨by simp[World.setCell,Array.getElem?_modify,h.blk]⟩
theorem gr_refl (w:World)(r:Option Nat):w.grownBy w r:=⟨rfl,rfl,rfl,Nat.le_refl _,fun _ _ _=>rfl⟩
theorem gr_trans {a b c:World} {r:Option Nat} (h:a.grownBy b r)(k:b.grownBy c r):a.grownBy c r:=
 ⟨k.os.trans h.os,k.tape.trans h.tape,k.output.trans h.output,Nat.le_trans h.size k.size,fun i hi hr=>(k.block i (Nat.lt_of_lt_of_le hi h.size) hr).trans (h.block i hi hr)⟩
theorem gr_below {w w':World} {r:Option Nat} (h:Below w.heap.size w w'):w.grownBy w' r:=⟨h.os,h.tape,h.output,h.size,fun k hk _=>h.block k hk⟩
theorem gr_set (w:World)(g j:Nat)(v:Value):w.grownBy (w.setCell ⟨g,j,none⟩ v) (some g):=by
 refine⟨rfl,rfl,rfl,by simp[World.setCell],?_⟩
 intro k hk hr
 have:g≠k:=fun e=>hr (by rw[e])
 simp[World.setCell,Array.getElem?_modify,this]
theorem gr_cell {w w':World} {g:Nat} (h:w.grownBy w' (some g)) {a:Addr} {v:Value} (ha:a.block≠g)(hc:w.cell? a=some v):w'.cell? a=some v:=by
 have hlt:a.block<w.heap.size:=World.block_lt_of_cell? _ _ hc
 unfold World.cell? at hc ⊢
 rw[h.block a.block hlt (by intro e;exact ha (Option.some.inj e))]
 exact hc
theorem addr_block (a:Addr)(k:Nat):(a.add k).block=a.block:=by unfold Addr.add;split<;>rfl
theorem Code.grown {B:Nat} {w w':World} {o:Option Addr} {c:List UInt8} {g:Nat} (h:Code B w o c)(hg:w.grownBy w' (some g))(hB:B≤g):Code B w' o c:=by
 intro k hk
 obtain⟨a,rfl,ha,hc⟩:=h k hk
 exact⟨a,rfl,ha,gr_cell hg (by rw[addr_block];omega) hc⟩
set_option maxHeartbeats 2000000 in
theorem srcN (g:Nat)(o:Option Addr)(c:List UInt8)(cp a z:Nat)(most:Int)(w:World)(h:Src w g o c.length cp a z)(hc:Code g w o c)(ha:a≤1000000000000)(hl:c.length≤1048576)(hm:most≤4000000000)(h1:1≤most) :
  Calls Tryz.prog 32 #[.pointer (some ⟨g,0,none⟩),.int .i64 most] w fun e w'=>∃ v:Nat,e=.returned (.int .i64 v)∧(v:Int)<most∧Src w' g o c.length cp (a+1) z∧w.grownBy w' (some g):=by
 have c0:=h.c0
 have c1:=h.c1
 have f1:=h.f1
 have Hs:Hid (Src (w.setCell ⟨g,1,none⟩ (.int .i64 ((a:Int)+1))) g o c.length cp (a+1) z):=h.set1 _ _ (by omega)
 have hg:=gr_set w g 1 (.int .i64 ((a:Int)+1))
 have Hg:Hid (w.grownBy (w.setCell ⟨g,1,none⟩ (.int .i64 ((a:Int)+1))) (some g)):=hg
 have HC:Hid (Code g (w.setCell ⟨g,1,none⟩ (.int .i64 ((a:Int)+1))) o c):=hc.grown hg (Nat.le_refl _)
 clear h hc hg
 by_cases hz:c.length=0
 ·have hz2:((c.length:Int)==0)=true:=by rw[hz];rfl
  go_enter Tryz.func32,Tryz.ntmps32
  go_wp2
  go_ret
  refine⟨((a:Int)*7 % most).toNat,?_,?_,Hs.out,Hg.out⟩
  ·have:=Int.emod_nonneg ((a:Int)*7) (show most≠0 by omega)
   rw[Int.toNat_of_nonneg this]
   rfl
  ·have:=Int.emod_nonneg ((a:Int)*7) (show most≠0 by omega)
   have:=Int.emod_lt_of_pos ((a:Int)*7) (show 0<most by omega)
   omega
 ·have hz2:((c.length:Int)==0)=false:=beq_eq_false_iff_ne.2 (by omega)
  obtain⟨r,hr⟩:∃r,a % c.length=r:=⟨_,rfl⟩
  obtain⟨q,hq⟩:∃q,a / c.length=q:=⟨_,rfl⟩
  obtain⟨r2,hr2⟩:∃r2,(a+1) % c.length=r2:=⟨_,rfl⟩
  have hrl:r<c.length:=by rw[← hr];exact Nat.mod_lt _ (by omega)
  have hr2l:r2<c.length:=by rw[← hr2];exact Nat.mod_lt _ (by omega)
  have hql:q≤a:=by rw[← hq];exact Nat.div_le_self _ _
  have hrI:(a:Int) % (c.length:Int)=(r:Int):=by rw[← hr];rfl
  have hqI:(a:Int) / (c.length:Int)=(q:Int):=by rw[← hq];rfl
  have hr2I:((a:Int)+1) % (c.length:Int)=(r2:Int):=by rw[← hr2];rfl
  obtain⟨ad,rfl,had,k1⟩:=HC.out r hrl
  obtain⟨ad2,hade,-,k2⟩:=HC.out r2 hr2l
  obtain rfl:=Option.some.inj hade
  have b1:c[r].toNat<256:=UInt8.toNat_lt _
  have b2:c[r2].toNat<256:=UInt8.toNat_lt _
  generalize c[r].toNat=x1 at *
  generalize c[r2].toNat=x2 at *
  have hne:¬(c.length:Int)=0:=by omega
  clear hr hq hr2 hade HC hz
  go_enter Tryz.func32,Tryz.ntmps32
  go_wp2
  go_quiet (fail)
  obtain⟨V,hV⟩:∃V,V=(w.setCell ⟨g,1,none⟩ (.int .i64 ((a:Int)+1))).drewN nq:=⟨_,rfl⟩
  have HsV:Hid (Src V g (some ad) c.length cp (a+1) z):=by rw[hV];exact⟨Hs.out.blk⟩
  have HgV:Hid (w.grownBy V (some g)):=by rw[hV];exact gr_trans Hg.out (gr_below (Go.below_drewN (Below.refl _ _) _))
  have c0V:=HsV.out.c0
  have k2V:V.cell? (ad.add r2)=some (.int .u8 (x2:Int)):=by rw[hV];exact k2
  rw[← hV]
  clear hV k1 k2 c0 c1 f1 Hs Hg
  have nn:∀x:Int,(x % most).toNat=x % most:=fun x=>Int.toNat_of_nonneg (Int.emod_nonneg x (by omega))
  have nl:∀x:Int,x % most<most:=fun x=>Int.emod_lt_of_pos x (by omega)
  have Hnn:=(show Hid _ from nn)
  have Hnl:=(show Hid _ from nl)
  clear nn nl
  by_cases hbig:200<most
  ·go_wp2
   go_quiet (fail)
   have HsV2:Hid (Src (V.drewN nq) g (some ad) c.length cp (a+1) z):=⟨HsV.out.blk⟩
   have HgV2:Hid (w.grownBy (V.drewN nq) (some g)):=gr_trans HgV.out (gr_below (Go.below_drewN (Below.refl _ _) _))
   go_wp2
   go_ret
   refine⟨((((x1:Int)+q*37)*251+x2*13+a) % most).toNat,?_,?_,HsV2.out,HgV2.out⟩
   ·rw[Hnn.out];rfl
   ·rw[Hnn.out];exact Hnl.out _
  ·go_wp2
   go_ret
   refine⟨(((x1:Int)+q*37) % most).toNat,?_,?_,HsV.out,HgV.out⟩
   ·rw[Hnn.out];rfl
   ·rw[Hnn.out];exact Hnl.out _
theorem Src.belowB {w w':World} {g n cp a z B:Nat} {o:Option Addr} (h:Src w g o n cp a z)(hb:Below B w w')(hB:g<B):Src w' g o n cp a z:=
 ⟨by rw[hb.block g hB];exact h.blk⟩
theorem gr_belowB {w0 w w':World} {g:Nat} (h:w0.grownBy w (some g))(hb:Below w0.heap.size w w'):w0.grownBy w' (some g):=
 ⟨hb.os.trans h.os,hb.tape.trans h.tape,hb.output.trans h.output,Nat.le_trans h.size hb.size,fun i hi hr=>(hb.block i hi).trans (h.block i hi hr)⟩
theorem hp_alloc (w:World)(o:Obj):(w.alloc o).heap[w.heap.size]?=some o:=by
 show(w.heap.push o)[w.heap.size]?=some o
 simp
theorem hp_lt {w:World} {k:Nat} {o:Obj} (h:w.heap[k]?=some o):k<w.heap.size:=by
 by_cases hg:k<w.heap.size
 ·exact hg
 ·rw[Array.getElem?_eq_none (by omega)] at h;cases h
theorem Own.gr {B g:Nat} {v:Value} {p:List UInt8} {w w':World} (h:Own B v p w)(hg:w.grownBy w' (some g))(hB:g<B):Own B v p w':=by
 obtain⟨h1,h2⟩:=h
 refine⟨h1,?_⟩
 rcases h2 with h2|⟨k,cap,cur,e1,e2,e3,e4⟩
 ·exact .inl h2
 ·refine .inr ⟨k,cap,cur,e1,e2,?_,e4⟩
  rw[hg.block k (hp_lt e3) (by intro e;have:=Option.some.inj e;omega)]
  exact e3
theorem srcOne (g:Nat)(o:Option Addr)(c:List UInt8)(cp a z:Nat)(most:Int)(w:World)(h:Src w g o c.length cp a z)(hc:Code g w o c)(ha:a≤1000000000000)(hl:c.length≤1048576)(hm:most≤4000000000)(h1:1≤most) :
  Calls Tryz.prog 37 #[.pointer (some ⟨g,0,none⟩),.int .i64 most] w fun e w'=>∃ b:Bool,e=.returned (.bool b)∧Src w' g o c.length cp (a+1) z∧w.grownBy w' (some g):=by
 have hN:=srcN g o c cp a z most w h hc ha hl hm h1
 clear h hc
 go_enter Tryz.func37,Tryz.ntmps37
 go_wp2_with fail
 refine hN.mono ?_
 rintro e w1 ⟨v,rfl,hv,hs,hg⟩
 go_wp2
 go_ret
 exact⟨_,rfl,hs,hg⟩
theorem srcNew (o:Option Addr)(n cp:Nat)(w:World)(hn:n≤1048576) :
  Calls Tryz.prog 9 #[.slice o n cp] w fun e w'=>∃ z,e=.returned (.pointer (some ⟨w.heap.size,0,none⟩))∧z≤12∧Src w' w.heap.size o n cp 0 z∧Below w.heap.size w w':=by
 by_cases h12:12<n / 16
 ·have h12i:(12:Int)<(n:Int) / 16:=by omega
  go_enter Tryz.func9,Tryz.ntmps9
  go_wp2
  go_ret
  first|exact⟨12,rfl,Nat.le_refl _,⟨hp_alloc _ _⟩,(Below.refl _ _).alloc (Nat.le_refl _) _⟩|exact⟨rfl,12,Nat.le_refl _,⟨hp_alloc _ _⟩,(Below.refl _ _).alloc (Nat.le_refl _) _⟩
 ·have h12i:¬(12:Int)<(n:Int) / 16:=by omega
  go_enter Tryz.func9,Tryz.ntmps9
  go_wp2
  go_ret
  first|exact⟨rfl,n / 16,by omega,⟨hp_alloc _ _⟩,(Below.refl _ _).alloc (Nat.le_refl _) _⟩|exact⟨n / 16,rfl,by omega,⟨hp_alloc _ _⟩,(Below.refl _ _).alloc (Nat.le_refl _) _⟩
end Go.Proofs.YtibbpmhbgbafhaaGreatDoor
