import Derived.Test.YtkcajnjledldnaaGreatDoorSpecKeyFault
import Derived.Test.YtkcajnjledldnaaGreatDoorGenQueueConfig
import Derived.Lib.QuietBelow
import Derived.BigQuiet
set_option maxRecDepth 20000
set_option maxHeartbeats 8000000
namespace Go.Proofs.YtkcajnjledldnaaGreatDoor
open Go.RowKit Go.Lib
namespace Ky
theorem last_get (l:List UInt8):∀(n a:Nat),n≤l.length→lastTo l n=(a:Int)→l[a]?=some 64
 | 0,a,_,h=>by simp[lastTo] at h
 | n+1,a,hn,h=>by
  unfold lastTo at h
  rw[List.getElem?_eq_getElem (by omega:n<l.length),Option.getD_some] at h
  by_cases h64:l[n]'(by omega)=64
  ·rw[if_pos h64] at h
   obtain rfl:n=a:=by omega
   rw[List.getElem?_eq_getElem (by omega),h64]
  ·rw[if_neg h64] at h
   exact last_get l n a (by omega) h
def domP (s:ByteArray):ByteArray:=s.extract (last s.data.toList+1).toNat s.size
theorem domP_size (s:ByteArray):(domP s).size≤s.size:=by unfold domP;rw[ByteArray.size_extract];omega
theorem parts_back (s:ByteArray)(a:Nat)(h:last s.data.toList=(a:Int)):s=loc s++(⟨#[64]⟩++dom s)∧domP s=dom s∧a<s.size:=by
 have hlt:a<s.size:=by
  have:=(lastTo_in s.data.toList s.data.toList.length).2
  have hl:s.data.toList.length=s.size:=by simp
  unfold last at h
  omega
 have hg:=last_get s.data.toList _ a (Nat.le_refl _) h
 refine⟨?_,?_,hlt⟩
 ·unfold loc dom
  rw[h,Int.toNat_natCast]
  apply ByteArray.ext
  apply Array.toList_inj.1
  simp only[ByteArray.data_append,ByteArray.data_extract,Array.toList_append,Array.toList_extract,List.extract_eq_take_drop]
  have hl:s.data.toList.length=s.size:=by simp
  have hla:a<s.data.toList.length:=by omega
  rw[List.getElem?_eq_getElem hla,Option.some_inj] at hg
  have e1:s.data.toList=s.data.toList.take a++s.data.toList.drop a:=(List.take_append_drop a _).symm
  have e2:s.data.toList.drop a=64::s.data.toList.drop (a+1):=by rw[List.drop_eq_getElem_cons hla,hg]
  conv=>lhs;rw[e1,e2]
  rw[List.take_of_length_le (l:=s.data.toList.drop (a+1)) (by simp)]
  simp
 ·unfold domP dom
  rw[h,Int.toNat_natCast,show((a:Int)+1).toNat=a+1 by omega]
theorem addr_dom (n l d:ByteArray)(h:addrOk n l d=true):Pl.domI d.data.toList=true:=by
 simp only[addrOk,Bool.and_eq_true] at h
 exact h.2.2.2.2.2
theorem ok_yes (s:ByteArray)(a:Nat)(h:last s.data.toList=(a:Int)):ok s=(dok (dom s) && ((keyT ⟨#[]⟩ (loc s) (dom s)).toList==s.toList)):=by
 obtain⟨hb,-,hlt⟩:=parts_back s a h
 have hsz:s.size=(loc s).size+(1+(dom s).size):=by
  have:=congrArg ByteArray.size hb
  rw[ByteArray.size_append,ByteArray.size_append] at this
  exact this
 unfold ok
 rw[h,decide_eq_true (by omega:(0:Int)≤(a:Int)),Bool.true_and]
 cases hA:addrOk ⟨#[]⟩ (loc s) (dom s)
 ·have hk:keyT ⟨#[]⟩ (loc s) (dom s)=⟨#[]⟩:=by unfold keyT;rw[hA];rfl
  have hne:((keyT ⟨#[]⟩ (loc s) (dom s)).toList==s.toList)=false:=by
   rw[hk,beq_eq_false_iff_ne]
   intro e
   rw[ByteArray.toList_eq,ByteArray.toList_eq] at e
   have:=congrArg List.length e
   simp at this
   omega
  rw[hne]
  simp
 ·have hd:=addr_dom _ _ _ hA
  obtain⟨-,s1,s2⟩:=addrOk_sizes _ _ _ hA
  rw[decide_eq_true (by omega:s.size≤400),dok,hd]
  cases open_ (dom s)<;>cases ((keyT ⟨#[]⟩ (loc s) (dom s)).toList==s.toList)<;>rfl
theorem ok_no (s:ByteArray)(h:last s.data.toList = -1):ok s=false:=by
 unfold ok
 rw[h]
 rfl
theorem cut_yes (s:ByteArray)(a:Nat)(h:last s.data.toList=(a:Int)):hasSuffix s.data.toList (⟨#[64]⟩++domP s).data.toList=true∧(⟨(trimSuffix s.data.toList (⟨#[64]⟩++domP s).data.toList).toArray⟩:ByteArray)=loc s:=by
 obtain⟨hb,hd,-⟩:=parts_back s a h
 rw[hd]
 have e:s.data.toList=(loc s).data.toList++(⟨#[64]⟩++dom s:ByteArray).data.toList:=by
  conv=>lhs;rw[hb]
  simp
 generalize (⟨#[64]⟩++dom s:ByteArray).data.toList=x at *
 have hs:hasSuffix s.data.toList x=true:=by
  rw[e,hasSuffix]
  simp[List.isSuffixOf]
 refine⟨hs,?_⟩
 rw[trimSuffix,if_pos hs,e]
 apply ByteArray.ext
 apply Array.toList_inj.1
 simp
theorem cut_no (s:ByteArray)(h:last s.data.toList = -1):hasSuffix s.data.toList (⟨#[64]⟩++domP s).data.toList=false:=by
 have e:domP s=s:=by
  unfold domP
  rw[h]
  simp
 rw[e,Bool.eq_false_iff]
 intro hs
 rw[hasSuffix,List.isSuffixOf_iff_suffix] at hs
 have:=hs.length_le
 simp at this
 omega
end Ky
theorem libLastString (s:ByteArray)(w:World)(hs:s.size≤1100000) :
  Calls Tryz.prog 229 #[.string s,.int .u8 64] w fun e w'=>e=.returned (.int .i64 (Ky.last s.data.toList))∧Below w.heap.size w w':=by
 have hll:s.data.toList.length=s.size:=by simp
 obtain⟨R,hR⟩:∃R,Ky.last s.data.toList=R:=⟨_,rfl⟩
 rw[hR]
 replace hR:Hid (Ky.lastTo s.data.toList s.size=R):=by rw[← hll];exact hR
 go_enter Tryz.func229,Tryz.ntmps229
 go_wp2
 go_loopw [5] (fun iv wr=>∃ (c:Nat) (z:Int),c≤s.size∧iv=.int .i64 z∧z+1=(c:Int)∧Hid (Ky.lastTo s.data.toList c=R)∧Below w.heap.size w wr) (fun iv _=>(Lib.intOf iv+1).toNat)
 case atStart=>exact⟨s.size,(s.size:Int)-1,Nat.le_refl _,by go_num,by omega,hR,Below.refl _ _⟩
 case round=>
  obtain⟨c,z,hc,rfl,hz,hRc,hb⟩:=hrel
  clear hR
  by_cases h0:c=0
  ·subst h0
   obtain rfl:z = -1:=by omega
   have hR0:Hid (R = -1):=show _=_ from hRc.out.symm
   go_wp2
   go_ret
   rw[hR0.out]
   exact⟨rfl,hb⟩
  ·obtain⟨n,rfl⟩:∃n,c=n+1:=⟨c-1,by omega⟩
   obtain rfl:z=(n:Int):=by omega
   have hlt:n<s.size:=by omega
   have hge:decide ((0:Int)≤(n:Int))=true:=by simp
   have h8:s[n].toNat<256:=UInt8.toNat_lt _
   by_cases h64:s[n]=64
   ·have hRn:Hid (R=(n:Int)):=show _=_ from by rw[← hRc.out];exact Ky.lastTo_yes _ n (by omega) h64
    have hb64:((s[n].toNat:Int)==64)=true:=by rw[h64];rfl
    clear hRc h64
    go_wp2
    go_ret
    rw[hRn.out]
    exact⟨rfl,hb⟩
   ·have hRn:Hid (Ky.lastTo s.data.toList n=R):=show _=_ from by rw[← hRc.out];exact(Ky.lastTo_no _ n (by omega) h64).symm
    have hb64:((s[n].toNat:Int)==64)=false:=by
     have:s[n].toNat≠64:=fun e=>h64 (UInt8.toNat_inj.1 e)
     simp;omega
    clear hRc h64
    go_wp2
    go_roundw
    case rel=>exact⟨n,(n:Int)-1,by omega,by go_num,by omega,hRn,hb⟩
    case measure=>simp[Lib.intOf]
theorem libLastByte (s:ByteArray)(w:World)(hs:s.size≤1100000) :
  Calls Tryz.prog 212 #[.string s,.int .u8 64] w fun e w'=>e=.returned (.int .i64 (Ky.last s.data.toList))∧Below w.heap.size w w':=by
 have hA:=mkH (libLastString s w hs)
 generalize Ky.last s.data.toList=z at *
 go_enter Tryz.func212,Tryz.ntmps212
 go_wp2_with fail
 refine hA.out.mono ?_
 rintro e w1 ⟨rfl,hb1⟩
 go_wp2
 go_ret
 exact⟨rfl,hb1⟩
theorem implDomainOf (s:ByteArray)(w:World)(hs:s.size≤1100000) :
  Calls Tryz.prog 190 #[.string s] w fun e w'=>e=.returned (.string (Ky.domP s))∧Below w.heap.size w w':=by
 have hA:=mkH (libLastByte s w hs)
 have hin:=Ky.lastTo_in s.data.toList s.data.toList.length
 have hll:s.data.toList.length=s.size:=by simp
 unfold Ky.domP
 obtain⟨z,hz⟩:∃z,Ky.last s.data.toList=z:=⟨_,rfl⟩
 rw[show Ky.lastTo s.data.toList s.data.toList.length=z from hz,hll] at hin
 rw[hz] at hA ⊢
 clear hz hll
 obtain⟨k,hk⟩:∃k:Nat,z+1=(k:Int):=⟨(z+1).toNat,by omega⟩
 have hks:k≤s.size:=by omega
 rw[hk,Int.toNat_natCast]
 have hw:=wrapK (k:Int) (by omega) (by omega)
 have f1:(k:Int)≤(s.size:Int):=by omega
 go_enter Tryz.func190,Tryz.ntmps190
 go_wp2_with fail
 refine hA.out.mono ?_
 rintro e w1 ⟨rfl,hb1⟩
 go_wp2
 go_ret
 exact⟨rfl,hb1⟩
theorem implIsKey (s:ByteArray)(m:Int)(w:World)(hs:s.size≤1048576)(hm:w.cell? ⟨0,0,none⟩=some (.int .i64 m)) :
  Calls Tryz.prog 166 #[.string s] w fun e w'=>e=.returned (.bool (Ky.ok s))∧Below w.heap.size w w':=by
 have hlt:=bcell_lt hm
 have hO:=mkH (implDomainOf s w (by omega))
 have hds:=Ky.domP_size s
 have hC:=mkH (fun w=>Tryz.strings_CutSuffix s (⟨#[64]⟩++Ky.domP s) w (by omega))
 have hN:=mkH (fun (w:World) (hm:w.cell? ⟨0,0,none⟩=some (.int .i64 m))=>implDomainName (Ky.domP s) m w (by omega) hm)
 have Hm:=mkH hm
 have hl1:¬9223372036854775807<(ByteArray.mk #[64]).size+(Ky.domP s).size:=by
  have:(ByteArray.mk #[64]).size=1:=rfl
  omega
 have hin:=Ky.lastTo_in s.data.toList s.data.toList.length
 have hl2:(Ky.loc s).size≤1100000:=by unfold Ky.loc;rw[ByteArray.size_extract];omega
 have hK:=mkH (fun (w:World) (hm:w.cell? ⟨0,0,none⟩=some (.int .i64 m))=>implKey ⟨#[]⟩ (Ky.loc s) (Ky.domP s) m w (by decide) hl2 (by omega) hm)
 clear hm
 by_cases h0:Ky.last s.data.toList = -1
 ·rw[Ky.ok_no s h0]
  have hno:=Ky.cut_no s h0
  rw[hno] at hC
  generalize Ky.domP s=d at *
  generalize Ky.loc s=lo at *
  generalize (ByteArray.mk (trimSuffix s.data.toList (⟨#[64]⟩++d).data.toList).toArray)=r at *
  clear h0 hno hin
  go_enter Tryz.func166,Tryz.ntmps166
  go_wp2_with fail
  refine hO.out.mono ?_
  rintro e w1 ⟨rfl,hb1⟩
  go_wp2_with first|(go_at_call 188;go_must (refine(hC.out _).mono ?_;rintro e w3 ⟨rfl,rfl⟩))
  go_ret
  exact⟨rfl,hb1⟩
 ·obtain⟨a,ha⟩:∃a:Nat,Ky.last s.data.toList=(a:Int):=⟨(Ky.last s.data.toList).toNat,by
   have:Ky.last s.data.toList=Ky.lastTo s.data.toList s.data.toList.length:=rfl
   omega⟩
  rw[Ky.ok_yes s a ha]
  obtain⟨c1,c2⟩:=Ky.cut_yes s a ha
  obtain⟨-,hpd,-⟩:=Ky.parts_back s a ha
  rw[c1,c2] at hC
  rw[← hpd]
  clear c1 c2 ha h0 hin hpd
  generalize Ky.domP s=d at *
  generalize Ky.loc s=lo at *
  generalize keyT ⟨#[]⟩ lo d=kt at *
  generalize Ky.dok d=b1 at *
  obtain⟨b2,hb2⟩:∃b2,(kt.toList==s.toList)=b2:=⟨_,rfl⟩
  rw[hb2]
  cases b1
  ·go_enter Tryz.func166,Tryz.ntmps166
   go_wp2_with fail
   refine hO.out.mono ?_
   rintro e w1 ⟨rfl,hb1⟩
   go_wp2_with first|(go_at_call 188;go_must (refine(hC.out _).mono ?_;rintro e w3 ⟨rfl,rfl⟩))|(go_at_call 101;go_must (refine(hN.out _ ((hb1.cell hlt).trans Hm.out)).mono ?_;rintro e w4 ⟨rfl,hb4⟩))
   go_ret
   exact⟨rfl,hb1.trans (hb4.mono hb1.size)⟩
  ·go_enter Tryz.func166,Tryz.ntmps166
   go_wp2_with fail
   refine hO.out.mono ?_
   rintro e w1 ⟨rfl,hb1⟩
   go_wp2_with first|(go_at_call 188;go_must (refine(hC.out _).mono ?_;rintro e w3 ⟨rfl,rfl⟩))|(go_at_call 101;go_must (refine(hN.out _ ((hb1.cell hlt).trans Hm.out)).mono ?_;rintro e w4 ⟨rfl,hb4⟩))|(go_at_call 191;go_must (refine(hK.out _ (((hb1.trans (hb4.mono hb1.size)).cell hlt).trans Hm.out)).mono ?_;rintro e w5 ⟨rfl,hb5⟩))
   go_ret
   rw[Bool.true_and]
   exact⟨rfl,(hb1.trans (hb4.mono hb1.size)).trans (hb5.mono (hb1.trans (hb4.mono hb1.size)).size)⟩
theorem implFormD (b:Bool)(w:World):Calls Tryz.prog 24 #[.bool b] w fun e w'=>e=.returned (.int .i64 (dcode b))∧w=w':=by
 cases b
 all_goals
  go_enter Tryz.func24,Tryz.ntmps24
  go_wp2
  go_ret
  exact⟨rfl,rfl⟩
open Go.RowKit Go.Lib Go.Maps
namespace Ky
def aok (a:GAlias):Bool:=ok a.name && (decide (a.toF.length≤100) && a.toF.all ok)
def asok (F:List GAlias):Bool:=decide (F.length≤100) && F.all aok
theorem all_drop {α:Type} (K:α→Bool)(F:List α)(k:Nat)(h:k<F.length):(F.drop k).all K=(K F[k] && (F.drop (k+1)).all K):=by
 rw[List.drop_eq_getElem_cons h,List.all_cons]
theorem all_end {α:Type} (K:α→Bool)(F:List α)(k:Nat)(h:F.length≤k):(F.drop k).all K=true:=by
 rw[List.drop_eq_nil_of_le h,List.all_nil]
end Ky
theorem specAliases (o:Option Addr)(F:List GAlias)(cap lo:Nat)(w:World)(hF:GAliassL lo w.heap.size w o F)(hlF:F.length≤1048576)(hfit:∀n ∈ F,n.fits 1048576) :
  Calls Tryz.prog 44 #[.slice o F.length cap] w fun e w'=>e=.returned (.bool (Ky.asok F))∧Below w.heap.size w w':=by
 obtain⟨R,hR⟩:∃R,Ky.asok F=R:=⟨_,rfl⟩
 rw[hR]
 by_cases h1:F.length≤100
 ·have b1:decide ((100:Int)<(F.length:Int))=false:=by simp;omega
  rw[Ky.asok,decide_eq_true h1,Bool.true_and] at hR
  replace hR:Hid ((F.drop 0).all Ky.aok=R):=hR
  have HF:=mkHid hF
  have Hfit:=mkHid hfit
  clear hF hfit
  go_enter Tryz.func44,Tryz.ntmps44
  go_wp2
  generalize hG:w.heap.size=G at *
  go_loopw [3] (fun iv wr=>∃ i:Nat,i≤F.length∧iv=.int .i64 i∧Hid ((F.drop i).all Ky.aok=R)∧Below G w wr) (fun iv _=>F.length-(Lib.intOf iv).toNat)
  case atStart=>exact⟨0,Nat.zero_le _,rfl,hR,hG ▸ Below.refl _ _⟩
  case round=>
   clear hR
   obtain⟨i,hi',rfl,hR,hb⟩:=hrel
   by_cases hlt:i<F.length
   ·obtain⟨a,v1,rfl,ha0,ha,hA0,hI⟩:=HF.out i hlt
    have hA:=hA0.same (Same.of_below (lo:=lo) hb (Nat.le_refl _)) (by rw[add_blockG];exact ha0) (by rw[add_blockG];exact ha)
    obtain⟨⟨a1,e1,rfl,t1⟩⟩:=hI
    have hst:Hid (R=(Ky.aok F[i] && (F.drop (i+1)).all Ky.aok)):=show _=_ from by rw[← hR.out];exact Ky.all_drop _ _ _ hlt
    obtain⟨f1,f2,f3⟩:=Hfit.out F[i] (List.getElem_mem hlt)
    have c0:=hA.c0
    have c1:=hA.c1
    have HA0:=mkHid hA0
    have T1:=mkHid t1
    have Hf3:=mkHid f3
    have cK:=mkHid (specKeyFault F[i].name wr f1)
    obtain⟨rest,hrest⟩:∃b,(F.drop (i+1)).all Ky.aok=b:=⟨_,rfl⟩
    rw[hrest] at hst
    have hsz:=hb.size
    have Hha:Hid (lo≤(a.add (i*2)).block∧(a.add (i*2)).block<G):=⟨by rw[add_blockG];exact ha0,by rw[add_blockG];exact ha⟩
    replace hrest:=mkHid hrest
    clear hA hA0 t1 f3 hR
    generalize F[i]=n at *
    cases hn:Ky.ok n.name
    ·rw[hn] at cK
     have hr:Hid (R=false):=show _=_ from by rw[hst.out,Ky.aok,hn,Bool.false_and,Bool.false_and]
     clear hn
     go_wp2_with fail
     refine cK.out.mono ?_
     rintro e w1 ⟨rfl,hb1⟩
     simp only[dcode]
     go_wp2
     go_ret
     rw[hr.out]
     first|exact⟨rfl,hb.trans (hb1.mono (hG ▸ hsz))⟩|(rw[hG];exact⟨rfl,hb.trans (hb1.mono (hG ▸ hsz))⟩)
    ·rw[hn] at cK
     go_wp2_with fail
     refine cK.out.mono ?_
     rintro e w1 ⟨rfl,hb1⟩
     simp only[dcode]
     have hbw:=hb.trans (hb1.mono (hG ▸ hsz))
     have hA1:=HA0.out.same (Same.of_below (lo:=lo) hbw (Nat.le_refl _)) Hha.out.1 Hha.out.2
     have d1:=hA1.c1
     clear cK hb1 hA1 hb c0 c1
     by_cases h2:n.toF.length≤100
     ·have b2:decide ((100:Int)<(n.toF.length:Int))=false:=by simp;omega
      have hin0:Hid (((n.toF.drop 0).all Ky.ok && rest)=R):=show _=_ from by rw[hst.out,Ky.aok,hn,decide_eq_true h2,Bool.true_and,Bool.true_and,List.drop_zero]
      clear hst hn
      go_wp2
      clear d1
      go_loopw [4] (fun kv wr=>∃ k:Nat,k≤n.toF.length∧kv=.int .i64 k∧Hid (((n.toF.drop k).all Ky.ok && rest)=R)∧Below G w wr) (fun kv _=>n.toF.length-(Lib.intOf kv).toNat)
      case atStart=>exact⟨0,Nat.zero_le _,rfl,hin0,hbw⟩
      case round=>
       clear hin0 hbw
       obtain⟨k,hk,rfl,hRk,hb⟩:=hrel
       have hA1:=HA0.out.same (Same.of_below (lo:=lo) hb (Nat.le_refl _)) Hha.out.1 Hha.out.2
       have d1:=hA1.c1
       have hsz:=hb.size
       by_cases hkl:k<n.toF.length
       ·obtain⟨b,rfl,hb0,hb1,ck⟩:=(T1.out.below hb (Nat.le_refl _)) k hkl
        have cT:=mkHid (specKeyFault n.toF[k] wr (Hf3.out _ (List.getElem_mem hkl)))
        have hst:Hid (R=(Ky.ok n.toF[k] && (n.toF.drop (k+1)).all Ky.ok && rest)):=show _=_ from by rw[← hRk.out,Ky.all_drop _ _ _ hkl]
        clear hRk hA1
        generalize n.toF[k]=t at *
        cases ht:Ky.ok t
        ·rw[ht] at cT
         have hr:Hid (R=false):=show _=_ from by rw[hst.out,ht];rfl
         clear ht
         go_wp2_with fail
         refine cT.out.mono ?_
         rintro e w2 ⟨rfl,hb2⟩
         simp only[dcode]
         go_wp2
         go_ret
         rw[hr.out]
         first|exact⟨rfl,hb.trans (hb2.mono (hG ▸ hsz))⟩|(rw[hG];exact⟨rfl,hb.trans (hb2.mono (hG ▸ hsz))⟩)
        ·rw[ht] at cT
         have hr:Hid (((n.toF.drop (k+1)).all Ky.ok && rest)=R):=show _=_ from by rw[hst.out,ht,Bool.true_and]
         clear ht
         go_wp2_with fail
         refine cT.out.mono ?_
         rintro e w2 ⟨rfl,hb2⟩
         simp only[dcode]
         go_wp2
         go_roundw
         case rel=>exact⟨k+1,by omega,by go_num,hr,hb.trans (hb2.mono (hG ▸ hsz))⟩
         case measure=>simp[Lib.intOf];omega
       ·have hr:Hid (rest=R):=show _=_ from by rw[← hRk.out,Ky.all_end _ _ _ (by omega),Bool.true_and]
        clear hRk
        go_wp2
        go_roundw
        case rel=>exact⟨i+1,by omega,by go_num,show _=_ from hrest.out.trans hr.out,hb⟩
        case measure=>simp[Lib.intOf];omega
     ·have b2:decide ((100:Int)<(n.toF.length:Int))=true:=by simp;omega
      have hr:Hid (R=false):=show _=_ from by rw[hst.out,Ky.aok,hn,decide_eq_false h2,Bool.false_and,Bool.and_false,Bool.false_and]
      clear hst hn
      go_wp2
      go_ret
      rw[hr.out]
      first|exact⟨rfl,hbw⟩|(rw[hG];exact⟨rfl,hbw⟩)
   ·have hr:Hid (R=true):=show _=_ from by rw[← hR.out];exact Ky.all_end _ _ _ (by omega)
    go_wp2
    go_ret
    rw[hr.out]
    first|exact⟨rfl,hb⟩|(rw[hG];exact⟨rfl,hb⟩)
 ·have b1:decide ((100:Int)<(F.length:Int))=true:=by simp;omega
  have hr:Hid (R=false):=show _=_ from by rw[← hR,Ky.asok,decide_eq_false h1,Bool.false_and]
  clear hF hfit hR h1
  go_enter Tryz.func44,Tryz.ntmps44
  go_wp2
  go_ret
  rw[hr.out]
  exact⟨rfl,Below.refl _ _⟩
theorem implNoKey (s:ByteArray)(mx:Int)(w:World)(hs:s.size≤1048576)(hm:w.cell? ⟨0,0,none⟩=some (.int .i64 mx)) :
  Calls Tryz.prog 168 #[.string s] w fun e w'=>e=.returned (.bool (!Ky.ok s))∧Below w.heap.size w w':=by
 have hK:=mkHid (implIsKey s mx w hs hm)
 clear hm
 generalize Ky.ok s=b at *
 go_enter Tryz.func168,Tryz.ntmps168
 go_wp2_with fail
 refine hK.out.mono ?_
 rintro e w2 ⟨rfl,hb⟩
 go_wp2
 go_ret
 exact⟨rfl,hb⟩
theorem implIndexQT (o:Option Addr)(F:List ByteArray)(cap lo:Nat)(mx:Int)(w:World)(hF:TxL lo w.heap.size w o F)(hl:F.length≤1048576)(hsz:∀t ∈ F,t.size≤1048576)(hm:w.cell? ⟨0,0,none⟩=some (.int .i64 mx)) :
  Calls Tryz.prog 192 #[.slice o F.length cap,.func (.func 168) #[] #[]] w fun e w'=>∃ i:Int,e=.returned (.int .i64 i)∧decide (0≤i) = !F.all Ky.ok∧Below w.heap.size w w':=by
 have hE:∀(args:Array Value) (w:World),(callFunc 168 args).run Tryz.prog w=.ok (.enter 168 args) w:=Go.Proofs.enters_of Tryz.func168 (by kernel_rfl) rfl
 have hlt0:=bcell_lt hm
 have HF:=mkHid hF
 have Hm:=mkHid hm
 have Hsz:=mkHid hsz
 clear hF hm hsz
 obtain⟨R,hR⟩:∃R,F.all Ky.ok=R:=⟨_,rfl⟩
 have HR:Hid ((F.drop 0).all Ky.ok=R):=hR
 rw[hR]
 clear hR
 go_enter Tryz.func192,Tryz.ntmps192
 go_wp2
 go_loopw [5,8] (fun _ iv wr=>∃ k:Nat,k≤F.length∧iv=.int .i64 k∧Hid ((F.drop k).all Ky.ok=R)∧Hid (Below w.heap.size w wr)) (fun _ iv _=>F.length-(Lib.intOf iv).toNat)
 case atStart=>exact⟨0,Nat.zero_le _,rfl,HR,Below.refl _ _⟩
 case round=>
  clear HR
  obtain⟨k,hk,rfl,hp,hB⟩:=hrel
  by_cases hlt:k<F.length
  ·obtain⟨a,rfl,ha1,ha2,d0⟩:=((HF.out.below hB.out (Nat.le_refl _)).mono (Nat.le_refl _) hB.out.size) k hlt
   have hst:=Ky.all_drop Ky.ok F k hlt
   rw[hp.out] at hst
   have cN:=mkHid (implNoKey F[k] mx wr (Hsz.out _ (List.getElem_mem hlt)) ((hB.out.cell hlt0).trans Hm.out))
   have Hst:=mkHid hst
   clear hst hp
   skip
   generalize Ky.ok F[k]=nb at *
   generalize F[k]=x at *
   go_wp2_with fail
   refine cN.out.mono ?_
   rintro e w1 ⟨rfl,hb1⟩
   have hB1:=mkHid (hB.out.trans (hb1.mono hB.out.size))
   clear cN hb1 hB
   cases nb
   ·have hR:R=false:=by rw[Hst.out,Bool.false_and]
    subst hR
    clear Hst
    go_wp2
    go_ret
    exact⟨k,rfl,by simp,hB1.out⟩
   ·have HN:Hid ((F.drop (k+1)).all Ky.ok=R):=by show _=_;rw[Hst.out,Bool.true_and]
    clear Hst
    go_wp2
    go_roundw
    case rel=>exact⟨k+1,by omega,by go_num,HN,hB1⟩
    case measure=>simp[Lib.intOf];omega
  ·have hR:R=true:=by rw[← hp.out,List.drop_eq_nil_of_le (by omega)];rfl
   subst hR
   clear hp
   go_wp2
   go_ret
   exact⟨-1,rfl,rfl,hB.out⟩
theorem implContainsQT (o:Option Addr)(F:List ByteArray)(cap lo:Nat)(mx:Int)(w:World)(hF:TxL lo w.heap.size w o F)(hl:F.length≤1048576)(hsz:∀t ∈ F,t.size≤1048576)(hm:w.cell? ⟨0,0,none⟩=some (.int .i64 mx)) :
  Calls Tryz.prog 167 #[.slice o F.length cap,.func (.func 168) #[] #[]] w fun e w'=>e=.returned (.bool (!F.all Ky.ok))∧Below w.heap.size w w':=by
 have hI:=mkHid (implIndexQT o F cap lo mx w hF hl hsz hm)
 clear hF hm hsz
 go_enter Tryz.func167,Tryz.ntmps167
 go_wp2_with fail
 refine hI.out.mono ?_
 rintro e w2 ⟨i,rfl,hi,hb⟩
 go_wp2
 go_ret
 exact⟨by rw[← hi];rfl,hb⟩
abbrev bxA (n:GAlias)(v:Value):Obj:=.cells #[.string n.name,v] 146
theorem boxA_cells (n:GAlias)(v:Value)(w w2:World)(hb:Below (w.alloc (bxA n v)).heap.size (w.alloc (bxA n v)) w2) :
  w2.cell? ⟨w.heap.size,0,none⟩=some (.string n.name)∧w2.cell? ⟨w.heap.size,1,none⟩=some v:=by
 refine⟨(hb.cell (p:=⟨w.heap.size,0,none⟩) (by simp)).trans ?_,(hb.cell (p:=⟨w.heap.size,1,none⟩) (by simp)).trans ?_⟩<;>simp
theorem implNoAlias (n:GAlias)(v:Value)(lo:Nat)(mx:Int)(w:World)(hI:GAliasIn lo w.heap.size w n v)(hf:n.fits 1048576)(hm:w.cell? ⟨0,0,none⟩=some (.int .i64 mx)) :
  Calls Tryz.prog 141 #[GAliasV n v] w fun e w'=>e=.returned (.bool (!Ky.aok n))∧Below w.heap.size w w':=by
 obtain⟨⟨a1,c1,rfl,T1⟩⟩:=hI
 obtain⟨f0,f1,f2⟩:=hf
 have hlt:=bcell_lt hm
 obtain⟨V,hV⟩:∃V,w.alloc (bxA n (.slice a1 n.toF.length c1))=V:=⟨_,rfl⟩
 have hbV:Below w.heap.size w V:=by rw[← hV];exact(Below.refl _ _).alloc (Nat.le_refl _) _
 have hmV:V.cell? ⟨0,0,none⟩=some (.int .i64 mx):=(hbV.cell hlt).trans hm
 have hK:=mkHid (implIsKey n.name mx V f0 hmV)
 have HT:=mkHid T1
 have Hm:=mkHid hm
 have HC:=mkHid (fun (W:World) (hb:Below V.heap.size V W)=>boxA_cells n (.slice a1 n.toF.length c1) w W (by rw[hV];exact hb))
 have HQ:=mkHid (fun (W:World) (hb:Below w.heap.size w W)=>implContainsQT a1 n.toF c1 lo mx W ((HT.out.below hb (Nat.le_refl _)).mono (Nat.le_refl _) hb.size) f1 f2 ((hb.cell hlt).trans Hm.out))
 clear hm hmV T1 f2
 unfold GAliasV Ky.aok
 have HV:=mkHid hV
 have HbV:=mkHid hbV
 clear hV hbV
 cases x1:Ky.ok n.name
 ·rw[x1] at hK
  clear x1
  go_enter Tryz.func141,Tryz.ntmps141
  go_wp2_with (go_at_call 166;go_must (rw[HV.out];refine hK.out.mono ?_;rintro e w2 ⟨rfl,hb2⟩;obtain⟨c0,c1⟩:=HC.out w2 hb2))
  go_ret
  exact⟨rfl,HbV.out.trans (hb2.mono HbV.out.size)⟩
 ·rw[x1] at hK
  clear x1
  by_cases x2:n.toF.length≤100
  ·have y2:decide ((100:Int)<(n.toF.length:Int))=false:=by simp;omega
   rw[decide_eq_true x2]
   generalize n.toF.all Ky.ok=b at *
   go_enter Tryz.func141,Tryz.ntmps141
   go_wp2_with first|(go_at_call 166;go_must (rw[HV.out];refine hK.out.mono ?_;rintro e w2 ⟨rfl,hb2⟩;obtain⟨c0,c1⟩:=HC.out w2 hb2;have hbw:=mkHid (HbV.out.trans (hb2.mono HbV.out.size))))|(go_at_call 167;go_must (refine(HQ.out _ hbw.out).mono ?_;rintro e w3 ⟨rfl,hb3⟩))
   go_ret
   exact⟨by simp,hbw.out.trans (hb3.mono hbw.out.size)⟩
  ·have y2:decide ((100:Int)<(n.toF.length:Int))=true:=by simp;omega
   rw[decide_eq_false x2]
   go_enter Tryz.func141,Tryz.ntmps141
   go_wp2_with (go_at_call 166;go_must (rw[HV.out];refine hK.out.mono ?_;rintro e w2 ⟨rfl,hb2⟩;obtain⟨c0,c1⟩:=HC.out w2 hb2))
   go_ret
   exact⟨rfl,HbV.out.trans (hb2.mono HbV.out.size)⟩
theorem implIndexQA (o:Option Addr)(F:List GAlias)(cap lo:Nat)(mx:Int)(w:World)(hF:GAliassL lo w.heap.size w o F)(hl:F.length≤1048576)(hsz:∀t ∈ F,t.fits 1048576)(hm:w.cell? ⟨0,0,none⟩=some (.int .i64 mx)) :
  Calls Tryz.prog 165 #[.slice o F.length cap,.func (.func 141) #[] #[]] w fun e w'=>∃ i:Int,e=.returned (.int .i64 i)∧decide (0≤i) = !F.all Ky.aok∧Below w.heap.size w w':=by
 have hE:∀(args:Array Value) (w:World),(callFunc 141 args).run Tryz.prog w=.ok (.enter 141 args) w:=Go.Proofs.enters_of Tryz.func141 (by kernel_rfl) rfl
 have hlt0:=bcell_lt hm
 have HF:=mkHid hF
 have Hm:=mkHid hm
 have Hsz:=mkHid hsz
 clear hF hm hsz
 obtain⟨R,hR⟩:∃R,F.all Ky.aok=R:=⟨_,rfl⟩
 have HR:Hid ((F.drop 0).all Ky.aok=R):=hR
 rw[hR]
 clear hR
 go_enter Tryz.func165,Tryz.ntmps165
 go_wp2
 go_loopw [5,8] (fun _ iv wr=>∃ k:Nat,k≤F.length∧iv=.int .i64 k∧Hid ((F.drop k).all Ky.aok=R)∧Hid (Below w.heap.size w wr)) (fun _ iv _=>F.length-(Lib.intOf iv).toNat)
 case atStart=>exact⟨0,Nat.zero_le _,rfl,HR,Below.refl _ _⟩
 case round=>
  clear HR
  obtain⟨k,hk,rfl,hp,hB⟩:=hrel
  by_cases hlt:k<F.length
  ·obtain⟨a,v1,rfl,ha1,ha2,hAt,hIn⟩:=((HF.out.below hB.out (Nat.le_refl _)).mono (Nat.le_refl _) hB.out.size) k hlt
   have hst:=Ky.all_drop Ky.aok F k hlt
   rw[hp.out] at hst
   have cN:=mkHid (implNoAlias F[k] v1 lo mx wr hIn (Hsz.out _ (List.getElem_mem hlt)) ((hB.out.cell hlt0).trans Hm.out))
   have d0:=hAt.c0
   have d1:=hAt.c1
   clear hAt hIn
   have Hst:=mkHid hst
   clear hst hp
   unfold GAliasV at cN
   generalize Ky.aok F[k]=nb at *
   generalize F[k]=x at *
   go_wp2_with fail
   refine cN.out.mono ?_
   rintro e w1 ⟨rfl,hb1⟩
   have hB1:=mkHid (hB.out.trans (hb1.mono hB.out.size))
   clear cN hb1 hB
   cases nb
   ·have hR:R=false:=by rw[Hst.out,Bool.false_and]
    subst hR
    clear Hst
    go_wp2
    go_ret
    exact⟨k,rfl,by simp,hB1.out⟩
   ·have HN:Hid ((F.drop (k+1)).all Ky.aok=R):=by show _=_;rw[Hst.out,Bool.true_and]
    clear Hst
    go_wp2
    go_roundw
    case rel=>exact⟨k+1,by omega,by go_num,HN,hB1⟩
    case measure=>simp[Lib.intOf];omega
  ·have hR:R=true:=by rw[← hp.out,List.drop_eq_nil_of_le (by omega)];rfl
   subst hR
   clear hp
   go_wp2
   go_ret
   exact⟨-1,rfl,rfl,hB.out⟩
theorem implContainsQA (o:Option Addr)(F:List GAlias)(cap lo:Nat)(mx:Int)(w:World)(hF:GAliassL lo w.heap.size w o F)(hl:F.length≤1048576)(hsz:∀t ∈ F,t.fits 1048576)(hm:w.cell? ⟨0,0,none⟩=some (.int .i64 mx)) :
  Calls Tryz.prog 140 #[.slice o F.length cap,.func (.func 141) #[] #[]] w fun e w'=>e=.returned (.bool (!F.all Ky.aok))∧Below w.heap.size w w':=by
 have hI:=mkHid (implIndexQA o F cap lo mx w hF hl hsz hm)
 clear hF hm hsz
 go_enter Tryz.func140,Tryz.ntmps140
 go_wp2_with fail
 refine hI.out.mono ?_
 rintro e w2 ⟨i,rfl,hi,hb⟩
 go_wp2
 go_ret
 exact⟨by rw[← hi];rfl,hb⟩
theorem implAreAliases (o:Option Addr)(F:List GAlias)(cap lo:Nat)(mx:Int)(w:World)(hF:GAliassL lo w.heap.size w o F)(hl:F.length≤1048576)(hsz:∀t ∈ F,t.fits 1048576)(hm:w.cell? ⟨0,0,none⟩=some (.int .i64 mx)) :
  Calls Tryz.prog 106 #[.slice o F.length cap] w fun e w'=>e=.returned (.bool (Ky.asok F))∧Below w.heap.size w w':=by
 have hI:=mkHid (implContainsQA o F cap lo mx w hF hl hsz hm)
 clear hF hm hsz
 unfold Ky.asok
 by_cases x:F.length≤100
 ·have y:decide ((F.length:Int)≤100)=true:=by simp;omega
  rw[decide_eq_true x]
  generalize F.all Ky.aok=b at *
  go_enter Tryz.func106,Tryz.ntmps106
  go_wp2_with (go_at_call 140;go_must (refine hI.out.mono ?_;rintro e w2 ⟨rfl,hb2⟩))
  go_ret
  exact⟨by simp,hb2⟩
 ·have y:decide ((F.length:Int)≤100)=false:=by simp;omega
  rw[decide_eq_false x]
  clear hI
  go_enter Tryz.func106,Tryz.ntmps106
  go_wp2
  go_ret
  exact⟨rfl,Below.refl _ _⟩
namespace Ky
def mok (m:GMx):Bool:=dok m.domain && (dok m.host && (decide (0≤m.prefer) && decide (m.prefer≤1000)))
def lok (z:Int):Bool:=decide (1≤z) && decide (z≤253402300799)
def t4 (n:GQueueConfig):Bool:=decide (n.mx.length≤100)
def t5 (n:GQueueConfig):Bool:=decide (1≤n.delays.length)
def t6 (n:GQueueConfig):Bool:=decide (n.delays.length≤20)
def t7 (n:GQueueConfig):Bool:=decide (0≤n.maxAge)
def t8 (n:GQueueConfig):Bool:=decide (n.maxAge≤253402300799)
def t2 (n:GQueueConfig):Bool:=(low n.locF).toList==n.locF.toList
def qok (n:GQueueConfig):Bool:=dok n.locF && (t2 n && (asok n.aliases && (t4 n && (t5 n && (t6 n && (t7 n && (t8 n && (n.mx.all mok && n.delays.all lok))))))))
end Ky
abbrev plQueueFault (n:GQueueConfig):Int:=dcode (Ky.qok n)
theorem specQueueFault (n:GQueueConfig)(v1 v2 v3:Value)(lo:Nat)(w:World)(hI:GQueueConfigIn lo w.heap.size w n v1 v2 v3)(hf:n.fits 1048576) :
  Calls Tryz.prog 14 #[GQueueConfigV n v1 v2 v3] w fun e w'=>e=.returned (.int .i64 (plQueueFault n))∧Below w.heap.size w w':=by
 obtain⟨⟨a1,e1,rfl,s1⟩,⟨a2,e2,rfl,s2⟩,⟨a3,e3,rfl,s3⟩⟩:=hI
 obtain⟨f0,f1,f1b,f2,f2b,f3⟩:=hf
 unfold GQueueConfigV plQueueFault
 obtain⟨V,hV⟩:∃V,V=w.alloc (.cells #[.string n.locF,.slice a1 n.aliases.length e1,.slice a2 n.mx.length e2,.slice a3 n.delays.length e3,.int .i64 n.maxAge] 44):=⟨_,rfl⟩
 have hbV:Below w.heap.size w V:=by rw[hV];exact(Below.refl _ _).alloc (Nat.le_refl _) _
 have c0:V.cell? ⟨w.heap.size,0,none⟩=some (.string n.locF):=by rw[hV];simp
 have c1:V.cell? ⟨w.heap.size,1,none⟩=some (.slice a1 n.aliases.length e1):=by rw[hV];simp
 have c2:V.cell? ⟨w.heap.size,2,none⟩=some (.slice a2 n.mx.length e2):=by rw[hV];simp
 have c3:V.cell? ⟨w.heap.size,3,none⟩=some (.slice a3 n.delays.length e3):=by rw[hV];simp
 have c4:V.cell? ⟨w.heap.size,4,none⟩=some (.int .i64 n.maxAge):=by rw[hV];simp
 have hgl:w.heap.size<V.heap.size:=by rw[hV];simp
 have k0:=cell_regrown c0
 have k1:=cell_regrown c1
 have k2:=cell_regrown c2
 have k3:=cell_regrown c3
 have k4:=cell_regrown c4
 have cD:Hid (∀d os,Calls Tryz.prog 40 #[.string n.locF] (Go.Sort.grow (redrawn V d) os) fun e w''=>e=.returned (.bool (Ky.dok n.locF))∧∃p:Regrown,w''=Go.Sort.grow (redrawn V p.d) p.os):=fun d os=>Calls.regrown_of (specKDomain n.locF _ (by omega))
 have cA:Hid (∀d os,Calls Tryz.prog 44 #[.slice a1 n.aliases.length e1] (Go.Sort.grow (redrawn V d) os) fun e w''=>e=.returned (.bool (Ky.asok n.aliases))∧∃p:Regrown,w''=Go.Sort.grow (redrawn V p.d) p.os):=fun d os=>Calls.regrown_of (specAliases a1 n.aliases e1 lo _ ((s1.below (hbV.trans ((below_regrown V d os).mono hbV.size)) (Nat.le_refl _)).mono (Nat.le_refl _) (Nat.le_trans hbV.size (below_regrown V d os).size)) f1 f1b)
 have cL:Hid (Ky.dok n.locF=true→∀d os,Calls Tryz.prog 18 #[.string n.locF] (Go.Sort.grow (redrawn V d) os) fun e w''=>e=.returned (.string (Ky.low n.locF))∧∃p:Regrown,w''=Go.Sort.grow (redrawn V p.d) p.os):=fun h d os=>Calls.regrown_of (specLower n.locF _ (by have:=Ky.dok_size _ h;omega))
 obtain⟨R,hR⟩:∃R,dcode (Ky.qok n)=R:=⟨_,rfl⟩
 rw[hR]
 replace hR:=mkHid hR
 have S2:=mkHid s2
 have S3:=mkHid s3
 have F2:=mkHid f2b
 replace hV:=mkHid hV
 clear s1 s2 s3 f1b f2b
 cases x0:Ky.dok n.locF
 ·rw[x0] at cD
  have hr:Hid (R=1):=show _=_ from by rw[← hR.out,Ky.qok,x0];simp only[Bool.false_and];rfl
  clear x0 hR cL
  go_enter Tryz.func14,Tryz.ntmps14
  go_wp2
  rw[← hV.out]
  refine wp_region_quiet_below (by kernel_rfl) (by kernel_rfl) ?_
  repeat (go_big_quiet_step (first|exact cD.out _ _))
  refine wpQuiet_nil ?_
  intro _ hw'
  obtain⟨⟨dq,osq⟩,hw''⟩:=hw'
  subst hw''
  go_wp2
  go_ret
  rw[hr.out]
  exact⟨rfl,hbV.trans ((below_regrown V dq osq).mono hbV.size)⟩
 ·rw[x0] at cD
  have cL2:Hid (∀d os,Calls Tryz.prog 18 #[.string n.locF] (Go.Sort.grow (redrawn V d) os) fun e w''=>e=.returned (.string (Ky.low n.locF))∧∃p:Regrown,w''=Go.Sort.grow (redrawn V p.d) p.os):=cL.out x0
  cases x1:Ky.t2 n
  ·have y1:((Ky.low n.locF).toList==n.locF.toList)=false:=x1
   have hr:Hid (R=1):=show _=_ from by rw[← hR.out,Ky.qok,x0,x1];simp only[Bool.true_and,Bool.false_and];rfl
   clear x0 x1 hR cL
   go_enter Tryz.func14,Tryz.ntmps14
   go_wp2
   rw[← hV.out]
   refine wp_region_quiet_below (by kernel_rfl) (by kernel_rfl) ?_
   repeat (go_big_quiet_step (first|exact cD.out _ _|exact cL2.out _ _))
   refine wpQuiet_nil ?_
   intro _ hw'
   obtain⟨⟨dq,osq⟩,hw''⟩:=hw'
   subst hw''
   go_wp2
   go_ret
   rw[hr.out]
   exact⟨rfl,hbV.trans ((below_regrown V dq osq).mono hbV.size)⟩
  ·have y1:((Ky.low n.locF).toList==n.locF.toList)=true:=x1
   cases x2:Ky.asok n.aliases
   ·rw[x2] at cA
    have hr:Hid (R=1):=show _=_ from by rw[← hR.out,Ky.qok,x0,x1,x2];simp only[Bool.true_and,Bool.false_and];rfl
    clear x0 x1 x2 hR cL
    go_enter Tryz.func14,Tryz.ntmps14
    go_wp2
    rw[← hV.out]
    refine wp_region_quiet_below (by kernel_rfl) (by kernel_rfl) ?_
    repeat (go_big_quiet_step (first|exact cD.out _ _|exact cL2.out _ _|exact cA.out _ _))
    refine wpQuiet_nil ?_
    intro _ hw'
    obtain⟨⟨dq,osq⟩,hw''⟩:=hw'
    subst hw''
    go_wp2
    go_ret
    rw[hr.out]
    exact⟨rfl,hbV.trans ((below_regrown V dq osq).mono hbV.size)⟩
   ·rw[x2] at cA
    cases x3:Ky.t4 n
    ·have y3:decide ((100:Int)<(n.mx.length:Int))=true:=by have:=of_decide_eq_false (show decide (n.mx.length≤100)=false from x3);exact decide_eq_true (by omega)
     have hr:Hid (R=1):=show _=_ from by rw[← hR.out,Ky.qok,x0,x1,x2,x3];simp only[Bool.true_and,Bool.false_and];rfl
     clear x0 x1 x2 x3 hR cL
     go_enter Tryz.func14,Tryz.ntmps14
     go_wp2
     rw[← hV.out]
     refine wp_region_quiet_below (by kernel_rfl) (by kernel_rfl) ?_
     repeat (go_big_quiet_step (first|exact cD.out _ _|exact cL2.out _ _|exact cA.out _ _))
     refine wpQuiet_nil ?_
     intro _ hw'
     obtain⟨⟨dq,osq⟩,hw''⟩:=hw'
     subst hw''
     go_wp2
     go_ret
     rw[hr.out]
     exact⟨rfl,hbV.trans ((below_regrown V dq osq).mono hbV.size)⟩
    ·have y3:decide ((100:Int)<(n.mx.length:Int))=false:=by have:=of_decide_eq_true (show decide (n.mx.length≤100)=true from x3);exact decide_eq_false (by omega)
     cases x4:Ky.t5 n
     ·have y4:decide ((n.delays.length:Int)<1)=true:=by have:=of_decide_eq_false (show decide (1≤n.delays.length)=false from x4);exact decide_eq_true (by omega)
      have hr:Hid (R=1):=show _=_ from by rw[← hR.out,Ky.qok,x0,x1,x2,x3,x4];simp only[Bool.true_and,Bool.false_and];rfl
      clear x0 x1 x2 x3 x4 hR cL
      go_enter Tryz.func14,Tryz.ntmps14
      go_wp2
      rw[← hV.out]
      refine wp_region_quiet_below (by kernel_rfl) (by kernel_rfl) ?_
      repeat (go_big_quiet_step (first|exact cD.out _ _|exact cL2.out _ _|exact cA.out _ _))
      refine wpQuiet_nil ?_
      intro _ hw'
      obtain⟨⟨dq,osq⟩,hw''⟩:=hw'
      subst hw''
      go_wp2
      go_ret
      rw[hr.out]
      exact⟨rfl,hbV.trans ((below_regrown V dq osq).mono hbV.size)⟩
     ·have y4:decide ((n.delays.length:Int)<1)=false:=by have:=of_decide_eq_true (show decide (1≤n.delays.length)=true from x4);exact decide_eq_false (by omega)
      cases x5:Ky.t6 n
      ·have y5:decide ((20:Int)<(n.delays.length:Int))=true:=by have:=of_decide_eq_false (show decide (n.delays.length≤20)=false from x5);exact decide_eq_true (by omega)
       have hr:Hid (R=1):=show _=_ from by rw[← hR.out,Ky.qok,x0,x1,x2,x3,x4,x5];simp only[Bool.true_and,Bool.false_and];rfl
       clear x0 x1 x2 x3 x4 x5 hR cL
       go_enter Tryz.func14,Tryz.ntmps14
       go_wp2
       rw[← hV.out]
       refine wp_region_quiet_below (by kernel_rfl) (by kernel_rfl) ?_
       repeat (go_big_quiet_step (first|exact cD.out _ _|exact cL2.out _ _|exact cA.out _ _))
       refine wpQuiet_nil ?_
       intro _ hw'
       obtain⟨⟨dq,osq⟩,hw''⟩:=hw'
       subst hw''
       go_wp2
       go_ret
       rw[hr.out]
       exact⟨rfl,hbV.trans ((below_regrown V dq osq).mono hbV.size)⟩
      ·have y5:decide ((20:Int)<(n.delays.length:Int))=false:=by have:=of_decide_eq_true (show decide (n.delays.length≤20)=true from x5);exact decide_eq_false (by omega)
       cases x6:Ky.t7 n
       ·have y6:decide (n.maxAge<0)=true:=by have:=of_decide_eq_false (show decide (0≤n.maxAge)=false from x6);exact decide_eq_true (by omega)
        have hr:Hid (R=1):=show _=_ from by rw[← hR.out,Ky.qok,x0,x1,x2,x3,x4,x5,x6];simp only[Bool.true_and,Bool.false_and];rfl
        clear x0 x1 x2 x3 x4 x5 x6 hR cL
        go_enter Tryz.func14,Tryz.ntmps14
        go_wp2
        rw[← hV.out]
        refine wp_region_quiet_below (by kernel_rfl) (by kernel_rfl) ?_
        repeat (go_big_quiet_step (first|exact cD.out _ _|exact cL2.out _ _|exact cA.out _ _))
        refine wpQuiet_nil ?_
        intro _ hw'
        obtain⟨⟨dq,osq⟩,hw''⟩:=hw'
        subst hw''
        go_wp2
        go_ret
        rw[hr.out]
        exact⟨rfl,hbV.trans ((below_regrown V dq osq).mono hbV.size)⟩
       ·have y6:decide (n.maxAge<0)=false:=by have:=of_decide_eq_true (show decide (0≤n.maxAge)=true from x6);exact decide_eq_false (by omega)
        cases x7:Ky.t8 n
        ·have y7:decide ((253402300799:Int)<n.maxAge)=true:=by have:=of_decide_eq_false (show decide (n.maxAge≤253402300799)=false from x7);exact decide_eq_true (by omega)
         have hr:Hid (R=1):=show _=_ from by rw[← hR.out,Ky.qok,x0,x1,x2,x3,x4,x5,x6,x7];simp only[Bool.true_and,Bool.false_and];rfl
         clear x0 x1 x2 x3 x4 x5 x6 x7 hR cL
         go_enter Tryz.func14,Tryz.ntmps14
         go_wp2
         rw[← hV.out]
         refine wp_region_quiet_below (by kernel_rfl) (by kernel_rfl) ?_
         repeat (go_big_quiet_step (first|exact cD.out _ _|exact cL2.out _ _|exact cA.out _ _))
         refine wpQuiet_nil ?_
         intro _ hw'
         obtain⟨⟨dq,osq⟩,hw''⟩:=hw'
         subst hw''
         go_wp2
         go_ret
         rw[hr.out]
         exact⟨rfl,hbV.trans ((below_regrown V dq osq).mono hbV.size)⟩
        ·have y7:decide ((253402300799:Int)<n.maxAge)=false:=by have:=of_decide_eq_true (show decide (n.maxAge≤253402300799)=true from x7);exact decide_eq_false (by omega)
         have hR2:Hid (dcode (n.mx.all Ky.mok && n.delays.all Ky.lok)=R):=show _=_ from by rw[← hR.out,Ky.qok,x0,x1,x2,x3,x4,x5,x6,x7];simp only[Bool.true_and]
         clear x0 x1 x2 x3 x4 x5 x6 x7 hR cL
         go_enter Tryz.func14,Tryz.ntmps14
         go_wp2
         rw[← hV.out]
         refine wp_region_quiet_below (by kernel_rfl) (by kernel_rfl) ?_
         repeat (go_big_quiet_step (first|exact cD.out _ _|exact cL2.out _ _|exact cA.out _ _))
         refine wpQuiet_nil ?_
         intro _ hw'
         obtain⟨⟨dq,osq⟩,hw''⟩:=hw'
         subst hw''
         have hbq:=below_regrown V dq osq
         have hbw:=hbV.trans (hbq.mono hbV.size)
         have p2:=(hbq.cell (p:=⟨w.heap.size,2,none⟩) hgl).trans c2
         have p3:=(hbq.cell (p:=⟨w.heap.size,3,none⟩) hgl).trans c3
         have hgq:w.heap.size<(Go.Sort.grow (redrawn V dq) osq).heap.size:=Nat.lt_of_lt_of_le hgl hbq.size
         generalize Go.Sort.grow (redrawn V dq) osq=W at *
         clear c0 c1 c2 c3 c4 k0 k1 k2 k3 k4 cD cL2 cA hbq hV hbV hgl
         go_wp2
         generalize hG:w.heap.size=G at *
         go_loopw [3] (fun iv wr=>∃ i:Nat,i≤n.mx.length∧iv=.int .i64 i∧Hid (dcode ((n.mx.drop i).all Ky.mok && n.delays.all Ky.lok)=R)∧Hid (Below W.heap.size W wr)) (fun iv _=>n.mx.length-(Lib.intOf iv).toNat)
         case atStart=>exact⟨0,Nat.zero_le _,rfl,hR2,Below.refl _ _⟩
         case round=>
          clear hR2
          obtain⟨i,hi',rfl,hRi,hb⟩:=hrel
          have q2:=(hb.out.cell (p:=⟨G,2,none⟩) hgq).trans p2
          have q3:=(hb.out.cell (p:=⟨G,3,none⟩) hgq).trans p3
          by_cases hlt:i<n.mx.length
          ·obtain⟨a,rfl,ha0,ha,hA0⟩:=S2.out i hlt
           have Hha:Hid (lo≤(a.add (i*3)).block∧(a.add (i*3)).block<G):=⟨by rw[add_blockG];exact ha0,by rw[add_blockG];exact ha⟩
           have hWG:G≤W.heap.size:=Nat.le_of_lt hgq
           have hbG:=mkHid (hbw.trans (hb.out.mono hWG))
           have hA:=hA0.same (Same.of_below (lo:=lo) hbG.out (Nat.le_refl _)) Hha.out.1 Hha.out.2
           have HA0:=mkHid hA0
           have d0:=hA.c0
           have d1:=hA.c1
           have d2:=hA.c2
           obtain⟨g1,g2⟩:=F2.out n.mx[i] (List.getElem_mem hlt)
           have hst:Hid (dcode (Ky.mok n.mx[i] && (n.mx.drop (i+1)).all Ky.mok && n.delays.all Ky.lok)=R):=show _=_ from by rw[← hRi.out,Ky.all_drop _ _ _ hlt]
           have cX:=mkHid (specKDomain n.mx[i].domain wr (by omega))
           have cY:=mkHid (fun w'=>specKDomain n.mx[i].host w' (by omega))
           have hs2:=hb.out.size
           clear hA hA0 hRi
           generalize n.mx[i]=m at *
           cases x1:Ky.dok m.domain
           ·rw[x1] at cX
            have hr:Hid (R=1):=show _=_ from by rw[← hst.out,Ky.mok,x1];rfl
            clear x1 hst
            go_wp2_with fail
            refine cX.out.mono ?_
            rintro e w1 ⟨rfl,hb1⟩
            go_wp2
            go_ret
            rw[hr.out]
            first|exact⟨rfl,hbG.out.trans (hb1.mono (Nat.le_trans hWG hs2))⟩|(rw[hG];exact⟨rfl,hbG.out.trans (hb1.mono (Nat.le_trans hWG hs2))⟩)
           ·rw[x1] at cX
            cases x2:Ky.dok m.host
            ·rw[x2] at cY
             have hr:Hid (R=1):=show _=_ from by rw[← hst.out,Ky.mok,x1,x2];rfl
             clear x1 x2 hst
             go_wp2_with fail
             refine cX.out.mono ?_
             rintro e w1 ⟨rfl,hb1⟩
             have hb2:=mkHid (hbG.out.trans (hb1.mono (Nat.le_trans hWG hs2)))
             have r2:=(hb1.cell (p:=⟨G,2,none⟩) (Nat.lt_of_lt_of_le hgq hs2)).trans q2
             have r3:=(hb1.cell (p:=⟨G,3,none⟩) (Nat.lt_of_lt_of_le hgq hs2)).trans q3
             have hA1:=HA0.out.same (Same.of_below (lo:=lo) hb2.out (Nat.le_refl _)) Hha.out.1 Hha.out.2
             have j1:=hA1.c1
             have j2:=hA1.c2
             have hs3:=Nat.le_trans (Nat.le_trans hWG hs2) hb1.size
             clear hb1 q2 q3 d0 d1 d2 cX hA1
             go_wp2_with fail
             refine(cY.out w1).mono ?_
             rintro e w2 ⟨rfl,hb3⟩
             go_wp2
             go_ret
             rw[hr.out]
             first|exact⟨rfl,hb2.out.trans (hb3.mono hs3)⟩|(rw[hG];exact⟨rfl,hb2.out.trans (hb3.mono hs3)⟩)
            ·rw[x2] at cY
             go_wp2_with fail
             refine cX.out.mono ?_
             rintro e w1 ⟨rfl,hb1⟩
             have hbW1:=mkHid (hb.out.trans (hb1.mono hs2))
             have hb2:=mkHid (hbG.out.trans (hb1.mono (Nat.le_trans hWG hs2)))
             have r2:=(hb1.cell (p:=⟨G,2,none⟩) (Nat.lt_of_lt_of_le hgq hs2)).trans q2
             have hA1:=HA0.out.same (Same.of_below (lo:=lo) hb2.out (Nat.le_refl _)) Hha.out.1 Hha.out.2
             have j1:=hA1.c1
             have j2:=hA1.c2
             have hs3:=Nat.le_trans hs2 hb1.size
             clear hb1 q2 q3 d0 d1 d2 cX hA1
             go_wp2_with fail
             refine(cY.out w1).mono ?_
             rintro e w2 ⟨rfl,hb3⟩
             have hbW2:=mkHid (hbW1.out.trans (hb3.mono hs3))
             have hb4:=mkHid (hb2.out.trans (hb3.mono (Nat.le_trans hWG hs3)))
             have r2':=(hb3.cell (p:=⟨G,2,none⟩) (Nat.lt_of_lt_of_le hgq hs3)).trans r2
             have hA2:=HA0.out.same (Same.of_below (lo:=lo) hb4.out (Nat.le_refl _)) Hha.out.1 Hha.out.2
             have l1:=hA2.c1
             clear hb3 r2 j1 j2 cY hA2
             by_cases x3:0≤m.prefer
             ·have y3:decide (m.prefer<0)=false:=by simp;omega
              by_cases x4:m.prefer≤1000
              ·have y4:decide ((1000:Int)<m.prefer)=false:=by simp;omega
               have hr:Hid (dcode ((n.mx.drop (i+1)).all Ky.mok && n.delays.all Ky.lok)=R):=show _=_ from by rw[← hst.out,Ky.mok,x1,x2,decide_eq_true x3,decide_eq_true x4];rfl
               clear x1 x2 hst
               go_wp2
               go_roundw
               case rel=>exact⟨i+1,by omega,by go_num,hr,hbW2⟩
               case measure=>simp[Lib.intOf];omega
              ·have y4:decide ((1000:Int)<m.prefer)=true:=by simp;omega
               have hr:Hid (R=1):=show _=_ from by rw[← hst.out,Ky.mok,x1,x2,decide_eq_false x4,Bool.and_false];rfl
               clear x1 x2 hst
               go_wp2
               go_ret
               rw[hr.out]
               first|exact⟨rfl,hb4.out⟩|(rw[hG];exact⟨rfl,hb4.out⟩)
             ·have y3:decide (m.prefer<0)=true:=by simp;omega
              have hr:Hid (R=1):=show _=_ from by rw[← hst.out,Ky.mok,x1,x2,decide_eq_false x3,Bool.false_and];rfl
              clear x1 x2 hst
              go_wp2
              go_ret
              rw[hr.out]
              first|exact⟨rfl,hb4.out⟩|(rw[hG];exact⟨rfl,hb4.out⟩)
          ·have hR3:Hid (dcode ((n.delays.drop 0).all Ky.lok)=R):=show _=_ from by rw[← hRi.out,Ky.all_end Ky.mok n.mx i (by omega),Bool.true_and,List.drop_zero]
           have hWG:G≤W.heap.size:=Nat.le_of_lt hgq
           have hbG:=mkHid (hbw.trans (hb.out.mono hWG))
           clear hRi hb
           obtain⟨V2,hV2⟩:∃V2,V2=wr:=⟨_,rfl⟩
           subst hV2
           go_wp2
           go_loopw [4] (fun kv wr2=>∃ k:Nat,k≤n.delays.length∧kv=.int .i64 k∧Hid (dcode ((n.delays.drop k).all Ky.lok)=R)∧wr2=V2) (fun kv _=>n.delays.length-(Lib.intOf kv).toNat)
           case atStart=>exact⟨0,Nat.zero_le _,rfl,hR3,rfl⟩
           case round=>
            clear hR3
            obtain⟨k,hk,rfl,hRk,rfl⟩:=hrel
            by_cases hkl:k<n.delays.length
            ·obtain⟨b,rfl,hb0,hb1,ck⟩:=(S3.out.below hbG.out (Nat.le_refl _)) k hkl
             have hst:Hid (dcode (Ky.lok n.delays[k] && (n.delays.drop (k+1)).all Ky.lok)=R):=show _=_ from by rw[← hRk.out,Ky.all_drop _ _ _ hkl]
             clear hRk
             generalize n.delays[k]=z at *
             by_cases z1:1≤z
             ·have y1:decide (z<1)=false:=by simp;omega
              by_cases z2:z≤253402300799
              ·have y2:decide ((253402300799:Int)<z)=false:=by simp;omega
               have hr:Hid (dcode ((n.delays.drop (k+1)).all Ky.lok)=R):=show _=_ from by rw[← hst.out,Ky.lok,decide_eq_true z1,decide_eq_true z2];rfl
               go_wp2
               go_roundw
               case rel=>exact⟨k+1,by omega,by go_num,hr,trivial⟩
               case measure=>simp[Lib.intOf];omega
              ·have y2:decide ((253402300799:Int)<z)=true:=by simp;omega
               have hr:Hid (R=1):=show _=_ from by rw[← hst.out,Ky.lok,decide_eq_false z2,Bool.and_false,Bool.false_and];rfl
               go_wp2
               go_ret
               rw[hr.out]
               first|exact⟨rfl,hbG.out⟩|(rw[hG];exact⟨rfl,hbG.out⟩)
             ·have y1:decide (z<1)=true:=by simp;omega
              have hr:Hid (R=1):=show _=_ from by rw[← hst.out,Ky.lok,decide_eq_false z1,Bool.false_and,Bool.false_and];rfl
              go_wp2
              go_ret
              rw[hr.out]
              first|exact⟨rfl,hbG.out⟩|(rw[hG];exact⟨rfl,hbG.out⟩)
            ·have hr:Hid (R=0):=show _=_ from by rw[← hRk.out,Ky.all_end Ky.lok n.delays k (by omega)];rfl
             go_wp2
             go_ret
             rw[hr.out]
             first|exact⟨rfl,hbG.out⟩|(rw[hG];exact⟨rfl,hbG.out⟩)
theorem implFromToQ (z a b:Int)(w:World):Calls Tryz.prog 29 #[.int .i64 z,.int .i64 a,.int .i64 b] w fun e w'=>e=.returned (.bool (decide (a≤z) && decide (z≤b)))∧w=w':=by
 by_cases h1:a≤z
 ·have u1:=decide_eq_true h1
  rw[u1]
  go_enter Tryz.func29,Tryz.ntmps29
  go_wp2
  go_ret
  exact⟨rfl,rfl⟩
 ·have u1:=decide_eq_false h1
  rw[u1]
  go_enter Tryz.func29,Tryz.ntmps29
  go_wp2
  go_ret
  exact⟨rfl,rfl⟩
theorem implIsTimeQ (z:Int)(w:World):Calls Tryz.prog 111 #[.int .i64 z] w fun e w'=>e=.returned (.bool (decide (0≤z) && decide (z≤253402300799)))∧w=w':=by
 by_cases h1:0≤z
 ·have u1:=decide_eq_true h1
  rw[u1]
  go_enter Tryz.func111,Tryz.ntmps111
  go_wp2
  go_ret
  exact⟨rfl,rfl⟩
 ·have u1:=decide_eq_false h1
  rw[u1]
  go_enter Tryz.func111,Tryz.ntmps111
  go_wp2
  go_ret
  exact⟨rfl,rfl⟩
theorem implNoDelay (z:Int)(w:World) :
  Calls Tryz.prog 110 #[.int .i64 z] w fun e w'=>e=.returned (.bool (!Ky.lok z))∧Below w.heap.size w w':=by
 have hK:=mkHid (implFromToQ z 1 253402300799 w)
 unfold Ky.lok
 generalize (decide (1≤z) && decide (z≤253402300799))=b at *
 go_enter Tryz.func110,Tryz.ntmps110
 go_wp2_with fail
 refine hK.out.mono ?_
 rintro e w2 ⟨rfl,rfl⟩
 go_wp2
 go_ret
 exact⟨rfl,Below.refl _ _⟩
theorem implIndexQI (o:Option Addr)(F:List Int)(cap lo:Nat)(mx:Int)(w:World)(hF:InL lo w.heap.size w o F)(hl:F.length≤1048576)(hm:w.cell? ⟨0,0,none⟩=some (.int .i64 mx)) :
  Calls Tryz.prog 143 #[.slice o F.length cap,.func (.func 110) #[] #[]] w fun e w'=>∃ i:Int,e=.returned (.int .i64 i)∧decide (0≤i) = !F.all Ky.lok∧Below w.heap.size w w':=by
 have hE:∀(args:Array Value) (w:World),(callFunc 110 args).run Tryz.prog w=.ok (.enter 110 args) w:=Go.Proofs.enters_of Tryz.func110 (by kernel_rfl) rfl
 have hlt0:=bcell_lt hm
 have HF:=mkHid hF
 have Hm:=mkHid hm
 skip
 clear hF hm
 obtain⟨R,hR⟩:∃R,F.all Ky.lok=R:=⟨_,rfl⟩
 have HR:Hid ((F.drop 0).all Ky.lok=R):=hR
 rw[hR]
 clear hR
 go_enter Tryz.func143,Tryz.ntmps143
 go_wp2
 go_loopw [5,8] (fun _ iv wr=>∃ k:Nat,k≤F.length∧iv=.int .i64 k∧Hid ((F.drop k).all Ky.lok=R)∧Hid (Below w.heap.size w wr)) (fun _ iv _=>F.length-(Lib.intOf iv).toNat)
 case atStart=>exact⟨0,Nat.zero_le _,rfl,HR,Below.refl _ _⟩
 case round=>
  clear HR
  obtain⟨k,hk,rfl,hp,hB⟩:=hrel
  by_cases hlt:k<F.length
  ·obtain⟨a,rfl,ha1,ha2,d0⟩:=((HF.out.below hB.out (Nat.le_refl _)).mono (Nat.le_refl _) hB.out.size) k hlt
   have hst:=Ky.all_drop Ky.lok F k hlt
   rw[hp.out] at hst
   have cN:=mkHid (implNoDelay F[k] wr)
   have Hst:=mkHid hst
   clear hst hp
   skip
   generalize Ky.lok F[k]=nb at *
   generalize F[k]=x at *
   go_wp2_with fail
   refine cN.out.mono ?_
   rintro e w1 ⟨rfl,hb1⟩
   have hB1:=mkHid (hB.out.trans (hb1.mono hB.out.size))
   clear cN hb1 hB
   cases nb
   ·have hR:R=false:=by rw[Hst.out,Bool.false_and]
    subst hR
    clear Hst
    go_wp2
    go_ret
    exact⟨k,rfl,by simp,hB1.out⟩
   ·have HN:Hid ((F.drop (k+1)).all Ky.lok=R):=by show _=_;rw[Hst.out,Bool.true_and]
    clear Hst
    go_wp2
    go_roundw
    case rel=>exact⟨k+1,by omega,by go_num,HN,hB1⟩
    case measure=>simp[Lib.intOf];omega
  ·have hR:R=true:=by rw[← hp.out,List.drop_eq_nil_of_le (by omega)];rfl
   subst hR
   clear hp
   go_wp2
   go_ret
   exact⟨-1,rfl,rfl,hB.out⟩
theorem implContainsQI (o:Option Addr)(F:List Int)(cap lo:Nat)(mx:Int)(w:World)(hF:InL lo w.heap.size w o F)(hl:F.length≤1048576)(hm:w.cell? ⟨0,0,none⟩=some (.int .i64 mx)) :
  Calls Tryz.prog 109 #[.slice o F.length cap,.func (.func 110) #[] #[]] w fun e w'=>e=.returned (.bool (!F.all Ky.lok))∧Below w.heap.size w w':=by
 have hI:=mkHid (implIndexQI o F cap lo mx w hF hl hm)
 clear hF hm
 go_enter Tryz.func109,Tryz.ntmps109
 go_wp2_with fail
 refine hI.out.mono ?_
 rintro e w2 ⟨i,rfl,hi,hb⟩
 go_wp2
 go_ret
 exact⟨by rw[← hi];rfl,hb⟩
abbrev bxM (n:GMx):Obj:=.cells #[.string n.domain,.int .i64 n.prefer,.string n.host] 95
theorem boxM_cells (n:GMx)(w w2:World)(hb:Below (w.alloc (bxM n)).heap.size (w.alloc (bxM n)) w2) :
  w2.cell? ⟨w.heap.size,0,none⟩=some (.string n.domain)∧w2.cell? ⟨w.heap.size,1,none⟩=some (.int .i64 n.prefer)∧w2.cell? ⟨w.heap.size,2,none⟩=some (.string n.host):=by
 refine⟨(hb.cell (p:=⟨w.heap.size,0,none⟩) (by simp)).trans ?_,(hb.cell (p:=⟨w.heap.size,1,none⟩) (by simp)).trans ?_,(hb.cell (p:=⟨w.heap.size,2,none⟩) (by simp)).trans ?_⟩<;>simp
theorem implNoMx (n:GMx)(mx:Int)(w:World)(hf:n.fits 1048576)(hm:w.cell? ⟨0,0,none⟩=some (.int .i64 mx)) :
  Calls Tryz.prog 108 #[GMxV n] w fun e w'=>e=.returned (.bool (!Ky.mok n))∧Below w.heap.size w w':=by
 obtain⟨f0,f1⟩:=hf
 have hlt:=bcell_lt hm
 obtain⟨V,hV⟩:∃V,w.alloc (bxM n)=V:=⟨_,rfl⟩
 have hbV:Below w.heap.size w V:=by rw[← hV];exact(Below.refl _ _).alloc (Nat.le_refl _) _
 have hmV:V.cell? ⟨0,0,none⟩=some (.int .i64 mx):=(hbV.cell hlt).trans hm
 have hA:=mkHid (implDomainName n.domain mx V (by omega) hmV)
 have hB:=mkHid (fun (W:World) (hm:W.cell? ⟨0,0,none⟩=some (.int .i64 mx))=>implDomainName n.host mx W (by omega) hm)
 have hF:=mkHid (fun (W:World)=>implFromToQ n.prefer 0 1000 W)
 have Hm:=mkHid hm
 have HC:=mkHid (fun (W:World) (hb:Below V.heap.size V W)=>boxM_cells n w W (by rw[hV];exact hb))
 clear hm hmV
 unfold GMxV Ky.mok
 have HV:=mkHid hV
 have HbV:=mkHid hbV
 clear hV hbV
 cases x1:Ky.dok n.domain
 ·rw[x1] at hA
  clear x1
  go_enter Tryz.func108,Tryz.ntmps108
  go_wp2_with fail
  rw[HV.out]
  refine hA.out.mono ?_
  rintro e w2 ⟨rfl,hb2⟩
  go_wp2
  go_ret
  exact⟨rfl,HbV.out.trans (hb2.mono HbV.out.size)⟩
 ·rw[x1] at hA
  clear x1
  cases x2:Ky.dok n.host
  ·rw[x2] at hB
   clear x2
   go_enter Tryz.func108,Tryz.ntmps108
   go_wp2_with fail
   rw[HV.out]
   refine hA.out.mono ?_
   rintro e w2 ⟨rfl,hb2⟩
   obtain⟨c0,c1,c2⟩:=HC.out w2 hb2
   have hbw:=mkHid (HbV.out.trans (hb2.mono HbV.out.size))
   go_wp2_with fail
   refine(hB.out _ ((hbw.out.cell hlt).trans Hm.out)).mono ?_
   rintro e w3 ⟨rfl,hb3⟩
   go_wp2
   go_ret
   exact⟨rfl,hbw.out.trans (hb3.mono hbw.out.size)⟩
  ·rw[x2] at hB
   clear x2
   generalize (decide (0≤n.prefer) && decide (n.prefer≤1000))=b at *
   go_enter Tryz.func108,Tryz.ntmps108
   go_wp2_with fail
   rw[HV.out]
   refine hA.out.mono ?_
   rintro e w2 ⟨rfl,hb2⟩
   obtain⟨c0,c1,c2⟩:=HC.out w2 hb2
   have hbw:=mkHid (HbV.out.trans (hb2.mono HbV.out.size))
   go_wp2_with fail
   refine(hB.out _ ((hbw.out.cell hlt).trans Hm.out)).mono ?_
   rintro e w3 ⟨rfl,hb3⟩
   obtain⟨e0,e1,e2⟩:=HC.out w3 (hb2.trans (hb3.mono hb2.size))
   go_wp2_with fail
   refine(hF.out _).mono ?_
   rintro e w4 ⟨rfl,rfl⟩
   go_wp2
   go_ret
   exact⟨by simp,hbw.out.trans (hb3.mono hbw.out.size)⟩
theorem implIndexQM (o:Option Addr)(F:List GMx)(cap lo:Nat)(mx:Int)(w:World)(hF:GMxsL lo w.heap.size w o F)(hl:F.length≤1048576)(hsz:∀t ∈ F,t.fits 1048576)(hm:w.cell? ⟨0,0,none⟩=some (.int .i64 mx)) :
  Calls Tryz.prog 142 #[.slice o F.length cap,.func (.func 108) #[] #[]] w fun e w'=>∃ i:Int,e=.returned (.int .i64 i)∧decide (0≤i) = !F.all Ky.mok∧Below w.heap.size w w':=by
 have hE:∀(args:Array Value) (w:World),(callFunc 108 args).run Tryz.prog w=.ok (.enter 108 args) w:=Go.Proofs.enters_of Tryz.func108 (by kernel_rfl) rfl
 have hlt0:=bcell_lt hm
 have HF:=mkHid hF
 have Hm:=mkHid hm
 have Hsz:=mkHid hsz
 clear hF hm hsz
 obtain⟨R,hR⟩:∃R,F.all Ky.mok=R:=⟨_,rfl⟩
 have HR:Hid ((F.drop 0).all Ky.mok=R):=hR
 rw[hR]
 clear hR
 go_enter Tryz.func142,Tryz.ntmps142
 go_wp2
 go_loopw [5,8] (fun _ iv wr=>∃ k:Nat,k≤F.length∧iv=.int .i64 k∧Hid ((F.drop k).all Ky.mok=R)∧Hid (Below w.heap.size w wr)) (fun _ iv _=>F.length-(Lib.intOf iv).toNat)
 case atStart=>exact⟨0,Nat.zero_le _,rfl,HR,Below.refl _ _⟩
 case round=>
  clear HR
  obtain⟨k,hk,rfl,hp,hB⟩:=hrel
  by_cases hlt:k<F.length
  ·obtain⟨a,rfl,ha1,ha2,hAt⟩:=((HF.out.below hB.out (Nat.le_refl _)).mono (Nat.le_refl _) hB.out.size) k hlt
   have hst:=Ky.all_drop Ky.mok F k hlt
   rw[hp.out] at hst
   have cN:=mkHid (implNoMx F[k] mx wr (Hsz.out _ (List.getElem_mem hlt)) ((hB.out.cell hlt0).trans Hm.out))
   have d0:=hAt.c0
   have d1:=hAt.c1
   have d2:=hAt.c2
   clear hAt
   have Hst:=mkHid hst
   clear hst hp
   unfold GMxV at cN
   generalize Ky.mok F[k]=nb at *
   generalize F[k]=x at *
   go_wp2_with fail
   refine cN.out.mono ?_
   rintro e w1 ⟨rfl,hb1⟩
   have hB1:=mkHid (hB.out.trans (hb1.mono hB.out.size))
   clear cN hb1 hB
   cases nb
   ·have hR:R=false:=by rw[Hst.out,Bool.false_and]
    subst hR
    clear Hst
    go_wp2
    go_ret
    exact⟨k,rfl,by simp,hB1.out⟩
   ·have HN:Hid ((F.drop (k+1)).all Ky.mok=R):=by show _=_;rw[Hst.out,Bool.true_and]
    clear Hst
    go_wp2
    go_roundw
    case rel=>exact⟨k+1,by omega,by go_num,HN,hB1⟩
    case measure=>simp[Lib.intOf];omega
  ·have hR:R=true:=by rw[← hp.out,List.drop_eq_nil_of_le (by omega)];rfl
   subst hR
   clear hp
   go_wp2
   go_ret
   exact⟨-1,rfl,rfl,hB.out⟩
theorem implContainsQM (o:Option Addr)(F:List GMx)(cap lo:Nat)(mx:Int)(w:World)(hF:GMxsL lo w.heap.size w o F)(hl:F.length≤1048576)(hsz:∀t ∈ F,t.fits 1048576)(hm:w.cell? ⟨0,0,none⟩=some (.int .i64 mx)) :
  Calls Tryz.prog 107 #[.slice o F.length cap,.func (.func 108) #[] #[]] w fun e w'=>e=.returned (.bool (!F.all Ky.mok))∧Below w.heap.size w w':=by
 have hI:=mkHid (implIndexQM o F cap lo mx w hF hl hsz hm)
 clear hF hm hsz
 go_enter Tryz.func107,Tryz.ntmps107
 go_wp2_with fail
 refine hI.out.mono ?_
 rintro e w2 ⟨i,rfl,hi,hb⟩
 go_wp2
 go_ret
 exact⟨by rw[← hi];rfl,hb⟩
end Go.Proofs.YtkcajnjledldnaaGreatDoor
