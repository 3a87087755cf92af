import Derived.Test.YtibbpmhbgbafhaaGreatDoorBmRight2
import Derived.Test.YtibbpmhbgbafhaaGreatDoorBmHas
import Derived.Test.YtibbpmhbgbafhaaGreatDoorCanonFieldSpec
import Derived.Test.YtibbpmhbgbafhaaGreatDoorFields
import Derived.Test.YtibbpmhbgbafhaaGreatDoorSgPlain
import Derived.Test.YtibbpmhbgbafhaaGreatDoorDrawOpA
import Derived.Lib.QuietBelow
import Derived.Test.YtibbpmhbgbafhaaGreatDoorDrawName
set_option maxRecDepth 20000
set_option maxHeartbeats 8000000
namespace Go.Proofs.YtibbpmhbgbafhaaGreatDoor
open Go.RowKit Go.Lib Go.Maps
namespace Bm
def WrOut (w:World)(E:List MdE)(i:Nat)(e:Ending)(w':World):Prop:=∃t:ByteArray,e=.returned (.string t)∧t.size≤200000+200000*(E.length-i)∧Below w.heap.size w w'
theorem all_add (K:List ByteArray)(t:ByteArray):all (K ++ [t])=all K+t.size:=by simp[all]
theorem all_mem (K:List ByteArray):∀t ∈ K,t.size≤all K:=by
 induction K with
 | nil=>intro t h;cases h
 | cons a r ih=>
  intro t h
  simp only[all,List.map_cons,List.sum_cons]
  rcases List.mem_cons.1 h with rfl|h
  ·omega
  ·have:=ih t h
   simp only[all] at this
   omega
theorem all_take (K:List ByteArray)(k:Nat)(h:k<K.length):all (K.take (k+1))=all (K.take k)+K[k].size:=by
 rw[List.take_succ_eq_append_getElem h,all_add]
theorem mark_cat (m:Nat):(⟨#[45,45,61,95]⟩:ByteArray)++⟨(decDigits m).toArray⟩=markB m:=Sn.ba_eq (by simp[markB,mark])
theorem all_le (K:List ByteArray)(j:Nat):all (K.take j)≤all K:=by
 unfold all
 rw[List.map_take]
 have:=congrArg List.sum (List.take_append_drop j (K.map ByteArray.size))
 rw[List.sum_append] at this
 omega
structure WrS (w:World)(ty su da:ByteArray)(v:Value)(cd:Nat)(wr:World):Prop where
 bel:Below w.heap.size w wr
 sz:w.heap.size+2≤wr.heap.size
 q2:wr.cell? ⟨w.heap.size,4,none⟩=some (.int .i64 cd)
 q3:wr.cell? ⟨w.heap.size,5,none⟩=some (.string da)
 t0:wr.cell? ⟨w.heap.size+1,0,none⟩=some (.string ty)
 t1:wr.cell? ⟨w.heap.size+1,1,none⟩=some (.string su)
 t2:wr.cell? ⟨w.heap.size+1,2,none⟩=some v
theorem WrS.same {w wr w2:World} {ty su da:ByteArray} {v:Value} {cd:Nat} (h:WrS w ty su da v cd wr)(hb:Below w.heap.size w w2)(hs:wr.heap.size≤w2.heap.size)(hk:∀k,k<w.heap.size+2→w2.heap[k]?=wr.heap[k]?):WrS w ty su da v cd w2 where
 bel:=hb
 sz:=Nat.le_trans h.sz hs
 q2:=(World.cell?_of_block (w:=wr) (a:=⟨w.heap.size,4,none⟩) (hk w.heap.size (by omega))).trans h.q2
 q3:=(World.cell?_of_block (w:=wr) (a:=⟨w.heap.size,5,none⟩) (hk w.heap.size (by omega))).trans h.q3
 t0:=(World.cell?_of_block (w:=wr) (a:=⟨w.heap.size+1,0,none⟩) (hk (w.heap.size+1) (by omega))).trans h.t0
 t1:=(World.cell?_of_block (w:=wr) (a:=⟨w.heap.size+1,1,none⟩) (hk (w.heap.size+1) (by omega))).trans h.t1
 t2:=(World.cell?_of_block (w:=wr) (a:=⟨w.heap.size+1,2,none⟩) (hk (w.heap.size+1) (by omega))).trans h.t2
theorem WrS.on {w wr w2:World} {ty su da:ByteArray} {v:Value} {cd:Nat} (h:WrS w ty su da v cd wr)(hb:Below wr.heap.size wr w2):WrS w ty su da v cd w2:=
 h.same (h.bel.trans (hb.mono h.bel.size)) hb.size (fun k hk=>hb.block k (by have:=h.sz;omega))
theorem WrS.row {w wr w2:World} {ty su da:ByteArray} {v u:Value} {cd:Nat} (h:WrS w ty su da v cd wr)(hg:wr.grownBy w2 u.ownBlock)(hv:∀q,u.ownBlock=some q→w.heap.size+2≤q):WrS w ty su da v cd w2:=
 h.same (h.bel.grown hg h.bel.size (fun q hq=>by have:=hv q hq;omega)) hg.size (fun k hk=>hg.block k (by have:=h.sz;omega) (fun e=>by have:=hv k e.symm;omega))
theorem WrS.new (w:World)(dep:Nat)(ty su da:ByteArray)(v:Value)(cd:Nat)(W2:World)(h:W2=(w.alloc (.cells #[.int .i64 dep,.string ty,.string su,v,.int .i64 cd,.string da] 126)).alloc (.cells #[.string ty,.string su,v] 124)):WrS w ty su da v cd W2:=by
 obtain⟨hb,hs,h0,h1⟩:=two_blocks h
 refine⟨hb,hs,?_,?_,?_,?_,?_⟩<;>simp[World.cell?,h0,h1]
set_option maxRecDepth 40000 in
theorem wWrite (gL cap:Nat)(E:List MdE)(hl:E.length≤100)(hok:∀e ∈ E,e.1.ok):∀(r i:Nat),E.length-i≤r→i<E.length→∀w:World,MdIn gL w E →
  Calls Tryz.prog 59 #[.slice (some ⟨gL,0,none⟩) E.length cap,.int .i64 i] w (WrOut w E i)
 | 0,i,hr,hi,_,_=>by omega
 | r+1,i,hr,hi,w,hM=>by
  have HM:=mkHid hM
  have hgl:=hM.1
  obtain⟨⟨c0,c1,c2,c3,c4,c5⟩,oq,cq,e3,hF⟩:=hM.2 i hi
  obtain⟨o1,o2,o3,o4,o5,o6,o7⟩:=hok E[i] (List.getElem_mem _)
  have HF:=mkHid hF
  have IH:=mkHid (wWrite gL cap E hl hok r)
  rw[e3] at c3
  clear hF hM e3 hok
  generalize E[i].1=e at *
  obtain⟨dep,ty,su,P,cd,da⟩:=e
  simp only at *
  go_enter Tryz.func59,Tryz.ntmps59
  go_upto_region 3 with fail
  obtain⟨W2,hW2⟩:∃V,V=(w.alloc (.cells #[.int .i64 dep,.string ty,.string su,.slice oq P.length cq,.int .i64 cd,.string da] 126)).alloc (.cells #[.string ty,.string su,.slice oq P.length cq] 124):=⟨_,rfl⟩
  have S2:Hid (WrS w ty su da (.slice oq P.length cq) cd W2):=WrS.new w dep ty su da _ cd W2 hW2
  rw[← hW2]
  clear hW2 c0 c1 c2 c3 c4 c5
  have q3:=S2.out.q3
  go_upto_region 5 with fail
  have q2:=S2.out.q2
  go_upto_block 0 with fail
  go_cut [7,8,23,29] from 200 (fun s7 s8 _ _ wx=>∃ bo co:ByteArray,s7=.string bo∧s8=.string co∧bo.size≤10000∧co.size≤100∧Hid (WrS w ty su da (.slice oq P.length cq) cd wx))
  case first=>
   have cB:=mkHid (fun W=>wBase64 da W (by omega))
   have cQ:=mkHid (fun W=>wQuoted da W (by omega))
   rcases (show cd=0∨cd=1∨cd=2 by omega) with hcd|hcd|hcd
   ·subst hcd
    go_wp2
    go_meet
    case rel=>exact⟨_,_,rfl,rfl,by omega,by decide,S2⟩
   ·subst hcd
    go_wp2_with fail
    refine(cB.out _).mono ?_
    rintro e w3 ⟨t,rfl,ht,hb3⟩
    have S3:=mkHid (S2.out.on hb3)
    go_wp2
    go_meet
    case rel=>exact⟨_,_,rfl,rfl,by omega,by decide,S3⟩
   ·subst hcd
    go_wp2_with fail
    refine(cQ.out _).mono ?_
    rintro e w3 ⟨t,rfl,ht,hb3⟩
    have S3:=mkHid (S2.out.on hb3)
    go_wp2
    go_meet
    case rel=>exact⟨_,_,rfl,rfl,by omega,by decide,S3⟩
  case rest=>
   clear S2 q2 q3
   obtain⟨bo,co,rfl,rfl,hbo,hco,S1⟩:=hcut
   have cC:=mkHid (fun W hF=>wContent ty su oq P cq W (by omega) (by omega) hF (by omega) o5)
   have t0:=S1.out.t0
   have t1:=S1.out.t1
   have t2:=S1.out.t2
   go_wp2_with fail
   refine(cC.out _ ((HF.out.below S1.out.bel).mono S1.out.bel.size)).mono ?_
   rintro e w3 ⟨ct,rfl,hct,hb3⟩
   have S3:=mkHid (S1.out.on hb3)
   clear hb3 S1 t0 t1 t2 cC
   have t0:=S3.out.t0
   go_upto_region 13 with fail
   go_cut [45] from 200 (fun s wx=>∃ b:Bool,s=.bool b∧wx=w3)
   case first=>
    go_wp2
    all_goals
     go_meet
     case rel=>exact⟨_,rfl,rfl⟩
   case rest=>
    clear t0
    obtain⟨b,rfl,rfl⟩:=hcut
    obtain⟨hd,hhd⟩:∃t:ByteArray,t=⟨#[67,111,110,116,101,110,116,45,84,121,112,101,58,32]⟩++ct:=⟨_,rfl⟩
    have hhz:hd.size≤100020:=by rw[hhd,ByteArray.size_append];show 14+ct.size≤_;omega
    rw[← hhd]
    clear hhd
    go_upto_if 45 with fail
    go_cut [7,9] from 200 (fun s7 s9 wx=>∃ bo he:ByteArray,s7=.string bo∧s9=.string he∧bo.size≤150000∧he.size≤100100∧Hid (WrS w ty su da (.slice oq P.length cq) cd wx))
    case first=>
     cases b
     case false=>
      go_wp2
      go_meet
      case rel=>exact⟨_,_,rfl,rfl,by omega,by omega,S3⟩
     case true=>
      go_upto_region 15 with fail
      have hsz3:=S3.out.sz
      have O0:=mkHid (OwnX.made (w.heap.size+2) wc hsz3)
      have S4:=mkHid (S3.out.on ((Below.refl wc.heap.size wc).alloc (Nat.le_refl _) (.cells #[] 9)))
      generalize wc.alloc (.cells #[] 9)=W4 at O0 S4 ⊢
      have cU:=mkHid (wUntil gL cap E i W4 (HM.out.below S4.out.bel) (by omega) hi)
      go_wp2_with fail
      refine cU.out.mono ?_
      rintro e w5 ⟨en,rfl,hen1,hen2,hb5⟩
      have S5:=mkHid (S4.out.on hb5)
      have O5:=mkHid (O0.out.below hb5)
      clear hb5 cU S4 O0 S3
      go_wp2
      go_loopw [10,12,13] (fun v al kv wr=>∃ (K:List ByteArray) (k:Nat),kv=.int .i64 k∧al=.int .i64 (all K:Nat)∧all K≤100000∧i<k∧k≤E.length∧K.length≤k∧Hid (OwnX (w.heap.size+2) v K wr)∧Hid (WrS w ty su da (.slice oq P.length cq) cd wr)) (fun _ _ kv _=>E.length-(Lib.intOf kv).toNat)
      case atStart=>exact⟨[],i+1,by go_num,rfl,by show 0≤_;omega,by omega,by omega,by simp,O5,S5⟩
      case round=>
       clear S5 O5
       obtain⟨K,k,rfl,rfl,hall,hik,hkl,hKk,OK,S5⟩:=hrel
       by_cases hke:k<en
       ·have hkE:k<E.length:=by omega
        have cW:=mkHid (IH.out k (by omega) hkE wr (HM.out.below S5.out.bel))
        go_wp2_with fail
        refine cW.out.mono ?_
        rintro e w6 ⟨t,rfl,ht,hb6⟩
        have S6:=mkHid (S5.out.on hb6)
        have O6:=mkHid (OK.out.below hb6)
        have hsz6:=S6.out.sz
        clear hb6 cW S5 OK
        go_wp2_with (at_builtin;go_must (refine wp_appX (w:=w6) rfl _ _ rfl (w.heap.size+2) u10 K rfl O6.out t 1 rfl (by omega) hsz6 ?_;intro v' w' hO' hG';refine Hid.out ?_))
        have O7:=mkHid hO'
        have S7:=mkHid ((S6.out.on ((Below.refl w6.heap.size w6).alloc (Nat.le_refl _) (.cells #[.string t] 9))).row hG' (fun q hq=>(World.ownsRow.lt O6.out q hq).1))
        have hadd1:all (K ++ [t])≤all K+t.size:=Nat.le_of_eq (all_add K t)
        have hadd2:all K+t.size≤all (K ++ [t]):=Nat.le_of_eq (all_add K t).symm
        have hlen1:(K ++ [t]).length≤K.length+1:=by simp
        clear hO' hG' O6 S6
        have hai:((all K:Nat):Int)+(t.size:Int)=((all (K ++ [t]):Nat):Int):=by omega
        generalize K ++ [t]=K2 at *
        by_cases hbig:100000<all K2
        ·have hbi:(100000:Int)<((all K:Nat):Int)+(t.size:Int):=by omega
         refine mkHid ?_
         go_wp2
         obtain⟨oK,cK,rfl⟩:=O7.out.shape
         go_loopw [15,16] (fun qv jv wx=>∃ (q:ByteArray) (j:Nat),qv=.string q∧jv=.int .i64 j∧j≤K2.length∧q.size≤all (K2.take j)∧wx=w') (fun _ jv _=>K2.length-(Lib.intOf jv).toNat)
         case atStart=>exact⟨⟨#[]⟩,0,rfl,rfl,Nat.zero_le _,by show 0≤_;omega,rfl⟩
         case round=>
          obtain⟨q,j,rfl,rfl,hj,hq,rfl⟩:=hrel
          have hat:all (K2.take j)≤all K2:=all_le K2 j
          by_cases hjl:j<K2.length
          ·obtain⟨a,rfl,ha,ha2,hc⟩:=O7.out.txL j hjl
           have htk:=Nat.le_of_eq (all_take K2 j hjl).symm
           have hat1:all (K2.take (j+1))≤all K2:=all_le K2 (j+1)
           generalize K2[j]=tj at hc htk
           go_wp2
           go_roundw
           case rel=>exact⟨q++tj,j+1,rfl,by go_num,by omega,by rw[ByteArray.size_append];omega,trivial⟩
           case measure=>simp[Lib.intOf];omega
          ·go_wp2
           go_ret
           exact⟨q,rfl,by omega,S7.out.bel⟩
        ·have hbi:¬((100000:Int)<((all K:Nat):Int)+(t.size:Int)):=by omega
         have cU:=mkHid (wUntil gL cap E k w' (HM.out.below S7.out.bel) (by omega) hkE)
         refine mkHid ?_
         go_wp2_with fail
         refine cU.out.mono ?_
         rintro e w8 ⟨k2,rfl,hk2,hk3,hb8⟩
         have S8:=mkHid (S7.out.on hb8)
         have O8:=mkHid (O7.out.below hb8)
         clear hb8 cU S7 O7
         go_wp2
         go_roundw
         case rel=>exact⟨K2,k2,rfl,by first|rfl|(congr 1),by omega,by omega,by omega,by omega,O8,S8⟩
         case measure=>simp[Lib.intOf];omega
       ·have hKl:K.length≤1000:=by omega
        have hKs:∀t ∈ K,t.size≤1000000:=fun t ht=>by have:=all_mem K t ht;omega
        have HKs:=mkHid hKs
        have hfree:=mkHid (fun n h=>free K hall n h)
        have hm0:Hid (∀j,j<0→hit K j):=fun j hj=>absurd hj (Nat.not_lt_zero _)
        clear hKs
        go_wp2
        go_loopw [17] (fun nv wx=>∃ n:Nat,nv=.int .i64 n∧Hid (∀j,j<n→hit K j)∧Hid (OwnX (w.heap.size+2) u10 K wx)∧Hid (WrS w ty su da (.slice oq P.length cq) cd wx)) (fun nv _=>1000001-(Lib.intOf nv).toNat)
        case atStart=>exact⟨0,rfl,hm0,OK,S5⟩
        case round=>
         clear hm0 OK S5
         obtain⟨n,rfl,hn,OK,S5⟩:=hrel
         have hn6:n<1000000:=hfree.out n hn.out
         have cD:=mkHid (fun W=>specDec n (by omega) W)
         have hmk:=mkHid (mark_cat n)
         go_wp2_with fail
         refine(cD.out _).mono ?_
         rintro e w6 ⟨rfl,hb6⟩
         have S6:=mkHid (S5.out.on hb6)
         have O6:=mkHid (OK.out.below hb6)
         clear hb6 S5 OK
         obtain⟨db,hdb,hde⟩:=wDec n hn6
         rw[← hde] at cD hmk ⊢
         have HD:=mkHid hde
         clear hde
         have cA:=mkHid (wAny (w.heap.size+2) u10 K n w6 O6.out hKl HKs.out hn6)
         have hz6:¬9223372036854775807<4+db.size:=by omega
         have hsz6:=S6.out.sz
         go_wp2_with fail
         rw[hmk.out]
         refine cA.out.mono ?_
         rintro e w7 ⟨b,rfl,hb,rfl⟩
         cases b
         case true=>
          have hn2:Hid (∀j,j<n+1→hit K j):=fun j hj=>by
           by_cases h:j=n
           ·subst h;exact hb rfl
           ·exact hn.out j (by omega)
          clear hb hn cA cD
          go_wp2
          go_roundw
          case rel=>exact⟨n+1,by go_num,hn2,O6,S6⟩
          case measure=>simp[Lib.intOf];omega
         case false=>
          clear hb hn cA hmk
          go_wp2_with fail
          refine(cD.out _).mono ?_
          rintro e w7 ⟨rfl,hb7⟩
          have S7:=mkHid (S6.out.on hb7)
          have O7:=mkHid (O6.out.below hb7)
          clear hb7 S6 O6 cD
          go_wp2
          obtain⟨mk,hmk⟩:∃t:ByteArray,t=(⟨#[61,95]⟩:ByteArray)++db:=⟨_,rfl⟩
          have hmz:mk.size≤8:=by rw[hmk,ByteArray.size_append];show 2+db.size≤_;omega
          rw[← hmk]
          clear hmk
          obtain⟨oK,cK,rfl⟩:=O7.out.shape
          go_loopw [7,19] (fun qv jv wx=>∃ (q:ByteArray) (j:Nat),qv=.string q∧jv=.int .i64 j∧j≤K.length∧q.size≤all (K.take j)+30*j∧wx=w7) (fun _ jv _=>K.length-(Lib.intOf jv).toNat)
          case atStart=>exact⟨⟨#[]⟩,0,rfl,rfl,Nat.zero_le _,by show 0≤_;omega,rfl⟩
          case round=>
           obtain⟨q,j,rfl,rfl,hj,hq,rfl⟩:=hrel
           have hat:all (K.take j)≤all K:=all_le K j
           by_cases hjl:j<K.length
           ·obtain⟨a,rfl,ha,ha2,hc⟩:=O7.out.txL j hjl
            have htk:=Nat.le_of_eq (all_take K j hjl).symm
            have hat1:all (K.take (j+1))≤all K:=all_le K (j+1)
            generalize K[j]=tj at hc htk
            go_wp2
            go_roundw
            case rel=>exact⟨_,j+1,rfl,by go_num,by omega,by simp only[ByteArray.size_append];show q.size+2+mk.size+2+tj.size+2≤_;omega,trivial⟩
            case measure=>simp[Lib.intOf];omega
           ·go_wp2
            go_meet
            case rel=>exact⟨_,_,rfl,rfl,by simp only[ByteArray.size_append];show q.size+2+mk.size+2≤_;omega,by simp only[ByteArray.size_append];show hd.size+12+mk.size+1≤_;omega,S7⟩
    case rest=>
     obtain⟨bo2,he,rfl,rfl,hbo2,hhe,S4⟩:=hcut
     go_wp2
     go_ret
     refine⟨_,rfl,?_,S4.out.bel⟩
     simp only[ByteArray.size_append]
     show he.size+2+co.size+2+bo2.size≤_
     omega
end Bm
def Sj.named (F:List Fd)(m:ByteArray):List ByteArray:=(F.filter fun f=>namedB f.1 m).map (·.2)
theorem Sj.named_take (F:List Fd)(m:ByteArray)(k:Nat)(h:k<F.length):Sj.named (F.take (k+1)) m=Sj.named (F.take k) m++(if namedB F[k].1 m then [F[k].2] else []):=by
 unfold Sj.named
 rw[List.take_succ_eq_append_getElem h,List.filter_append,List.map_append]
 congr 1
 cases hb:namedB F[k].1 m
 ·simp[hb]
 ·simp[hb]
theorem Sj.named_len (F:List Fd)(m:ByteArray)(k:Nat):(Sj.named (F.take k) m).length≤k:=by
 unfold Sj.named
 rw[List.length_map]
 refine Nat.le_trans (List.length_filter_le _ _) ?_
 rw[List.length_take]
 omega
theorem specSameS (n m:ByteArray)(w:World)(hn:n.size≤100000)(hm:m.size≤100000) :
  Calls Tryz.prog 46 #[.string n,.string m] w fun e w'=>e=.returned (.bool (namedB n m))∧Below w.heap.size w w':=by
 have hA:=fun w=>specLower n w hn
 have hB:=fun w=>specLower m w hm
 have HE:Hid (namedB n m=((⟨(lower n.data.toList).toArray⟩:ByteArray).data.toList==(⟨(lower m.data.toList).toArray⟩:ByteArray).data.toList)):=rfl
 generalize (⟨(lower n.data.toList).toArray⟩:ByteArray)=ta at *
 generalize (⟨(lower m.data.toList).toArray⟩:ByteArray)=tb at *
 have HA:=(show Hid _ from hA)
 have HB:=(show Hid _ from hB)
 clear hA hB
 go_enter Tryz.func46,Tryz.ntmps46
 go_wp2_with fail
 refine(HA.out _).mono ?_
 rintro e w1 ⟨rfl,hb1⟩
 go_wp2_with fail
 refine(HB.out _).mono ?_
 rintro e w2 ⟨rfl,hb2⟩
 have hbq:=hb1.trans (hb2.mono hb1.size)
 go_wp2
 go_ret
 rw[HE.out,← ByteArray.toList_eq,← ByteArray.toList_eq]
 exact⟨rfl,hbq⟩
theorem Sj.namedB_size (n m:ByteArray)(h:n.size≠m.size):namedB n m=false:=by
 unfold namedB
 rw[beq_eq_false_iff_ne]
 intro e
 have:=congrArg List.length e
 simp[lower] at this
 exact h this
theorem Sj.appBelow {B:Nat} {w W W2:World} {u:ByteArray} {v:Value} {C:List ByteArray} (hb:Below B w W)(hw:B≤w.heap.size)(ho:OwnX B v C W)(hg:(W.alloc (.cells #[.string u] 9)).grownBy W2 v.ownBlock):Below B w W2:=by
 have hs:=hb.size
 exact(hb.alloc (by omega) _).grown hg (by simp;omega) (fun k hk=>(World.ownsRow.lt ho k hk).1)
set_option maxRecDepth 40000 in
theorem specFindField (o:Option Addr)(F:List Fd)(cap:Nat)(m:ByteArray)(w:World)(hF:Fld w.heap.size w o F)(hlen:F.length≤200)(hsz:∀f ∈ F,f.1.size≤100000)(hm:m.size≤70) :
  Calls Tryz.prog 58 #[.slice o F.length cap,.string m] w fun e w'=>∃ v,e=.returned v∧OwnX w.heap.size v (Sj.named F m) w'∧Below w.heap.size w w':=by
 have HF:Hid (Fld w.heap.size w o F):=hF
 have Hsz:Hid (∀f ∈ F,f.1.size≤100000):=hsz
 have g200:¬(200:Int)<(F.length:Int):=by omega
 have g70:¬(70:Int)<(m.size:Int):=by omega
 obtain⟨R,hR⟩:∃R,R=Sj.named F m:=⟨_,rfl⟩
 rw[← hR]
 have HR:Hid (R=Sj.named F m):=hR
 clear hF hsz hR
 go_enter Tryz.func58,Tryz.ntmps58
 go_wp2
 go_loopw [5,6] (fun v i wr=>∃ (k:Nat) (C:List ByteArray),k≤F.length∧i=.int .i64 k∧Hid (C=Sj.named (F.take k) m)∧OwnX w.heap.size v C wr∧Below w.heap.size w wr) (fun _ i _=>F.length-(Lib.intOf i).toNat)
 case atStart=>exact⟨0,[],Nat.zero_le _,rfl,rfl,OwnX.made _ _ (Nat.le_refl _),(Below.refl _ _).alloc (Nat.le_refl _) _⟩
 case round=>
  obtain⟨k,C,hk,rfl,hC,hown,hb⟩:=hrel
  by_cases hlt:k<F.length
  ·obtain⟨a,rfl,ha,hc0,hc1⟩:=(HF.out.below hb) k hlt
   have hfs:=Hsz.out F[k] (List.getElem_mem hlt)
   have hst:=mkHid (Sj.named_take F m k hlt)
   have hCl:C.length≤200:=by rw[hC.out];have:=Sj.named_len F m k;omega
   generalize F[k]=f at *
   have hne:=Sj.namedB_size f.1 m
   have hS:=fun w=>specSameS f.1 m w hfs (by omega)
   cases hnb:namedB f.1 m
   ·have hC2:Hid (C=Sj.named (F.take (k+1)) m):=by
     show _=_
     rw[hst.out,hnb,hC.out]
     simp
    rw[hnb] at hS
    have HS:=mkHid hS
    clear hne hst hC hnb hS HR
    by_cases he:f.1.size=m.size
    ·have he2:((f.1.size:Int)==(m.size:Int))=true:=by rw[he];simp
     have He:=mkHid he
     clear he
     go_wp2_with (go_at_call 46;go_must (refine(HS.out _).mono ?_;rintro e w1 ⟨rfl,hb1⟩))
     have hbq:=mkHid (hb.trans (hb1.mono hb.size))
     have ho2:=mkHid (hown.below hb1)
     clear hb1
     go_wp2
     go_roundw
     case rel=>exact⟨k+1,C,by omega,by go_num,hC2,ho2.out,hbq.out⟩
     case measure=>simp[Lib.intOf];omega
    ·have he2:((f.1.size:Int)==(m.size:Int))=false:=by simp;omega
     have He:=mkHid he
     clear he
     go_wp2
     go_roundw
     case rel=>exact⟨k+1,C,by omega,by go_num,hC2,hown,hb⟩
     case measure=>simp[Lib.intOf];omega
   ·have hC2:Hid (C ++ [f.2]=Sj.named (F.take (k+1)) m):=by
     show _=_
     rw[hst.out,hnb,hC.out]
     simp
    have he:f.1.size=m.size:=by
     apply Classical.byContradiction
     intro h
     rw[hne h] at hnb
     cases hnb
    have he2:((f.1.size:Int)==(m.size:Int))=true:=by rw[he];simp
    rw[hnb] at hS
    have HS:=mkHid hS
    clear hne hst hC hnb hS HR he
    have HC1:=mkHid (hc1)
    clear hc1
    go_wp2_with fail
    refine(HS.out _).mono ?_
    rintro e w1 ⟨rfl,hb1⟩
    have hbq:=mkHid (hb.trans (hb1.mono hb.size))
    have ho2:=mkHid (hown.below hb1)
    have hc1:=(hbq.out.cell (p:=⟨(a.add (k*2)).block,(a.add (k*2)).off+1,none⟩) (by rw[add_block];exact ha))
    have hz1:=hbq.out.size
    have hq1:=(hb.cell (p:=⟨(a.add (k*2)).block,(a.add (k*2)).off+1,none⟩) (by rw[add_block];exact ha)).symm.trans HC1.out
    rw[hq1] at hc1
    clear hb1 hq1 HC1 hc0
    go_wp2_with (at_builtin;go_must (refine wp_appX rfl _ _ rfl w.heap.size u5 C rfl ho2.out f.2 1 rfl (by omega) (by omega) ?_;intro y10 w10 hown10 hg10;have hb10:=mkHid (Sj.appBelow hbq.out (Nat.le_refl _) ho2.out hg10);have hown10:=mkHid hown10))
    go_roundw
    case rel=>exact⟨k+1,C ++ [f.2],by omega,by go_num,hC2,hown10.out,hb10.out⟩
    case measure=>simp[Lib.intOf];omega
  ·go_wp2
   go_ret
   have e:C=R:=by rw[hC.out,HR.out,List.take_of_length_le (by omega)]
   exact⟨_,rfl,e ▸ hown,hb⟩
namespace Bm
theorem hd_lenM (F:List (ByteArray × ByteArray)):∀p:List UInt8,p.length≤100000→(Pl.hd p F).length≤100000:=by
 induction F with
 | nil=>intro p hp;exact hp
 | cons f r ih=>
  intro p hp
  rw[Pl.hd]
  split
  ·split
   ·simp
   ·exact ih _ (by omega)
  ·simp
theorem wHead (o:Option Addr)(F:List Fd)(cap:Nat)(w:World)(hF:Fld w.heap.size w o F)(hlen:F.length≤200)(hsz:∀f ∈ F,f.1.size≤1048576∧f.2.size≤1048576) :
  Calls Tryz.prog 33 #[.slice o F.length cap] w fun e w'=>∃ t:ByteArray,e=.returned (.string t)∧t.size≤100000∧Below w.heap.size w w':=by
 refine(specWriteHead o F cap w hF hlen hsz).mono ?_
 rintro e w' ⟨rfl,hb⟩
 refine⟨_,rfl,?_,hb⟩
 show(Pl.hd [] F).toArray.size≤_
 rw[List.size_toArray]
 exact hd_lenM F [] (by simp)
set_option maxRecDepth 40000 in
theorem wBuild (oF:Option Addr)(F:List Fd)(cF gL cap:Nat)(E:List MdE)(w:World)(hF:Fld w.heap.size w oF F)(hlen:F.length≤100)(hsz:∀f ∈ F,f.1.size≤100000∧f.2.size≤100000)(hM:MdIn gL w E)(hl:E.length≤100)(h0:0<E.length)(hok:∀e ∈ E,e.1.ok) :
  Calls Tryz.prog 29 #[.slice oF F.length cF,.slice (some ⟨gL,0,none⟩) E.length cap] w fun e w'=>∃ t:ByteArray,e=.returned (.string t)∧t.size≤100000∧Below w.heap.size w w':=by
 have HF:=mkHid hF
 have HM:=mkHid hM
 have cH:=mkHid (wHead oF F cF w hF (by omega) (fun f hf=>by have:=hsz f hf;omega))
 have cR:=mkHid (fun W hM=>wRight gL cap E W hM hl h0 hok)
 have cW:=mkHid (fun W hM=>wWrite gL cap E hl hok E.length 0 (by omega) h0 W hM)
 have cD:=mkHid (fun m hm W hF=>specFindField oF F cF m W hF (by omega) (fun f hf=>(hsz f hf).1) hm)
 have hnl:∀m,(Sj.named F m).length≤100:=fun m=>by have:=Sj.named_len F m F.length;rw[List.take_length] at this;omega
 obtain⟨n,hn⟩:∃n,F.length=n:=⟨_,rfl⟩
 rw[hn] at cH cD hlen ⊢
 clear hF hM hsz hok hn
 go_enter Tryz.func29,Tryz.ntmps29
 go_wp2_with fail
 refine cH.out.mono ?_
 rintro e w1 ⟨hd,rfl,hhd,hb1⟩
 have B1:=mkHid hb1
 clear hb1 cH
 go_upto_region 2 with fail
 go_cut [35] from 200 (fun s wx=>∃ b:Bool,s=.bool b∧Hid (Below w.heap.size w wx))
 case first=>
  have m1:(⟨#[67,111,110,116,101,110,116,45,84,121,112,101]⟩:ByteArray).size≤70:=by decide
  have m2:(⟨#[67,111,110,116,101,110,116,45,84,114,97,110,115,102,101,114,45,69,110,99,111,100,105,110,103]⟩:ByteArray).size≤70:=by decide
  have cD1:=mkHid (cD.out _ m1)
  have cD2:=mkHid (cD.out _ m2)
  have cR1:=mkHid (cR.out w1 (HM.out.below B1.out))
  clear m1 m2 cD cR
  have hcase:hd.toList.isEmpty=true∨hd.toList.isEmpty=false:=by cases hd.toList.isEmpty<;>simp
  by_cases hn0:n=0
  ·subst hn0
   rcases hcase with hE|hE
   ·go_wp2_with fail
    refine cR1.out.mono ?_
    rintro e w2 ⟨b2,rfl,hb2⟩
    have B2:=mkHid (B1.out.trans (hb2.mono B1.out.size))
    clear hb2 cR1 B1
    cases b2
    case false=>
     go_wp2
     go_meet
     case rel=>exact⟨_,rfl,B2⟩
    case true=>
     have cD1':=mkHid (cD1.out w2 ((HF.out.below B2.out).mono B2.out.size))
     clear cD1
     go_wp2_with fail
     refine cD1'.out.mono ?_
     rintro e w3 ⟨v3,rfl,hO3,hb3⟩
     obtain⟨o3,c3,rfl⟩:=hO3.shape
     have B3:=mkHid (B2.out.trans (hb3.mono B2.out.size))
     clear hb3 cD1' B2 hO3
     have cD2':=mkHid (cD2.out w3 ((HF.out.below B3.out).mono B3.out.size))
     have n3:=hnl ⟨#[67,111,110,116,101,110,116,45,84,121,112,101]⟩
     generalize (Sj.named F ⟨#[67,111,110,116,101,110,116,45,84,121,112,101]⟩).length=n1 at n3 ⊢
     clear cD2
     go_wp2_with fail
     refine cD2'.out.mono ?_
     rintro e w4 ⟨v4,rfl,hO4,hb4⟩
     obtain⟨o4,c4,rfl⟩:=hO4.shape
     have B4:=mkHid (B3.out.trans (hb4.mono B3.out.size))
     clear hb4 cD2' B3 hO4
     have n4:=hnl ⟨#[67,111,110,116,101,110,116,45,84,114,97,110,115,102,101,114,45,69,110,99,111,100,105,110,103]⟩
     generalize (Sj.named F ⟨#[67,111,110,116,101,110,116,45,84,114,97,110,115,102,101,114,45,69,110,99,111,100,105,110,103]⟩).length=n2 at n4 ⊢
     go_wp2
     go_meet
     case rel=>exact⟨_,rfl,B4⟩
   ·go_wp2_with fail
    refine cR1.out.mono ?_
    rintro e w2 ⟨b2,rfl,hb2⟩
    have B2:=mkHid (B1.out.trans (hb2.mono B1.out.size))
    clear hb2 cR1 B1
    cases b2
    case false=>
     go_wp2
     go_meet
     case rel=>exact⟨_,rfl,B2⟩
    case true=>
     have cD1':=mkHid (cD1.out w2 ((HF.out.below B2.out).mono B2.out.size))
     clear cD1
     go_wp2_with fail
     refine cD1'.out.mono ?_
     rintro e w3 ⟨v3,rfl,hO3,hb3⟩
     obtain⟨o3,c3,rfl⟩:=hO3.shape
     have B3:=mkHid (B2.out.trans (hb3.mono B2.out.size))
     clear hb3 cD1' B2 hO3
     have cD2':=mkHid (cD2.out w3 ((HF.out.below B3.out).mono B3.out.size))
     have n3:=hnl ⟨#[67,111,110,116,101,110,116,45,84,121,112,101]⟩
     generalize (Sj.named F ⟨#[67,111,110,116,101,110,116,45,84,121,112,101]⟩).length=n1 at n3 ⊢
     clear cD2
     go_wp2_with fail
     refine cD2'.out.mono ?_
     rintro e w4 ⟨v4,rfl,hO4,hb4⟩
     obtain⟨o4,c4,rfl⟩:=hO4.shape
     have B4:=mkHid (B3.out.trans (hb4.mono B3.out.size))
     clear hb4 cD2' B3 hO4
     have n4:=hnl ⟨#[67,111,110,116,101,110,116,45,84,114,97,110,115,102,101,114,45,69,110,99,111,100,105,110,103]⟩
     generalize (Sj.named F ⟨#[67,111,110,116,101,110,116,45,84,114,97,110,115,102,101,114,45,69,110,99,111,100,105,110,103]⟩).length=n2 at n4 ⊢
     go_wp2
     go_meet
     case rel=>exact⟨_,rfl,B4⟩
  ·obtain⟨k,rfl⟩:∃k,n=k+1:=⟨n-1,by omega⟩
   have l1:¬((197:Int)<(k:Int)+1):=by omega
   have l2:(0:Int)<(k:Int)+1:=by omega
   clear hn0
   rcases hcase with hE|hE
   ·go_wp2
    go_meet
    case rel=>exact⟨_,rfl,B1⟩
   ·go_wp2_with fail
    refine cR1.out.mono ?_
    rintro e w2 ⟨b2,rfl,hb2⟩
    have B2:=mkHid (B1.out.trans (hb2.mono B1.out.size))
    clear hb2 cR1 B1
    cases b2
    case false=>
     go_wp2
     go_meet
     case rel=>exact⟨_,rfl,B2⟩
    case true=>
     have cD1':=mkHid (cD1.out w2 ((HF.out.below B2.out).mono B2.out.size))
     clear cD1
     go_wp2_with fail
     refine cD1'.out.mono ?_
     rintro e w3 ⟨v3,rfl,hO3,hb3⟩
     obtain⟨o3,c3,rfl⟩:=hO3.shape
     have B3:=mkHid (B2.out.trans (hb3.mono B2.out.size))
     clear hb3 cD1' B2 hO3
     have cD2':=mkHid (cD2.out w3 ((HF.out.below B3.out).mono B3.out.size))
     have n3:=hnl ⟨#[67,111,110,116,101,110,116,45,84,121,112,101]⟩
     generalize (Sj.named F ⟨#[67,111,110,116,101,110,116,45,84,121,112,101]⟩).length=n1 at n3 ⊢
     clear cD2
     go_wp2_with fail
     refine cD2'.out.mono ?_
     rintro e w4 ⟨v4,rfl,hO4,hb4⟩
     obtain⟨o4,c4,rfl⟩:=hO4.shape
     have B4:=mkHid (B3.out.trans (hb4.mono B3.out.size))
     clear hb4 cD2' B3 hO4
     have n4:=hnl ⟨#[67,111,110,116,101,110,116,45,84,114,97,110,115,102,101,114,45,69,110,99,111,100,105,110,103]⟩
     generalize (Sj.named F ⟨#[67,111,110,116,101,110,116,45,84,114,97,110,115,102,101,114,45,69,110,99,111,100,105,110,103]⟩).length=n2 at n4 ⊢
     go_wp2
     go_meet
     case rel=>exact⟨_,rfl,B4⟩
 case rest=>
  clear B1 cR cD
  obtain⟨b,rfl,B1⟩:=hcut
  cases b
  case true=>
   go_wp2
   go_ret
   exact⟨_,rfl,by show 0≤_;omega,B1.out⟩
  case false=>
   have cW1:=mkHid (cW.out wc (HM.out.below B1.out))
   go_wp2_with fail
   refine cW1.out.mono ?_
   rintro e w2 ⟨t,rfl,ht,hb2⟩
   have B2:=mkHid (B1.out.trans (hb2.mono B1.out.size))
   clear hb2 cW cW1 B1
   have n0:¬9223372036854775807<hd.size+19+t.size:=by omega
   by_cases hbig:100000<hd.size+19+t.size
   ·have hbi:(100000:Int)<(hd.size:Int)+19+(t.size:Int):=by omega
    go_wp2
    go_ret
    exact⟨_,rfl,by show 0≤_;omega,B2.out⟩
   ·have hbi:¬((100000:Int)<(hd.size:Int)+19+(t.size:Int)):=by omega
    go_wp2
    go_ret
    exact⟨_,rfl,by simp only[ByteArray.size_append];show hd.size+19+t.size≤_;omega,B2.out⟩
theorem wRight0 (o:Option Addr)(cap:Nat)(w:World):Calls Tryz.prog 57 #[.slice o 0 cap] w fun e w'=>e=.returned (.bool false)∧w=w':=by
 go_enter Tryz.func57,Tryz.ntmps57
 go_wp2
 go_ret
 exact⟨rfl,rfl⟩
set_option maxRecDepth 40000 in
theorem wBuild0 (oF:Option Addr)(F:List Fd)(cF:Nat)(oM:Option Addr)(cap:Nat)(w:World)(hF:Fld w.heap.size w oF F)(hlen:F.length≤100)(hsz:∀f ∈ F,f.1.size≤100000∧f.2.size≤100000) :
  Calls Tryz.prog 29 #[.slice oF F.length cF,.slice oM 0 cap] w fun e w'=>∃ t:ByteArray,e=.returned (.string t)∧t.size≤100000∧Below w.heap.size w w':=by
 have cH:=mkHid (wHead oF F cF w hF (by omega) (fun f hf=>by have:=hsz f hf;omega))
 have cR:=mkHid (wRight0 oM cap)
 obtain⟨n,hn⟩:∃n,F.length=n:=⟨_,rfl⟩
 rw[hn] at cH hlen ⊢
 clear hF hsz hn
 go_enter Tryz.func29,Tryz.ntmps29
 go_wp2_with fail
 refine cH.out.mono ?_
 rintro e w1 ⟨hd,rfl,hhd,hb1⟩
 have B1:=mkHid hb1
 clear hb1 cH
 have hcase:hd.toList.isEmpty=true∨hd.toList.isEmpty=false:=by cases hd.toList.isEmpty<;>simp
 have l1:¬((197:Int)<(n:Int)):=by omega
 by_cases hn0:n=0
 ·subst hn0
  rcases hcase with hE|hE
  all_goals
   go_wp2_with fail
   refine(cR.out _).mono ?_
   rintro e w2 ⟨rfl,rfl⟩
   go_wp2
   go_ret
   exact⟨_,rfl,by show 0≤_;omega,B1.out⟩
 ·obtain⟨k,rfl⟩:∃k,n=k+1:=⟨n-1,by omega⟩
  have l3:¬((197:Int)<(k:Int)+1):=by omega
  have l2:(0:Int)<(k:Int)+1:=by omega
  clear hn0 l1
  rcases hcase with hE|hE
  ·go_wp2
   go_ret
   exact⟨_,rfl,by show 0≤_;omega,B1.out⟩
  ·go_wp2_with fail
   refine(cR.out _).mono ?_
   rintro e w2 ⟨rfl,rfl⟩
   go_wp2
   go_ret
   exact⟨_,rfl,by show 0≤_;omega,B1.out⟩
end Bm
end Go.Proofs.YtibbpmhbgbafhaaGreatDoor
namespace Go.Proofs.YtibbpmhbgbafhaaGreatDoor
open Go.RowKit Go.Lib
set_option maxRecDepth 10000 in
theorem srcValue (g:Nat)(o:Option Addr)(c:List UInt8)(cp a z:Nat)(w:World)(h:Src w g o c.length cp a z)(hc:Code g w o c)(ha:a≤700000000000)(hl:c.length≤1048576)(hz:z≤12) :
  Calls Tryz.prog 64 #[.pointer (some ⟨g,0,none⟩)] w fun e w'=>∃ (t:ByteArray) (a':Nat),e=.returned (.string t)∧t.size≤400∧a'≤a+400∧Src w' g o c.length cp a' z∧w.grownBy w' (some g):=by
 have hgl:=h.lt
 have c2:=h.c2
 have HC:Hid (Code g w o c):=hc
 have hN:=srcN g o c cp a z (4+z) w h hc (by omega) hl (by omega) (by omega)
 clear h hc
 go_enter Tryz.func64,Tryz.ntmps64
 go_wp2_with fail
 refine hN.mono ?_
 rintro e w1 ⟨v,rfl,hv,hs1,hg1⟩
 have Hs1:Hid (Src w1 g o c.length cp (a+1) z):=hs1
 have Hg1:Hid (w.grownBy w1 (some g)):=hg1
 clear hN c2 hs1 hg1
 go_wp2
 go_loopw [3,4] (fun u i wr=>∃ (k:Nat) (t:ByteArray) (a':Nat),i=.int .i64 k∧u=.string t∧t.size+20*k≤321∧a'+20*k≤a+321∧Hid (Src wr g o c.length cp a' z)∧Hid (w.grownBy wr (some g))) (fun _ i _=>(Lib.intOf i).toNat)
 case atStart=>exact⟨v,_,a+1,rfl,rfl,(by show 1+20*v≤321;omega),by omega,Hs1,Hg1⟩
 case round=>
  clear Hs1 Hg1
  obtain⟨k,t,a',rfl,rfl,htk,hak,Hs,Hg⟩:=hrel
  by_cases hk:0<k
  ·have hN:=srcN g o c cp a' z 9 wr Hs.out (HC.out.grown Hg.out (Nat.le_refl _)) (by omega) hl (by omega) (by omega)
   go_wp2_with fail
   refine hN.mono ?_
   rintro e w2 ⟨v2,rfl,hv2,hs2,hg2⟩
   have Hs2:Hid (Src w2 g o c.length cp (a'+1) z):=hs2
   have Hg2:Hid (w.grownBy w2 (some g)):=gr_trans Hg.out hg2
   have hW:=srcWord g o c cp (a'+1) z w2 hs2 (HC.out.grown Hg2.out (Nat.le_refl _)) (by omega) hl
   clear hN hs2 hg2 Hs Hg
   by_cases h0:v2=0
   ·have e0:((v2:Int)==0)=true:=by rw[h0];rfl
    clear h0
    go_wp2
    go_roundw
    case rel=>exact⟨k-1,_,a'+1,by go_num,rfl,(by rw[ByteArray.size_append];show t.size+3+_≤_;omega),by omega,Hs2,Hg2⟩
    case measure=>simp[Lib.intOf];omega
   have e0:((v2:Int)==0)=false:=beq_eq_false_iff_ne.2 (by omega)
   by_cases h1:v2=1
   ·have e1:((v2:Int)==1)=true:=by rw[h1];rfl
    clear h0 h1
    go_wp2_with fail
    refine hW.mono ?_
    rintro e w3 ⟨t3,a3,rfl,ht3,ha3,hs3,hg3⟩
    have Hs3:Hid (Src w3 g o c.length cp a3 z):=hs3
    have Hg3:Hid (w.grownBy w3 (some g)):=gr_trans Hg2.out hg3
    clear hs3 hg3 hW
    go_wp2
    go_roundw
    case rel=>exact⟨k-1,_,a3,by go_num,rfl,(by simp only[ByteArray.size_append];show t.size+3+t3.size+_≤_;omega),by omega,Hs3,Hg3⟩
    case measure=>simp[Lib.intOf];omega
   have e1:((v2:Int)==1)=false:=beq_eq_false_iff_ne.2 (by omega)
   by_cases h2:v2=2
   ·have e2:((v2:Int)==2)=true:=by rw[h2];rfl
    clear h0 h1 h2
    go_wp2_with fail
    refine hW.mono ?_
    rintro e w3 ⟨t3,a3,rfl,ht3,ha3,hs3,hg3⟩
    have Hs3:Hid (Src w3 g o c.length cp a3 z):=hs3
    have Hg3:Hid (w.grownBy w3 (some g)):=gr_trans Hg2.out hg3
    clear hs3 hg3 hW
    go_wp2
    go_roundw
    case rel=>exact⟨k-1,_,a3,by go_num,rfl,(by simp only[ByteArray.size_append];show t.size+6+t3.size+1+_≤_;omega),by omega,Hs3,Hg3⟩
    case measure=>simp[Lib.intOf];omega
   have e2:((v2:Int)==2)=false:=beq_eq_false_iff_ne.2 (by omega)
   by_cases h3:v2=3
   ·have e3:((v2:Int)==3)=true:=by rw[h3];rfl
    clear h0 h1 h2 h3
    go_wp2_with fail
    refine hW.mono ?_
    rintro e w3 ⟨t3,a3,rfl,ht3,ha3,hs3,hg3⟩
    have Hs3:Hid (Src w3 g o c.length cp a3 z):=hs3
    have Hg3:Hid (w.grownBy w3 (some g)):=gr_trans Hg2.out hg3
    clear hs3 hg3 hW
    go_wp2
    go_roundw
    case rel=>exact⟨k-1,_,a3,by go_num,rfl,(by simp only[ByteArray.size_append];show t.size+4+t3.size+6+_≤_;omega),by omega,Hs3,Hg3⟩
    case measure=>simp[Lib.intOf];omega
   have e3:((v2:Int)==3)=false:=beq_eq_false_iff_ne.2 (by omega)
   by_cases h4:v2=4
   ·have e4:((v2:Int)==4)=true:=by rw[h4];rfl
    clear h0 h1 h2 h3 h4 hW
    have hbA:∀cs,Below w2.heap.size w2 (w2.alloc (.cells cs 9)):=fun cs=>(Below.refl _ _).alloc (Nat.le_refl _) _
    have hg2l:=Hg2.out.size
    have hN3:=fun cs=>srcN g o c cp (a'+1) z 11 (w2.alloc (.cells cs 9)) (Hs2.out.below (hbA cs)) (HC.out.grown (gr_trans Hg2.out (gr_below (hbA cs))) (Nat.le_refl _)) (by omega) hl (by omega) (by omega)
    have HN3:=(show Hid _ from hN3)
    clear hN3
    go_wp2_with fail
    refine(HN3.out _).mono ?_
    rintro e w3 ⟨v3,rfl,hv3,hs3,hg3⟩
    obtain⟨t3,ht3,hts⟩:=table_at (M:=12) hg3 (by omega) (show v3<11 by omega) (by decide)
    have Hs3:Hid (Src w3 g o c.length cp (a'+1+1) z):=hs3
    have Hg3:Hid (w.grownBy w3 (some g)):=gr_trans Hg2.out (gr_trans (gr_below (hbA _)) hg3)
    clear HN3 hg3 hs3 hbA Hs2 Hg2
    have hv4:v3<11:=by omega
    go_wp2
    go_roundw
    case rel=>exact⟨k-1,_,a'+1+1,by go_num,rfl,(by simp only[ByteArray.size_append];omega),by omega,Hs3,Hg3⟩
    case measure=>simp[Lib.intOf];omega
   have e4:((v2:Int)==4)=false:=beq_eq_false_iff_ne.2 (by omega)
   clear h0 h1 h2 h3 h4
   go_wp2_with fail
   refine hW.mono ?_
   rintro e w4 ⟨t4,a4,rfl,ht4,ha4,hs4,hg4⟩
   have Hs4:Hid (Src w4 g o c.length cp a4 z):=hs4
   have Hg4:Hid (w.grownBy w4 (some g)):=gr_trans Hg2.out hg4
   clear hs4 hg4 hW Hs2 Hg2
   have hbA:∀cs,Below w4.heap.size w4 (w4.alloc (.cells cs 9)):=fun cs=>(Below.refl _ _).alloc (Nat.le_refl _) _
   have hg4l:=Hg4.out.size
   have hN3:=fun cs=>srcN g o c cp a4 z 4 (w4.alloc (.cells cs 9)) (Hs4.out.below (hbA cs)) (HC.out.grown (gr_trans Hg4.out (gr_below (hbA cs))) (Nat.le_refl _)) (by omega) hl (by omega) (by omega)
   have HN3:=(show Hid _ from hN3)
   clear hN3
   go_wp2_with fail
   refine(HN3.out _).mono ?_
   rintro e w3 ⟨v3,rfl,hv3,hs3,hg3⟩
   obtain⟨t3,ht3,hts⟩:=table_at (M:=3) hg3 (by omega) (show v3<4 by omega) (by decide)
   have Hs3:Hid (Src w3 g o c.length cp (a4+1) z):=hs3
   have Hg3:Hid (w.grownBy w3 (some g)):=gr_trans Hg4.out (gr_trans (gr_below (hbA _)) hg3)
   clear HN3 hg3 hs3 hbA Hs4 Hg4
   have hv4:v3<4:=by omega
   go_wp2
   go_roundw
   case rel=>exact⟨k-1,_,a4+1,by go_num,rfl,(by simp only[ByteArray.size_append];omega),by omega,Hs3,Hg3⟩
   case measure=>simp[Lib.intOf];omega
  ·go_wp2
   go_ret
   exact⟨t,a',rfl,by omega,by omega,Hs.out,Hg.out⟩
end Go.Proofs.YtibbpmhbgbafhaaGreatDoor
