import Derived.Test.YtacaoiedcfelcaaGreatDoorBmPlain
import Derived.Test.YtacaoiedcfelcaaGreatDoorReadLine
import Derived.Test.YtacaoiedcfelcaaGreatDoorDrawOpA
import Derived.Test.YtacaoiedcfelcaaGreatDoorCkTurn
import Derived.Test.YtacaoiedcfelcaaGreatDoorOwnF
import Derived.Test.YtacaoiedcfelcaaGreatDoorNamed
import Derived.Lib.QuietBelow
import Derived.Test.YtacaoiedcfelcaaGreatDoorCkSgd
import Derived.WalkKit
set_option maxRecDepth 20000
set_option maxHeartbeats 8000000
namespace Go.Proofs.YtacaoiedcfelcaaGreatDoor
open Go.RowKit Go.Lib Go.Maps
namespace Bm
theorem nx_step (s:ByteArray)(k:Nat)(hk:k<s.size):k<Pl.nx s.data.toList (Pl.le s.data.toList k)∧Pl.nx s.data.toList (Pl.le s.data.toList k)≤s.size:=by
 have hl:s.data.toList.length=s.size:=by simp
 have h1:k≤Pl.le s.data.toList k:=Pl.first_ge _ _ _ (by omega)
 have h2:Pl.le s.data.toList k≤s.data.toList.length:=Pl.first_le _ _ _ (by omega)
 unfold Pl.nx
 split
 ·rename_i h3
  have h4:Pl.crlf s.data.toList (Pl.le s.data.toList k)=true:=Pl.first_is _ _ k (by omega) h3
  have:=((Pl.crlf_iff _ _).1 h4).1
  omega
 ·omega
theorem pre_of (s p:ByteArray)(h:((s.extract 0 p.size).toList==p.toList)=true):p.data.toList <+: s.data.toList:=by
 rw[ByteArray.toList_eq,ByteArray.toList_eq,beq_iff_eq] at h
 have e:(s.extract 0 p.size).data.toList=s.data.toList.take p.size:=by rw[Pl.ext_data,List.drop_zero,Nat.sub_zero]
 rw[← h,e]
 exact List.take_prefix _ _
theorem wBegins (s p:ByteArray)(w:World)(_hs:s.size≤1100000000)(_hp:p.size≤100) :
  Calls Tryz.prog 215 #[.string s,.string p] w fun e w'=>∃ b:Bool,e=.returned (.bool b)∧(b=true→p.data.toList <+: s.data.toList)∧w=w':=by
 by_cases h:p.size≤s.size
 ·have h2:decide ((p.size:Int)≤(s.size:Int))=true:=by simp;omega
  have h3:(p.size:Int)≤(s.size:Int):=by omega
  go_enter Tryz.func215,Tryz.ntmps215
  go_wp2
  go_ret
  exact⟨_,rfl,pre_of s p,rfl⟩
 ·have h2:decide ((p.size:Int)≤(s.size:Int))=false:=by simp;omega
  go_enter Tryz.func215,Tryz.ntmps215
  go_wp2
  go_ret
  exact⟨false,rfl,(fun h=>by cases h),rfl⟩
def markB (m:Nat):ByteArray:=⟨(mark m).toArray⟩
theorem markB_size (m:Nat)(h:m<1000000):(markB m).size≤10:=by
 have:=dec_len10 5 m (by simpa using h)
 show(mark m).toArray.size≤_
 rw[List.size_toArray]
 unfold mark
 rw[List.length_append]
 show 4+_≤_
 omega
theorem drop_ext (s:ByteArray)(k:Nat):(s.extract k s.size).data.toList=s.data.toList.drop k:=by
 rw[Pl.ext_data]
 exact List.take_of_length_le (by simp)
theorem wHas (s:ByteArray)(m:Nat)(w:World)(hs:s.size≤1000000)(hm:m<1000000) :
  Calls Tryz.prog 179 #[.string s,.string (markB m)] w fun e w'=>∃ b:Bool,e=.returned (.bool b)∧(b=true→hitT s.data.toList m)∧w=w':=by
 have hz:=markB_size m hm
 go_enter Tryz.func179,Tryz.ntmps179
 go_wp2
 go_loopw [5] (fun i wr=>∃ k:Nat,k≤s.size∧i=.int .i64 k∧wr=w) (fun i _=>s.size-(Lib.intOf i).toNat)
 case atStart=>exact⟨0,Nat.zero_le _,rfl,rfl⟩
 case round=>
  obtain⟨k,hk,rfl,rfl⟩:=hrel
  by_cases hlt:k<s.size
  ·have cL:=mkHid (specLine s k wr (by omega) hk)
   obtain⟨hn1,hn2⟩:=nx_step s k hlt
   generalize Pl.nx s.data.toList (Pl.le s.data.toList k)=N at cL hn1 hn2
   generalize Pl.le s.data.toList k=E at cL
   go_wp2_with fail
   refine cL.out.mono ?_
   rintro e w2 ⟨rfl,rfl⟩
   clear cL
   have cB:=mkHid (wBegins (s.extract k s.size) (markB m) wr (by rw[ByteArray.size_extract];omega) (by omega))
   go_wp2_with fail
   refine cB.out.mono ?_
   rintro e w2 ⟨b,rfl,hb,rfl⟩
   clear cB
   cases b
   ·clear hb
    go_wp2
    go_roundw
    case rel=>exact⟨N,hn2,by go_num,trivial⟩
    case measure=>simp[Lib.intOf];omega
   ·have HH:=mkHid (hb rfl)
    clear hb
    go_wp2
    go_ret
    refine⟨true,rfl,fun _=>⟨k,by simpa using hlt,?_⟩,rfl⟩
    have:=HH.out
    rw[drop_ext] at this
    exact this
  ·go_wp2
   go_ret
   exact⟨false,rfl,(fun h=>by cases h),rfl⟩
theorem wAny (B:Nat)(v:Value)(K:List ByteArray)(m:Nat)(w:World)(hK:OwnX B v K w)(hl:K.length≤1000)(hs:∀t ∈ K,t.size≤1000000)(hm:m<1000000) :
  Calls Tryz.prog 130 #[v,.string (markB m)] w fun e w'=>∃ b:Bool,e=.returned (.bool b)∧(b=true→hit K m)∧w=w':=by
 obtain⟨o,cap,rfl⟩:=hK.shape
 have HT:=mkHid hK.txL
 have HS:=mkHid hs
 clear hK hs
 go_enter Tryz.func130,Tryz.ntmps130
 go_wp2
 go_loopw [5] (fun i wr=>∃ k:Nat,k≤K.length∧i=.int .i64 k∧wr=w) (fun i _=>K.length-(Lib.intOf i).toNat)
 case atStart=>exact⟨0,Nat.zero_le _,rfl,rfl⟩
 case round=>
  obtain⟨k,hk,rfl,rfl⟩:=hrel
  by_cases hlt:k<K.length
  ·obtain⟨a,rfl,ha,ha2,hc⟩:=HT.out k hlt
   have cH:=mkHid (wHas K[k] m wr (HS.out _ (List.getElem_mem hlt)) hm)
   have HM:=mkHid (List.getElem_mem hlt)
   generalize K[k]=t at hc cH HM
   go_wp2_with fail
   refine cH.out.mono ?_
   rintro e w2 ⟨b,rfl,hb,rfl⟩
   clear cH
   cases b
   ·clear hb
    go_wp2
    go_roundw
    case rel=>exact⟨k+1,by omega,by go_num,trivial⟩
    case measure=>simp[Lib.intOf];omega
   ·have HH:=mkHid (hb rfl)
    clear hb
    go_wp2
    go_ret
    exact⟨true,rfl,fun _=>⟨t,HM.out,HH.out⟩,rfl⟩
  ·go_wp2
   go_ret
   exact⟨false,rfl,(fun h=>by cases h),rfl⟩
end Bm
namespace Bm
def endD (t:ByteArray):Prop:=t.data.toList.getLast?=some 45
theorem endD.app (x y:ByteArray)(h:endD y):endD (x++y):=by
 unfold endD at *
 rw[ByteArray.data_append,Array.toList_append,List.getLast?_append,h]
 rfl
theorem endD.lit:endD ⟨#[45,45]⟩:=rfl
def WrT (t:ByteArray):Prop:=t.size≤20000∨100000<t.size∨endD t
def WrOut (w:World)(E:List MdE)(i:Nat)(e:Ending)(w':World):Prop:=∃t:ByteArray,e=.returned (.string t)∧t.size≤200000+200000*(E.length-i)∧WrT t∧Below w.heap.size w w'
theorem all_add (K:List ByteArray)(t:ByteArray):all (K ++ [t])=all K+t.size:=by simp[all]
theorem all_mem (K:List ByteArray):∀t ∈ K,t.size≤all K:=by
 induction K with
 | nil=>intro t h;cases h
 | cons a r ih=>
  intro t h
  simp only[all,List.map_cons,List.sum_cons]
  rcases List.mem_cons.1 h with rfl|h
  ·omega
  ·have:=ih t h
   simp only[all] at this
   omega
theorem all_take (K:List ByteArray)(k:Nat)(h:k<K.length):all (K.take (k+1))=all (K.take k)+K[k].size:=by
 rw[List.take_succ_eq_append_getElem h,all_add]
theorem mark_cat (m:Nat):(⟨#[45,45,61,95]⟩:ByteArray)++⟨(decDigits m).toArray⟩=markB m:=Sn.ba_eq (by simp[markB,mark])
theorem all_le (K:List ByteArray)(j:Nat):all (K.take j)≤all K:=by
 unfold all
 rw[List.map_take]
 have:=congrArg List.sum (List.take_append_drop j (K.map ByteArray.size))
 rw[List.sum_append] at this
 omega
structure WrS (w:World)(ty su da:ByteArray)(v:Value)(cd:Nat)(wr:World):Prop where
 bel:Below w.heap.size w wr
 sz:w.heap.size+2≤wr.heap.size
 q2:wr.cell? ⟨w.heap.size,4,none⟩=some (.int .i64 cd)
 q3:wr.cell? ⟨w.heap.size,5,none⟩=some (.string da)
 t0:wr.cell? ⟨w.heap.size+1,0,none⟩=some (.string ty)
 t1:wr.cell? ⟨w.heap.size+1,1,none⟩=some (.string su)
 t2:wr.cell? ⟨w.heap.size+1,2,none⟩=some v
theorem WrS.same {w wr w2:World} {ty su da:ByteArray} {v:Value} {cd:Nat} (h:WrS w ty su da v cd wr)(hb:Below w.heap.size w w2)(hs:wr.heap.size≤w2.heap.size)(hk:∀k,k<w.heap.size+2→w2.heap[k]?=wr.heap[k]?):WrS w ty su da v cd w2 where
 bel:=hb
 sz:=Nat.le_trans h.sz hs
 q2:=(World.cell?_of_block (w:=wr) (a:=⟨w.heap.size,4,none⟩) (hk w.heap.size (by omega))).trans h.q2
 q3:=(World.cell?_of_block (w:=wr) (a:=⟨w.heap.size,5,none⟩) (hk w.heap.size (by omega))).trans h.q3
 t0:=(World.cell?_of_block (w:=wr) (a:=⟨w.heap.size+1,0,none⟩) (hk (w.heap.size+1) (by omega))).trans h.t0
 t1:=(World.cell?_of_block (w:=wr) (a:=⟨w.heap.size+1,1,none⟩) (hk (w.heap.size+1) (by omega))).trans h.t1
 t2:=(World.cell?_of_block (w:=wr) (a:=⟨w.heap.size+1,2,none⟩) (hk (w.heap.size+1) (by omega))).trans h.t2
theorem WrS.on {w wr w2:World} {ty su da:ByteArray} {v:Value} {cd:Nat} (h:WrS w ty su da v cd wr)(hb:Below wr.heap.size wr w2):WrS w ty su da v cd w2:=
 h.same (h.bel.trans (hb.mono h.bel.size)) hb.size (fun k hk=>hb.block k (by have:=h.sz;omega))
theorem WrS.row {w wr w2:World} {ty su da:ByteArray} {v u:Value} {cd:Nat} (h:WrS w ty su da v cd wr)(hg:wr.grownBy w2 u.ownBlock)(hv:∀q,u.ownBlock=some q→w.heap.size+2≤q):WrS w ty su da v cd w2:=
 h.same (h.bel.grown hg h.bel.size (fun q hq=>by have:=hv q hq;omega)) hg.size (fun k hk=>hg.block k (by have:=h.sz;omega) (fun e=>by have:=hv k e.symm;omega))
theorem WrS.new (w:World)(dep:Nat)(ty su da:ByteArray)(v:Value)(cd:Nat)(W2:World)(h:W2=(w.alloc (.cells #[.int .i64 dep,.string ty,.string su,v,.int .i64 cd,.string da] 143)).alloc (.cells #[.string ty,.string su,v] 141)):WrS w ty su da v cd W2:=by
 obtain⟨hb,hs,h0,h1⟩:=two_blocks h
 refine⟨hb,hs,?_,?_,?_,?_,?_⟩<;>simp[World.cell?,h0,h1]
set_option maxRecDepth 40000 in
theorem wWrite (gL cap:Nat)(E:List MdE)(hl:E.length≤100)(hok:∀e ∈ E,e.1.ok):∀(r i:Nat),E.length-i≤r→i<E.length→∀w:World,MdIn gL w E →
  Calls Tryz.prog 85 #[.slice (some ⟨gL,0,none⟩) E.length cap,.int .i64 i] w (WrOut w E i)
 | 0,i,hr,hi,_,_=>by omega
 | r+1,i,hr,hi,w,hM=>by
  have HM:=mkHid hM
  have hgl:=hM.1
  obtain⟨⟨c0,c1,c2,c3,c4,c5⟩,oq,cq,e3,hF⟩:=hM.2 i hi
  obtain⟨o1,o2,o3,o4,o5,o6,o7⟩:=hok E[i] (List.getElem_mem _)
  have HF:=mkHid hF
  have IH:=mkHid (wWrite gL cap E hl hok r)
  rw[e3] at c3
  clear hF hM e3 hok
  generalize E[i].1=e at *
  obtain⟨dep,ty,su,P,cd,da⟩:=e
  simp only at *
  go_enter Tryz.func85,Tryz.ntmps85
  go_upto_region 3 with fail
  obtain⟨W2,hW2⟩:∃V,V=(w.alloc (.cells #[.int .i64 dep,.string ty,.string su,.slice oq P.length cq,.int .i64 cd,.string da] 143)).alloc (.cells #[.string ty,.string su,.slice oq P.length cq] 141):=⟨_,rfl⟩
  have S2:Hid (WrS w ty su da (.slice oq P.length cq) cd W2):=WrS.new w dep ty su da _ cd W2 hW2
  rw[← hW2]
  clear hW2 c0 c1 c2 c3 c4 c5
  have q3:=S2.out.q3
  go_upto_region 5 with fail
  have q2:=S2.out.q2
  go_upto_block 0 with fail
  go_cut [7,8,23,29] from 200 (fun s7 s8 _ _ wx=>∃ bo co:ByteArray,s7=.string bo∧s8=.string co∧bo.size≤10000∧co.size≤100∧Hid (WrS w ty su da (.slice oq P.length cq) cd wx))
  case first=>
   have cB:=mkHid (fun W=>wBase64 da W (by omega))
   have cQ:=mkHid (fun W=>wQuoted da W (by omega))
   rcases (show cd=0∨cd=1∨cd=2 by omega) with hcd|hcd|hcd
   ·subst hcd
    go_wp2
    go_meet
    case rel=>exact⟨_,_,rfl,rfl,by omega,by decide,S2⟩
   ·subst hcd
    go_wp2_with fail
    refine(cB.out _).mono ?_
    rintro e w3 ⟨t,rfl,ht,hb3⟩
    have S3:=mkHid (S2.out.on hb3)
    go_wp2
    go_meet
    case rel=>exact⟨_,_,rfl,rfl,by omega,by decide,S3⟩
   ·subst hcd
    go_wp2_with fail
    refine(cQ.out _).mono ?_
    rintro e w3 ⟨t,rfl,ht,hb3⟩
    have S3:=mkHid (S2.out.on hb3)
    go_wp2
    go_meet
    case rel=>exact⟨_,_,rfl,rfl,by omega,by decide,S3⟩
  case rest=>
   clear S2 q2 q3
   obtain⟨bo,co,rfl,rfl,hbo,hco,S1⟩:=hcut
   have cC:=mkHid (fun W hF=>wContent8 ty su oq P cq W (by omega) (by omega) hF (by omega) o5)
   have t0:=S1.out.t0
   have t1:=S1.out.t1
   have t2:=S1.out.t2
   go_wp2_with fail
   refine(cC.out _ ((HF.out.below S1.out.bel).mono S1.out.bel.size)).mono ?_
   rintro e w3 ⟨ct,rfl,hct,hb3⟩
   have S3:=mkHid (S1.out.on hb3)
   clear hb3 S1 t0 t1 t2 cC
   have t0:=S3.out.t0
   go_upto_region 13 with fail
   go_cut [45] from 200 (fun s wx=>∃ b:Bool,s=.bool b∧wx=w3)
   case first=>
    go_wp2
    all_goals
     go_meet
     case rel=>exact⟨_,rfl,rfl⟩
   case rest=>
    clear t0
    obtain⟨b,rfl,rfl⟩:=hcut
    obtain⟨hd,hhd⟩:∃t:ByteArray,t=⟨#[67,111,110,116,101,110,116,45,84,121,112,101,58,32]⟩++ct:=⟨_,rfl⟩
    have hhz:hd.size≤8014:=by rw[hhd,ByteArray.size_append];show 14+ct.size≤_;omega
    rw[← hhd]
    clear hhd
    go_upto_if 45 with fail
    go_cut [7,9] from 200 (fun s7 s9 wx=>∃ bo he:ByteArray,s7=.string bo∧s9=.string he∧bo.size≤150000∧he.size≤8100∧Hid (bo.size≤10000∨endD bo)∧Hid (WrS w ty su da (.slice oq P.length cq) cd wx))
    case first=>
     cases b
     case false=>
      go_wp2
      go_meet
      case rel=>exact⟨_,_,rfl,rfl,by omega,by omega,.inl hbo,S3⟩
     case true=>
      go_upto_region 15 with fail
      have hsz3:=S3.out.sz
      have O0:=mkHid (OwnX.made (w.heap.size+2) wc hsz3)
      have S4:=mkHid (S3.out.on ((Below.refl wc.heap.size wc).alloc (Nat.le_refl _) (.cells #[] 9)))
      generalize wc.alloc (.cells #[] 9)=W4 at O0 S4 ⊢
      have cU:=mkHid (wUntil gL cap E i W4 (HM.out.below S4.out.bel) (by omega) hi)
      go_wp2_with fail
      refine cU.out.mono ?_
      rintro e w5 ⟨en,rfl,hen1,hen2,hb5⟩
      have S5:=mkHid (S4.out.on hb5)
      have O5:=mkHid (O0.out.below hb5)
      clear hb5 cU S4 O0 S3
      go_wp2
      go_loopw [10,12,13] (fun v al kv wr=>∃ (K:List ByteArray) (k:Nat),kv=.int .i64 k∧al=.int .i64 (all K:Nat)∧all K≤100000∧i<k∧k≤E.length∧K.length≤k∧Hid (OwnX (w.heap.size+2) v K wr)∧Hid (WrS w ty su da (.slice oq P.length cq) cd wr)) (fun _ _ kv _=>E.length-(Lib.intOf kv).toNat)
      case atStart=>exact⟨[],i+1,by go_num,rfl,by show 0≤_;omega,by omega,by omega,by simp,O5,S5⟩
      case round=>
       clear S5 O5
       obtain⟨K,k,rfl,rfl,hall,hik,hkl,hKk,OK,S5⟩:=hrel
       by_cases hke:k<en
       ·have hkE:k<E.length:=by omega
        have cW:=mkHid (IH.out k (by omega) hkE wr (HM.out.below S5.out.bel))
        go_wp2_with fail
        refine cW.out.mono ?_
        rintro e w6 ⟨t,rfl,ht,-,hb6⟩
        have S6:=mkHid (S5.out.on hb6)
        have O6:=mkHid (OK.out.below hb6)
        have hsz6:=S6.out.sz
        clear hb6 cW S5 OK
        go_wp2_with (at_builtin;go_must (refine wp_appX (w:=w6) rfl _ _ rfl (w.heap.size+2) u10 K rfl O6.out t 1 rfl (by omega) hsz6 ?_;intro v' w' hO' hG';refine Hid.out ?_))
        have O7:=mkHid hO'
        have S7:=mkHid ((S6.out.on ((Below.refl w6.heap.size w6).alloc (Nat.le_refl _) (.cells #[.string t] 9))).row hG' (fun q hq=>(World.ownsRow.lt O6.out q hq).1))
        have hadd1:all (K ++ [t])≤all K+t.size:=Nat.le_of_eq (all_add K t)
        have hadd2:all K+t.size≤all (K ++ [t]):=Nat.le_of_eq (all_add K t).symm
        have hlen1:(K ++ [t]).length≤K.length+1:=by simp
        clear hO' hG' O6 S6
        have hai:((all K:Nat):Int)+(t.size:Int)=((all (K ++ [t]):Nat):Int):=by omega
        generalize K ++ [t]=K2 at *
        by_cases hbig:100000<all K2
        ·have hbi:(100000:Int)<((all K:Nat):Int)+(t.size:Int):=by omega
         refine mkHid ?_
         go_wp2
         obtain⟨oK,cK,rfl⟩:=O7.out.shape
         go_loopw [15,16] (fun qv jv wx=>∃ (q:ByteArray) (j:Nat),qv=.string q∧jv=.int .i64 j∧j≤K2.length∧q.size≤all (K2.take j)∧Hid (all (K2.take j)≤q.size)∧wx=w') (fun _ jv _=>K2.length-(Lib.intOf jv).toNat)
         case atStart=>exact⟨⟨#[]⟩,0,rfl,rfl,Nat.zero_le _,by show 0≤_;omega,Nat.le_refl 0,rfl⟩
         case round=>
          obtain⟨q,j,rfl,rfl,hj,hq,HQ,rfl⟩:=hrel
          have hat:all (K2.take j)≤all K2:=all_le K2 j
          by_cases hjl:j<K2.length
          ·obtain⟨a,rfl,ha,ha2,hc⟩:=O7.out.txL j hjl
           have htk:=Nat.le_of_eq (all_take K2 j hjl).symm
           have HT2:=mkHid (Nat.le_of_eq (all_take K2 j hjl))
           have hat1:all (K2.take (j+1))≤all K2:=all_le K2 (j+1)
           generalize K2[j]=tj at hc htk HT2
           go_wp2
           go_roundw
           case rel=>exact⟨q++tj,j+1,rfl,by go_num,by omega,by rw[ByteArray.size_append];omega,(by have h1:=HQ.out;have h2:=HT2.out;show _≤_;rw[ByteArray.size_append];omega),trivial⟩
           case measure=>simp[Lib.intOf];omega
          ·go_wp2
           go_ret
           exact⟨q,rfl,by omega,.inr (.inl (by
            have h1:=HQ.out
            rw[List.take_of_length_le (by omega)] at h1
            omega)),S7.out.bel⟩
        ·have hbi:¬((100000:Int)<((all K:Nat):Int)+(t.size:Int)):=by omega
         have cU:=mkHid (wUntil gL cap E k w' (HM.out.below S7.out.bel) (by omega) hkE)
         refine mkHid ?_
         go_wp2_with fail
         refine cU.out.mono ?_
         rintro e w8 ⟨k2,rfl,hk2,hk3,hb8⟩
         have S8:=mkHid (S7.out.on hb8)
         have O8:=mkHid (O7.out.below hb8)
         clear hb8 cU S7 O7
         go_wp2
         go_roundw
         case rel=>exact⟨K2,k2,rfl,by first|rfl|(congr 1),by omega,by omega,by omega,by omega,O8,S8⟩
         case measure=>simp[Lib.intOf];omega
       ·have hKl:K.length≤1000:=by omega
        have hKs:∀t ∈ K,t.size≤1000000:=fun t ht=>by have:=all_mem K t ht;omega
        have HKs:=mkHid hKs
        have hfree:=mkHid (fun n h=>free K hall n h)
        have hm0:Hid (∀j,j<0→hit K j):=fun j hj=>absurd hj (Nat.not_lt_zero _)
        clear hKs
        go_wp2
        go_loopw [17] (fun nv wx=>∃ n:Nat,nv=.int .i64 n∧Hid (∀j,j<n→hit K j)∧Hid (OwnX (w.heap.size+2) u10 K wx)∧Hid (WrS w ty su da (.slice oq P.length cq) cd wx)) (fun nv _=>1000001-(Lib.intOf nv).toNat)
        case atStart=>exact⟨0,rfl,hm0,OK,S5⟩
        case round=>
         clear hm0 OK S5
         obtain⟨n,rfl,hn,OK,S5⟩:=hrel
         have hn6:n<1000000:=hfree.out n hn.out
         have cD:=mkHid (fun W=>specDec n (by omega) W)
         have hmk:=mkHid (mark_cat n)
         go_wp2_with fail
         refine(cD.out _).mono ?_
         rintro e w6 ⟨rfl,hb6⟩
         have S6:=mkHid (S5.out.on hb6)
         have O6:=mkHid (OK.out.below hb6)
         clear hb6 S5 OK
         obtain⟨db,hdb,hde⟩:=wDec n hn6
         rw[← hde] at cD hmk ⊢
         have HD:=mkHid hde
         clear hde
         have cA:=mkHid (wAny (w.heap.size+2) u10 K n w6 O6.out hKl HKs.out hn6)
         have hz6:¬9223372036854775807<4+db.size:=by omega
         have hsz6:=S6.out.sz
         go_wp2_with fail
         rw[hmk.out]
         refine cA.out.mono ?_
         rintro e w7 ⟨b,rfl,hb,rfl⟩
         cases b
         case true=>
          have hn2:Hid (∀j,j<n+1→hit K j):=fun j hj=>by
           by_cases h:j=n
           ·subst h;exact hb rfl
           ·exact hn.out j (by omega)
          clear hb hn cA cD
          go_wp2
          go_roundw
          case rel=>exact⟨n+1,by go_num,hn2,O6,S6⟩
          case measure=>simp[Lib.intOf];omega
         case false=>
          clear hb hn cA hmk
          go_wp2_with fail
          refine(cD.out _).mono ?_
          rintro e w7 ⟨rfl,hb7⟩
          have S7:=mkHid (S6.out.on hb7)
          have O7:=mkHid (O6.out.below hb7)
          clear hb7 S6 O6 cD
          go_wp2
          obtain⟨mk,hmk⟩:∃t:ByteArray,t=(⟨#[61,95]⟩:ByteArray)++db:=⟨_,rfl⟩
          have hmz:mk.size≤8:=by rw[hmk,ByteArray.size_append];show 2+db.size≤_;omega
          rw[← hmk]
          clear hmk
          obtain⟨oK,cK,rfl⟩:=O7.out.shape
          go_loopw [7,19] (fun qv jv wx=>∃ (q:ByteArray) (j:Nat),qv=.string q∧jv=.int .i64 j∧j≤K.length∧q.size≤all (K.take j)+30*j∧wx=w7) (fun _ jv _=>K.length-(Lib.intOf jv).toNat)
          case atStart=>exact⟨⟨#[]⟩,0,rfl,rfl,Nat.zero_le _,by show 0≤_;omega,rfl⟩
          case round=>
           obtain⟨q,j,rfl,rfl,hj,hq,rfl⟩:=hrel
           have hat:all (K.take j)≤all K:=all_le K j
           by_cases hjl:j<K.length
           ·obtain⟨a,rfl,ha,ha2,hc⟩:=O7.out.txL j hjl
            have htk:=Nat.le_of_eq (all_take K j hjl).symm
            have hat1:all (K.take (j+1))≤all K:=all_le K (j+1)
            generalize K[j]=tj at hc htk
            go_wp2
            go_roundw
            case rel=>exact⟨_,j+1,rfl,by go_num,by omega,by simp only[ByteArray.size_append];show q.size+2+mk.size+2+tj.size+2≤_;omega,trivial⟩
            case measure=>simp[Lib.intOf];omega
           ·go_wp2
            go_meet
            case rel=>exact⟨_,_,rfl,rfl,by simp only[ByteArray.size_append];show q.size+2+mk.size+2≤_;omega,by simp only[ByteArray.size_append];show hd.size+12+mk.size+1≤_;omega,.inr (endD.app _ _ endD.lit),S7⟩
    case rest=>
     obtain⟨bo2,he,rfl,rfl,hbo2,hhe,hE,S4⟩:=hcut
     go_wp2
     go_ret
     refine⟨_,rfl,?_,?_,S4.out.bel⟩
     ·simp only[ByteArray.size_append]
      show he.size+2+co.size+2+bo2.size≤_
      omega
     ·rcases hE.out with h|h
      ·refine .inl ?_
       simp only[ByteArray.size_append]
       show he.size+2+co.size+2+bo2.size≤_
       omega
      ·exact .inr (.inr (endD.app _ _ h))
end Bm
def Sj.named (F:List Fd)(m:ByteArray):List ByteArray:=(F.filter fun f=>namedB f.1 m).map (·.2)
theorem Sj.named_take (F:List Fd)(m:ByteArray)(k:Nat)(h:k<F.length):Sj.named (F.take (k+1)) m=Sj.named (F.take k) m++(if namedB F[k].1 m then [F[k].2] else []):=by
 unfold Sj.named
 rw[List.take_succ_eq_append_getElem h,List.filter_append,List.map_append]
 congr 1
 cases hb:namedB F[k].1 m
 ·simp[hb]
 ·simp[hb]
theorem Sj.named_len (F:List Fd)(m:ByteArray)(k:Nat):(Sj.named (F.take k) m).length≤k:=by
 unfold Sj.named
 rw[List.length_map]
 refine Nat.le_trans (List.length_filter_le _ _) ?_
 rw[List.length_take]
 omega
theorem specSameS (n m:ByteArray)(w:World)(hn:n.size≤100000)(hm:m.size≤100000) :
  Calls Tryz.prog 74 #[.string n,.string m] w fun e w'=>e=.returned (.bool (namedB n m))∧Below w.heap.size w w':=by
 have hA:=fun w=>specLower n w hn
 have hB:=fun w=>specLower m w hm
 have HE:Hid (namedB n m=((⟨(lower n.data.toList).toArray⟩:ByteArray).data.toList==(⟨(lower m.data.toList).toArray⟩:ByteArray).data.toList)):=rfl
 generalize (⟨(lower n.data.toList).toArray⟩:ByteArray)=ta at *
 generalize (⟨(lower m.data.toList).toArray⟩:ByteArray)=tb at *
 have HA:=(show Hid _ from hA)
 have HB:=(show Hid _ from hB)
 clear hA hB
 go_enter Tryz.func74,Tryz.ntmps74
 go_wp2_with fail
 refine(HA.out _).mono ?_
 rintro e w1 ⟨rfl,hb1⟩
 go_wp2_with fail
 refine(HB.out _).mono ?_
 rintro e w2 ⟨rfl,hb2⟩
 have hbq:=hb1.trans (hb2.mono hb1.size)
 go_wp2
 go_ret
 rw[HE.out,← ByteArray.toList_eq,← ByteArray.toList_eq]
 exact⟨rfl,hbq⟩
theorem Sj.namedB_size (n m:ByteArray)(h:n.size≠m.size):namedB n m=false:=by
 unfold namedB
 rw[beq_eq_false_iff_ne]
 intro e
 have:=congrArg List.length e
 simp[lower] at this
 exact h this
theorem Sj.appBelow {B:Nat} {w W W2:World} {u:ByteArray} {v:Value} {C:List ByteArray} (hb:Below B w W)(hw:B≤w.heap.size)(ho:OwnX B v C W)(hg:(W.alloc (.cells #[.string u] 9)).grownBy W2 v.ownBlock):Below B w W2:=by
 have hs:=hb.size
 exact(hb.alloc (by omega) _).grown hg (by simp;omega) (fun k hk=>(World.ownsRow.lt ho k hk).1)
set_option maxRecDepth 40000 in
theorem specFindField (o:Option Addr)(F:List Fd)(cap:Nat)(m:ByteArray)(w:World)(hF:Fld w.heap.size w o F)(hlen:F.length≤200)(hsz:∀f ∈ F,f.1.size≤100000)(hm:m.size≤70) :
  Calls Tryz.prog 84 #[.slice o F.length cap,.string m] w fun e w'=>∃ v,e=.returned v∧OwnX w.heap.size v (Sj.named F m) w'∧Below w.heap.size w w':=by
 have HF:Hid (Fld w.heap.size w o F):=hF
 have Hsz:Hid (∀f ∈ F,f.1.size≤100000):=hsz
 have g200:¬(200:Int)<(F.length:Int):=by omega
 have g70:¬(70:Int)<(m.size:Int):=by omega
 obtain⟨R,hR⟩:∃R,R=Sj.named F m:=⟨_,rfl⟩
 rw[← hR]
 have HR:Hid (R=Sj.named F m):=hR
 clear hF hsz hR
 go_enter Tryz.func84,Tryz.ntmps84
 go_wp2
 go_loopw [5,6] (fun v i wr=>∃ (k:Nat) (C:List ByteArray),k≤F.length∧i=.int .i64 k∧Hid (C=Sj.named (F.take k) m)∧OwnX w.heap.size v C wr∧Below w.heap.size w wr) (fun _ i _=>F.length-(Lib.intOf i).toNat)
 case atStart=>exact⟨0,[],Nat.zero_le _,rfl,rfl,OwnX.made _ _ (Nat.le_refl _),(Below.refl _ _).alloc (Nat.le_refl _) _⟩
 case round=>
  obtain⟨k,C,hk,rfl,hC,hown,hb⟩:=hrel
  by_cases hlt:k<F.length
  ·obtain⟨a,rfl,ha,hc0,hc1⟩:=(HF.out.below hb) k hlt
   have hfs:=Hsz.out F[k] (List.getElem_mem hlt)
   have hst:=mkHid (Sj.named_take F m k hlt)
   have hCl:C.length≤200:=by rw[hC.out];have:=Sj.named_len F m k;omega
   generalize F[k]=f at *
   have hne:=Sj.namedB_size f.1 m
   have hS:=fun w=>specSameS f.1 m w hfs (by omega)
   cases hnb:namedB f.1 m
   ·have hC2:Hid (C=Sj.named (F.take (k+1)) m):=by
     show _=_
     rw[hst.out,hnb,hC.out]
     simp
    rw[hnb] at hS
    have HS:=mkHid hS
    clear hne hst hC hnb hS HR
    by_cases he:f.1.size=m.size
    ·have he2:((f.1.size:Int)==(m.size:Int))=true:=by rw[he];simp
     have He:=mkHid he
     clear he
     go_wp2_with (go_at_call 74;go_must (refine(HS.out _).mono ?_;rintro e w1 ⟨rfl,hb1⟩))
     have hbq:=mkHid (hb.trans (hb1.mono hb.size))
     have ho2:=mkHid (hown.below hb1)
     clear hb1
     go_wp2
     go_roundw
     case rel=>exact⟨k+1,C,by omega,by go_num,hC2,ho2.out,hbq.out⟩
     case measure=>simp[Lib.intOf];omega
    ·have he2:((f.1.size:Int)==(m.size:Int))=false:=by simp;omega
     have He:=mkHid he
     clear he
     go_wp2
     go_roundw
     case rel=>exact⟨k+1,C,by omega,by go_num,hC2,hown,hb⟩
     case measure=>simp[Lib.intOf];omega
   ·have hC2:Hid (C ++ [f.2]=Sj.named (F.take (k+1)) m):=by
     show _=_
     rw[hst.out,hnb,hC.out]
     simp
    have he:f.1.size=m.size:=by
     apply Classical.byContradiction
     intro h
     rw[hne h] at hnb
     cases hnb
    have he2:((f.1.size:Int)==(m.size:Int))=true:=by rw[he];simp
    rw[hnb] at hS
    have HS:=mkHid hS
    clear hne hst hC hnb hS HR he
    have HC1:=mkHid (hc1)
    clear hc1
    go_wp2_with fail
    refine(HS.out _).mono ?_
    rintro e w1 ⟨rfl,hb1⟩
    have hbq:=mkHid (hb.trans (hb1.mono hb.size))
    have ho2:=mkHid (hown.below hb1)
    have hc1:=(hbq.out.cell (p:=⟨(a.add (k*2)).block,(a.add (k*2)).off+1,none⟩) (by rw[add_block];exact ha))
    have hz1:=hbq.out.size
    have hq1:=(hb.cell (p:=⟨(a.add (k*2)).block,(a.add (k*2)).off+1,none⟩) (by rw[add_block];exact ha)).symm.trans HC1.out
    rw[hq1] at hc1
    clear hb1 hq1 HC1 hc0
    go_wp2_with (at_builtin;go_must (refine wp_appX rfl _ _ rfl w.heap.size u5 C rfl ho2.out f.2 1 rfl (by omega) (by omega) ?_;intro y10 w10 hown10 hg10;have hb10:=mkHid (Sj.appBelow hbq.out (Nat.le_refl _) ho2.out hg10);have hown10:=mkHid hown10))
    go_roundw
    case rel=>exact⟨k+1,C ++ [f.2],by omega,by go_num,hC2,hown10.out,hb10.out⟩
    case measure=>simp[Lib.intOf];omega
  ·go_wp2
   go_ret
   have e:C=R:=by rw[hC.out,HR.out,List.take_of_length_le (by omega)]
   exact⟨_,rfl,e ▸ hown,hb⟩
namespace Bm
theorem hd_lenM (F:List (ByteArray × ByteArray))(hF:∀f ∈ F,f.1.size≤100∧f.2.size≤6100):∀p:List UInt8,(Pl.hd p F).length≤p.length+6203*F.length:=by
 induction F with
 | nil=>intro p;exact Nat.le_refl _
 | cons f r ih=>
  intro p
  rw[Pl.hd]
  split
  ·split
   ·simp
   ·have h1:=hF f (List.mem_cons_self ..)
    have h2:=ih (fun x hx=>hF x (List.mem_cons_of_mem _ hx)) (p++Pl.line f)
    have h3:(Pl.line f).length=f.1.size+f.2.size+3:=by simp[Pl.line];omega
    rw[List.length_append] at h2
    rw[List.length_cons]
    omega
  ·simp
theorem wHead (o:Option Addr)(F:List Fd)(cap:Nat)(w:World)(hF:Fld w.heap.size w o F)(hlen:F.length≤5)(hsz:∀f ∈ F,f.1.size≤100∧f.2.size≤6100) :
  Calls Tryz.prog 44 #[.slice o F.length cap] w fun e w'=>∃ t:ByteArray,e=.returned (.string t)∧t.size≤31015∧Below w.heap.size w w':=by
 refine(specWriteHead o F cap w hF (by omega) (fun f hf=>by have:=hsz f hf;omega)).mono ?_
 rintro e w' ⟨rfl,hb⟩
 refine⟨_,rfl,?_,hb⟩
 show(Pl.hd [] F).toArray.size≤_
 rw[List.size_toArray]
 have:=hd_lenM F hsz []
 simp only[List.length_nil] at this
 omega
set_option maxRecDepth 40000 in
theorem wBuild (oF:Option Addr)(F:List Fd)(cF gL cap:Nat)(E:List MdE)(w:World)(hF:Fld w.heap.size w oF F)(hlen:F.length≤5)(hsz:∀f ∈ F,f.1.size≤100∧f.2.size≤6100)(hM:MdIn gL w E)(hl:E.length≤100)(h0:0<E.length)(hok:∀e ∈ E,e.1.ok) :
  Calls Tryz.prog 40 #[.slice oF F.length cF,.slice (some ⟨gL,0,none⟩) E.length cap] w fun e w'=>∃ t:ByteArray,e=.returned (.string t)∧t.size≤100000∧(t.size≤52000∨endD t)∧Below w.heap.size w w':=by
 have HF:=mkHid hF
 have HM:=mkHid hM
 have cH:=mkHid (wHead oF F cF w hF hlen hsz)
 have cR:=mkHid (fun W hM=>wRight gL cap E W hM hl h0 hok)
 have cW:=mkHid (fun W hM=>wWrite gL cap E hl hok E.length 0 (by omega) h0 W hM)
 have cD:=mkHid (fun m hm W hF=>specFindField oF F cF m W hF (by omega) (fun f hf=>by have:=(hsz f hf).1;omega) hm)
 have hnl:∀m,(Sj.named F m).length≤100:=fun m=>by have:=Sj.named_len F m F.length;rw[List.take_length] at this;omega
 obtain⟨n,hn⟩:∃n,F.length=n:=⟨_,rfl⟩
 rw[hn] at cH cD hlen ⊢
 clear hF hM hsz hok hn
 go_enter Tryz.func40,Tryz.ntmps40
 go_wp2_with fail
 refine cH.out.mono ?_
 rintro e w1 ⟨hd,rfl,hhd,hb1⟩
 have B1:=mkHid hb1
 clear hb1 cH
 go_upto_region 2 with fail
 go_cut [35] from 200 (fun s wx=>∃ b:Bool,s=.bool b∧Hid (Below w.heap.size w wx))
 case first=>
  have m1:(⟨#[67,111,110,116,101,110,116,45,84,121,112,101]⟩:ByteArray).size≤70:=by decide
  have m2:(⟨#[67,111,110,116,101,110,116,45,84,114,97,110,115,102,101,114,45,69,110,99,111,100,105,110,103]⟩:ByteArray).size≤70:=by decide
  have cD1:=mkHid (cD.out _ m1)
  have cD2:=mkHid (cD.out _ m2)
  have cR1:=mkHid (cR.out w1 (HM.out.below B1.out))
  clear m1 m2 cD cR
  have hcase:hd.toList.isEmpty=true∨hd.toList.isEmpty=false:=by cases hd.toList.isEmpty<;>simp
  by_cases hn0:n=0
  ·subst hn0
   rcases hcase with hE|hE
   ·go_wp2_with fail
    refine cR1.out.mono ?_
    rintro e w2 ⟨b2,rfl,hb2⟩
    have B2:=mkHid (B1.out.trans (hb2.mono B1.out.size))
    clear hb2 cR1 B1
    cases b2
    case false=>
     go_wp2
     go_meet
     case rel=>exact⟨_,rfl,B2⟩
    case true=>
     have cD1':=mkHid (cD1.out w2 ((HF.out.below B2.out).mono B2.out.size))
     clear cD1
     go_wp2_with fail
     refine cD1'.out.mono ?_
     rintro e w3 ⟨v3,rfl,hO3,hb3⟩
     obtain⟨o3,c3,rfl⟩:=hO3.shape
     have B3:=mkHid (B2.out.trans (hb3.mono B2.out.size))
     clear hb3 cD1' B2 hO3
     have cD2':=mkHid (cD2.out w3 ((HF.out.below B3.out).mono B3.out.size))
     have n3:=hnl ⟨#[67,111,110,116,101,110,116,45,84,121,112,101]⟩
     generalize (Sj.named F ⟨#[67,111,110,116,101,110,116,45,84,121,112,101]⟩).length=n1 at n3 ⊢
     clear cD2
     go_wp2_with fail
     refine cD2'.out.mono ?_
     rintro e w4 ⟨v4,rfl,hO4,hb4⟩
     obtain⟨o4,c4,rfl⟩:=hO4.shape
     have B4:=mkHid (B3.out.trans (hb4.mono B3.out.size))
     clear hb4 cD2' B3 hO4
     have n4:=hnl ⟨#[67,111,110,116,101,110,116,45,84,114,97,110,115,102,101,114,45,69,110,99,111,100,105,110,103]⟩
     generalize (Sj.named F ⟨#[67,111,110,116,101,110,116,45,84,114,97,110,115,102,101,114,45,69,110,99,111,100,105,110,103]⟩).length=n2 at n4 ⊢
     go_wp2
     go_meet
     case rel=>exact⟨_,rfl,B4⟩
   ·go_wp2_with fail
    refine cR1.out.mono ?_
    rintro e w2 ⟨b2,rfl,hb2⟩
    have B2:=mkHid (B1.out.trans (hb2.mono B1.out.size))
    clear hb2 cR1 B1
    cases b2
    case false=>
     go_wp2
     go_meet
     case rel=>exact⟨_,rfl,B2⟩
    case true=>
     have cD1':=mkHid (cD1.out w2 ((HF.out.below B2.out).mono B2.out.size))
     clear cD1
     go_wp2_with fail
     refine cD1'.out.mono ?_
     rintro e w3 ⟨v3,rfl,hO3,hb3⟩
     obtain⟨o3,c3,rfl⟩:=hO3.shape
     have B3:=mkHid (B2.out.trans (hb3.mono B2.out.size))
     clear hb3 cD1' B2 hO3
     have cD2':=mkHid (cD2.out w3 ((HF.out.below B3.out).mono B3.out.size))
     have n3:=hnl ⟨#[67,111,110,116,101,110,116,45,84,121,112,101]⟩
     generalize (Sj.named F ⟨#[67,111,110,116,101,110,116,45,84,121,112,101]⟩).length=n1 at n3 ⊢
     clear cD2
     go_wp2_with fail
     refine cD2'.out.mono ?_
     rintro e w4 ⟨v4,rfl,hO4,hb4⟩
     obtain⟨o4,c4,rfl⟩:=hO4.shape
     have B4:=mkHid (B3.out.trans (hb4.mono B3.out.size))
     clear hb4 cD2' B3 hO4
     have n4:=hnl ⟨#[67,111,110,116,101,110,116,45,84,114,97,110,115,102,101,114,45,69,110,99,111,100,105,110,103]⟩
     generalize (Sj.named F ⟨#[67,111,110,116,101,110,116,45,84,114,97,110,115,102,101,114,45,69,110,99,111,100,105,110,103]⟩).length=n2 at n4 ⊢
     go_wp2
     go_meet
     case rel=>exact⟨_,rfl,B4⟩
  ·obtain⟨k,rfl⟩:∃k,n=k+1:=⟨n-1,by omega⟩
   have l1:¬((197:Int)<(k:Int)+1):=by omega
   have l2:(0:Int)<(k:Int)+1:=by omega
   clear hn0
   rcases hcase with hE|hE
   ·go_wp2
    go_meet
    case rel=>exact⟨_,rfl,B1⟩
   ·go_wp2_with fail
    refine cR1.out.mono ?_
    rintro e w2 ⟨b2,rfl,hb2⟩
    have B2:=mkHid (B1.out.trans (hb2.mono B1.out.size))
    clear hb2 cR1 B1
    cases b2
    case false=>
     go_wp2
     go_meet
     case rel=>exact⟨_,rfl,B2⟩
    case true=>
     have cD1':=mkHid (cD1.out w2 ((HF.out.below B2.out).mono B2.out.size))
     clear cD1
     go_wp2_with fail
     refine cD1'.out.mono ?_
     rintro e w3 ⟨v3,rfl,hO3,hb3⟩
     obtain⟨o3,c3,rfl⟩:=hO3.shape
     have B3:=mkHid (B2.out.trans (hb3.mono B2.out.size))
     clear hb3 cD1' B2 hO3
     have cD2':=mkHid (cD2.out w3 ((HF.out.below B3.out).mono B3.out.size))
     have n3:=hnl ⟨#[67,111,110,116,101,110,116,45,84,121,112,101]⟩
     generalize (Sj.named F ⟨#[67,111,110,116,101,110,116,45,84,121,112,101]⟩).length=n1 at n3 ⊢
     clear cD2
     go_wp2_with fail
     refine cD2'.out.mono ?_
     rintro e w4 ⟨v4,rfl,hO4,hb4⟩
     obtain⟨o4,c4,rfl⟩:=hO4.shape
     have B4:=mkHid (B3.out.trans (hb4.mono B3.out.size))
     clear hb4 cD2' B3 hO4
     have n4:=hnl ⟨#[67,111,110,116,101,110,116,45,84,114,97,110,115,102,101,114,45,69,110,99,111,100,105,110,103]⟩
     generalize (Sj.named F ⟨#[67,111,110,116,101,110,116,45,84,114,97,110,115,102,101,114,45,69,110,99,111,100,105,110,103]⟩).length=n2 at n4 ⊢
     go_wp2
     go_meet
     case rel=>exact⟨_,rfl,B4⟩
 case rest=>
  clear B1 cR cD
  obtain⟨b,rfl,B1⟩:=hcut
  cases b
  case true=>
   go_wp2
   go_ret
   exact⟨_,rfl,by show 0≤_;omega,.inl (by show 0≤_;omega),B1.out⟩
  case false=>
   have cW1:=mkHid (cW.out wc (HM.out.below B1.out))
   go_wp2_with fail
   refine cW1.out.mono ?_
   rintro e w2 ⟨t,rfl,ht,hE,hb2⟩
   have HE:=mkHid hE
   clear hE
   have B2:=mkHid (B1.out.trans (hb2.mono B1.out.size))
   clear hb2 cW cW1 B1
   have n0:¬9223372036854775807<hd.size+19+t.size:=by omega
   by_cases hbig:100000<hd.size+19+t.size
   ·have hbi:(100000:Int)<(hd.size:Int)+19+(t.size:Int):=by omega
    go_wp2
    go_ret
    exact⟨_,rfl,by show 0≤_;omega,.inl (by show 0≤_;omega),B2.out⟩
   ·have hbi:¬((100000:Int)<(hd.size:Int)+19+(t.size:Int)):=by omega
    go_wp2
    go_ret
    exact⟨_,rfl,by simp only[ByteArray.size_append];show hd.size+19+t.size≤_;omega,(by
     rcases HE.out with h|h|h
     ·refine .inl ?_
      simp only[ByteArray.size_append]
      show hd.size+19+t.size≤_
      omega
     ·omega
     ·exact .inr (endD.app _ _ h)),B2.out⟩
theorem wRight0 (o:Option Addr)(cap:Nat)(w:World):Calls Tryz.prog 83 #[.slice o 0 cap] w fun e w'=>e=.returned (.bool false)∧w=w':=by
 go_enter Tryz.func83,Tryz.ntmps83
 go_wp2
 go_ret
 exact⟨rfl,rfl⟩
set_option maxRecDepth 40000 in
theorem wBuild0 (oF:Option Addr)(F:List Fd)(cF:Nat)(oM:Option Addr)(cap:Nat)(w:World)(hF:Fld w.heap.size w oF F)(hlen:F.length≤5)(hsz:∀f ∈ F,f.1.size≤100∧f.2.size≤6100) :
  Calls Tryz.prog 40 #[.slice oF F.length cF,.slice oM 0 cap] w fun e w'=>∃ t:ByteArray,e=.returned (.string t)∧t.size≤100000∧(t.size≤52000∨endD t)∧Below w.heap.size w w':=by
 have cH:=mkHid (wHead oF F cF w hF hlen hsz)
 have cR:=mkHid (wRight0 oM cap)
 obtain⟨n,hn⟩:∃n,F.length=n:=⟨_,rfl⟩
 rw[hn] at cH hlen ⊢
 clear hF hsz hn
 go_enter Tryz.func40,Tryz.ntmps40
 go_wp2_with fail
 refine cH.out.mono ?_
 rintro e w1 ⟨hd,rfl,hhd,hb1⟩
 have B1:=mkHid hb1
 clear hb1 cH
 have hcase:hd.toList.isEmpty=true∨hd.toList.isEmpty=false:=by cases hd.toList.isEmpty<;>simp
 have l1:¬((197:Int)<(n:Int)):=by omega
 by_cases hn0:n=0
 ·subst hn0
  rcases hcase with hE|hE
  all_goals
   go_wp2_with fail
   refine(cR.out _).mono ?_
   rintro e w2 ⟨rfl,rfl⟩
   go_wp2
   go_ret
   exact⟨_,rfl,by show 0≤_;omega,.inl (by show 0≤_;omega),B1.out⟩
 ·obtain⟨k,rfl⟩:∃k,n=k+1:=⟨n-1,by omega⟩
  have l3:¬((197:Int)<(k:Int)+1):=by omega
  have l2:(0:Int)<(k:Int)+1:=by omega
  clear hn0 l1
  rcases hcase with hE|hE
  ·go_wp2
   go_ret
   exact⟨_,rfl,by show 0≤_;omega,.inl (by show 0≤_;omega),B1.out⟩
  ·go_wp2_with fail
   refine(cR.out _).mono ?_
   rintro e w2 ⟨rfl,rfl⟩
   go_wp2
   go_ret
   exact⟨_,rfl,by show 0≤_;omega,.inl (by show 0≤_;omega),B1.out⟩
end Bm
open Go.RowKit Go.Lib
set_option maxRecDepth 10000 in
theorem srcValue (g:Nat)(o:Option Addr)(c:List UInt8)(cp a z:Nat)(w:World)(h:Src w g o c.length cp a z)(hc:Code g w o c)(ha:a≤700000000000)(hl:c.length≤1048576)(hz:z≤12) :
  Calls Tryz.prog 90 #[.pointer (some ⟨g,0,none⟩)] w fun e w'=>∃ (t:ByteArray) (a':Nat),e=.returned (.string t)∧t.size≤400∧a'≤a+400∧Src w' g o c.length cp a' z∧w.grownBy w' (some g):=by
 have hgl:=h.lt
 have c2:=h.c2
 have HC:Hid (Code g w o c):=hc
 have hN:=srcN g o c cp a z (4+z) w h hc (by omega) hl (by omega) (by omega)
 clear h hc
 go_enter Tryz.func90,Tryz.ntmps90
 go_wp2_with fail
 refine hN.mono ?_
 rintro e w1 ⟨v,rfl,hv,hs1,hg1⟩
 have Hs1:Hid (Src w1 g o c.length cp (a+1) z):=hs1
 have Hg1:Hid (w.grownBy w1 (some g)):=hg1
 clear hN c2 hs1 hg1
 go_wp2
 go_loopw [3,4] (fun u i wr=>∃ (k:Nat) (t:ByteArray) (a':Nat),i=.int .i64 k∧u=.string t∧t.size+20*k≤321∧a'+20*k≤a+321∧Hid (Src wr g o c.length cp a' z)∧Hid (w.grownBy wr (some g))) (fun _ i _=>(Lib.intOf i).toNat)
 case atStart=>exact⟨v,_,a+1,rfl,rfl,(by show 1+20*v≤321;omega),by omega,Hs1,Hg1⟩
 case round=>
  clear Hs1 Hg1
  obtain⟨k,t,a',rfl,rfl,htk,hak,Hs,Hg⟩:=hrel
  by_cases hk:0<k
  ·have hN:=srcN g o c cp a' z 9 wr Hs.out (HC.out.grown Hg.out (Nat.le_refl _)) (by omega) hl (by omega) (by omega)
   go_wp2_with fail
   refine hN.mono ?_
   rintro e w2 ⟨v2,rfl,hv2,hs2,hg2⟩
   have Hs2:Hid (Src w2 g o c.length cp (a'+1) z):=hs2
   have Hg2:Hid (w.grownBy w2 (some g)):=gr_trans Hg.out hg2
   have hW:=srcWord g o c cp (a'+1) z w2 hs2 (HC.out.grown Hg2.out (Nat.le_refl _)) (by omega) hl
   clear hN hs2 hg2 Hs Hg
   by_cases h0:v2=0
   ·have e0:((v2:Int)==0)=true:=by rw[h0];rfl
    clear h0
    go_wp2
    go_roundw
    case rel=>exact⟨k-1,_,a'+1,by go_num,rfl,(by rw[ByteArray.size_append];show t.size+3+_≤_;omega),by omega,Hs2,Hg2⟩
    case measure=>simp[Lib.intOf];omega
   have e0:((v2:Int)==0)=false:=beq_eq_false_iff_ne.2 (by omega)
   by_cases h1:v2=1
   ·have e1:((v2:Int)==1)=true:=by rw[h1];rfl
    clear h0 h1
    go_wp2_with fail
    refine hW.mono ?_
    rintro e w3 ⟨t3,a3,rfl,ht3,ha3,hs3,hg3⟩
    have Hs3:Hid (Src w3 g o c.length cp a3 z):=hs3
    have Hg3:Hid (w.grownBy w3 (some g)):=gr_trans Hg2.out hg3
    clear hs3 hg3 hW
    go_wp2
    go_roundw
    case rel=>exact⟨k-1,_,a3,by go_num,rfl,(by simp only[ByteArray.size_append];show t.size+3+t3.size+_≤_;omega),by omega,Hs3,Hg3⟩
    case measure=>simp[Lib.intOf];omega
   have e1:((v2:Int)==1)=false:=beq_eq_false_iff_ne.2 (by omega)
   by_cases h2:v2=2
   ·have e2:((v2:Int)==2)=true:=by rw[h2];rfl
    clear h0 h1 h2
    go_wp2_with fail
    refine hW.mono ?_
    rintro e w3 ⟨t3,a3,rfl,ht3,ha3,hs3,hg3⟩
    have Hs3:Hid (Src w3 g o c.length cp a3 z):=hs3
    have Hg3:Hid (w.grownBy w3 (some g)):=gr_trans Hg2.out hg3
    clear hs3 hg3 hW
    go_wp2
    go_roundw
    case rel=>exact⟨k-1,_,a3,by go_num,rfl,(by simp only[ByteArray.size_append];show t.size+6+t3.size+1+_≤_;omega),by omega,Hs3,Hg3⟩
    case measure=>simp[Lib.intOf];omega
   have e2:((v2:Int)==2)=false:=beq_eq_false_iff_ne.2 (by omega)
   by_cases h3:v2=3
   ·have e3:((v2:Int)==3)=true:=by rw[h3];rfl
    clear h0 h1 h2 h3
    go_wp2_with fail
    refine hW.mono ?_
    rintro e w3 ⟨t3,a3,rfl,ht3,ha3,hs3,hg3⟩
    have Hs3:Hid (Src w3 g o c.length cp a3 z):=hs3
    have Hg3:Hid (w.grownBy w3 (some g)):=gr_trans Hg2.out hg3
    clear hs3 hg3 hW
    go_wp2
    go_roundw
    case rel=>exact⟨k-1,_,a3,by go_num,rfl,(by simp only[ByteArray.size_append];show t.size+4+t3.size+6+_≤_;omega),by omega,Hs3,Hg3⟩
    case measure=>simp[Lib.intOf];omega
   have e3:((v2:Int)==3)=false:=beq_eq_false_iff_ne.2 (by omega)
   by_cases h4:v2=4
   ·have e4:((v2:Int)==4)=true:=by rw[h4];rfl
    clear h0 h1 h2 h3 h4 hW
    have hbA:∀cs,Below w2.heap.size w2 (w2.alloc (.cells cs 9)):=fun cs=>(Below.refl _ _).alloc (Nat.le_refl _) _
    have hg2l:=Hg2.out.size
    have hN3:=fun cs=>srcN g o c cp (a'+1) z 11 (w2.alloc (.cells cs 9)) (Hs2.out.below (hbA cs)) (HC.out.grown (gr_trans Hg2.out (gr_below (hbA cs))) (Nat.le_refl _)) (by omega) hl (by omega) (by omega)
    have HN3:=(show Hid _ from hN3)
    clear hN3
    go_wp2_with fail
    refine(HN3.out _).mono ?_
    rintro e w3 ⟨v3,rfl,hv3,hs3,hg3⟩
    obtain⟨t3,ht3,hts⟩:=table_at (M:=12) hg3 (by omega) (show v3<11 by omega) (by decide)
    have Hs3:Hid (Src w3 g o c.length cp (a'+1+1) z):=hs3
    have Hg3:Hid (w.grownBy w3 (some g)):=gr_trans Hg2.out (gr_trans (gr_below (hbA _)) hg3)
    clear HN3 hg3 hs3 hbA Hs2 Hg2
    have hv4:v3<11:=by omega
    go_wp2
    go_roundw
    case rel=>exact⟨k-1,_,a'+1+1,by go_num,rfl,(by simp only[ByteArray.size_append];omega),by omega,Hs3,Hg3⟩
    case measure=>simp[Lib.intOf];omega
   have e4:((v2:Int)==4)=false:=beq_eq_false_iff_ne.2 (by omega)
   clear h0 h1 h2 h3 h4
   go_wp2_with fail
   refine hW.mono ?_
   rintro e w4 ⟨t4,a4,rfl,ht4,ha4,hs4,hg4⟩
   have Hs4:Hid (Src w4 g o c.length cp a4 z):=hs4
   have Hg4:Hid (w.grownBy w4 (some g)):=gr_trans Hg2.out hg4
   clear hs4 hg4 hW Hs2 Hg2
   have hbA:∀cs,Below w4.heap.size w4 (w4.alloc (.cells cs 9)):=fun cs=>(Below.refl _ _).alloc (Nat.le_refl _) _
   have hg4l:=Hg4.out.size
   have hN3:=fun cs=>srcN g o c cp a4 z 4 (w4.alloc (.cells cs 9)) (Hs4.out.below (hbA cs)) (HC.out.grown (gr_trans Hg4.out (gr_below (hbA cs))) (Nat.le_refl _)) (by omega) hl (by omega) (by omega)
   have HN3:=(show Hid _ from hN3)
   clear hN3
   go_wp2_with fail
   refine(HN3.out _).mono ?_
   rintro e w3 ⟨v3,rfl,hv3,hs3,hg3⟩
   obtain⟨t3,ht3,hts⟩:=table_at (M:=3) hg3 (by omega) (show v3<4 by omega) (by decide)
   have Hs3:Hid (Src w3 g o c.length cp (a4+1) z):=hs3
   have Hg3:Hid (w.grownBy w3 (some g)):=gr_trans Hg4.out (gr_trans (gr_below (hbA _)) hg3)
   clear HN3 hg3 hs3 hbA Hs4 Hg4
   have hv4:v3<4:=by omega
   go_wp2
   go_roundw
   case rel=>exact⟨k-1,_,a4+1,by go_num,rfl,(by simp only[ByteArray.size_append];omega),by omega,Hs3,Hg3⟩
   case measure=>simp[Lib.intOf];omega
  ·go_wp2
   go_ret
   exact⟨t,a',rfl,by omega,by omega,Hs.out,Hg.out⟩
namespace Pl
def beg (y:Int):Int:=(y-1)*365+(y-1) / 4-(y-1) / 100+(y-1) / 400-719162
def leap (y:Int):Bool:=((y % 4==0) && (y % 100 != 0)) || (y % 400==0)
theorem beg_next (y:Int):beg (y+1)=beg y+(if leap y then 366 else 365):=by
 unfold beg
 cases h:leap y
 ·simp only[leap,Bool.or_eq_false_iff,Bool.and_eq_false_iff,beq_eq_false_iff_ne,bne_eq_false_iff_eq,ne_eq] at h
  simp only[Bool.false_eq_true,if_false]
  omega
 ·simp only[leap,Bool.or_eq_true,Bool.and_eq_true,beq_iff_eq,bne_iff_ne,ne_eq] at h
  simp only[if_true]
  omega
theorem beg_low (y:Int)(h:1970≤y):365*(y-1970)≤beg y:=by unfold beg;omega
theorem beg_high (y:Int)(h:1970≤y):beg y≤366*(y-1970):=by unfold beg;omega
theorem beg_end (y:Int)(h:10000≤y):2932897≤beg y:=by unfold beg;omega
def yrF (d:Int):Nat→Int→Int
 | 0,y=>y
 | k+1,y=>if beg (y+1)≤d then yrF d k (y+1) else y
def fuel (d y:Int):Nat:=(d+719052-365*y).toNat
def yr (d:Int):Int:=yrF d (fuel d (1970+d / 366)) (1970+d / 366)
theorem yrF_go (d y:Int)(h1:1970≤y)(h:beg (y+1)≤d):yrF d (fuel d y) y=yrF d (fuel d (y+1)) (y+1):=by
 have hl:=beg_low (y+1) (by omega)
 obtain⟨k,hk⟩:∃k,fuel d y=k+1:=⟨fuel d y-1,by unfold fuel;omega⟩
 rw[hk,yrF,if_pos h]
 have more:∀(a b:Nat) (y:Int),1970≤y→d-365*(y-1970)<365*(a:Int)+365→d-365*(y-1970)<365*(b:Int)+365→yrF d a y=yrF d b y:=by
  intro a
  induction a with
  | zero=>
   intro b y hy ha hb
   have hn:¬beg (y+1)≤d:=by have:=beg_low (y+1) (by omega);omega
   cases b with
   | zero=>rfl
   | succ b=>rw[yrF,yrF,if_neg hn]
  | succ a ih=>
   intro b y hy ha hb
   cases b with
   | zero=>
    have hn:¬beg (y+1)≤d:=by have:=beg_low (y+1) (by omega);omega
    rw[yrF,yrF,if_neg hn]
   | succ b=>
    rw[yrF,yrF]
    split
    ·exact ih b (y+1) (by omega) (by omega) (by omega)
    ·rfl
 refine more k (fuel d (y+1)) (y+1) (by omega) ?_ ?_
 ·have:(fuel d y:Int)=d+719052-365*y:=by unfold fuel;omega
  omega
 ·unfold fuel;omega
theorem yrF_stop (d y:Int)(n:Nat)(h:¬beg (y+1)≤d):yrF d n y=y:=by
 cases n with
 | zero=>rfl
 | succ n=>rw[yrF,if_neg h]
theorem beg_first (d:Int)(h0:0≤d):beg (1970+d / 366)≤d:=by
 have:=beg_high (1970+d / 366) (by omega)
 omega
def dm (y m:Int):Int:=if m=4∨m=6∨m=9∨m=11 then 30 else if m=2 then (if leap y then 29 else 28) else 31
theorem dm_pos (y m:Int):28≤dm y m∧dm y m≤31:=by unfold dm;split<;>(try split)<;>(try split)<;>omega
def tail (y m:Int):Int:=(if m≤1 then 31 else 0)+(if m≤2 then (if leap y then 29 else 28) else 0)+(if m≤3 then 31 else 0)+(if m≤4 then 30 else 0)+(if m≤5 then 31 else 0)+(if m≤6 then 30 else 0)+(if m≤7 then 31 else 0)+(if m≤8 then 31 else 0)+(if m≤9 then 30 else 0)+(if m≤10 then 31 else 0)+(if m≤11 then 30 else 0)+(if m≤12 then 31 else 0)
theorem cases12 (m:Int)(h1:1≤m)(h2:m≤12):m=1∨m=2∨m=3∨m=4∨m=5∨m=6∨m=7∨m=8∨m=9∨m=10∨m=11∨m=12:=by omega
theorem tail_step (y m:Int)(h1:1≤m)(h2:m≤12):tail y m=dm y m+tail y (m+1):=by
 rcases cases12 m h1 h2 with rfl|rfl|rfl|rfl|rfl|rfl|rfl|rfl|rfl|rfl|rfl|rfl<;>cases h:leap y<;>simp[tail,dm,h]
theorem tail_one (y:Int):tail y 1=if leap y then 366 else 365:=by
 cases h:leap y<;>simp[tail,h]
theorem tail_end (y:Int):tail y 13=0:=by simp[tail]
def moF (y:Int):Nat→Int→Int→Int × Int
 | 0,d,m=>(m,d)
 | k+1,d,m=>if dm y m≤d then moF y k (d-dm y m) (m+1) else (m,d)
def mo (d:Int):Int × Int:=moF (yr d) 12 (d-beg (yr d)) 1
theorem moF_go (y d m:Int)(k:Nat)(hk:(k:Int)=13-m)(h1:1≤m)(h2:m≤12)(h:dm y m≤d):moF y k d m=moF y (k-1) (d-dm y m) (m+1):=by
 obtain⟨j,rfl⟩:∃j,k=j+1:=⟨k-1,by omega⟩
 rw[moF,if_pos h]
 rfl
theorem moF_stop (y d m:Int)(k:Nat)(h:¬dm y m≤d):moF y k d m=(m,d):=by
 cases k with
 | zero=>rfl
 | succ k=>rw[moF,if_neg h]
end Pl
end Go.Proofs.YtacaoiedcfelcaaGreatDoor
