import Derived.Test.YtacaoiedcfelcaaGreatDoorOwnF
import Derived.Test.YtacaoiedcfelcaaGreatDoorBmContB
import Derived.OrdersHeld
import Derived.Test.YtacaoiedcfelcaaGreatDoorBmValB
import Derived.Test.YtacaoiedcfelcaaGreatDoorDrawOpB
import Derived.Deep.CutBlock
import Derived.Deep.DeepCutAuto
import Derived.Deep.Cut
import Derived.Test.YtacaoiedcfelcaaGreatDoorCkRel
set_option maxRecDepth 20000
set_option maxHeartbeats 8000000
namespace Go.Proofs.YtacaoiedcfelcaaGreatDoor
open Go.RowKit Go.Lib
namespace Bm
theorem fieldB (b:Bool)(x:Value)(w:World):Sem.run Tryz.prog (Instr.field 147 (.agg #[.bool b,x]) 0) w=.ok (.bool b) w:=by kernel_rfl
def RtS (B gL k dep dq:Nat)(W:World):Prop:=W.cell? ⟨B,0,none⟩=some (.int .i64 dep)∧(0<k→W.cell? ⟨gL,(k-1)*6,none⟩=some (.int .i64 dq))
set_option maxRecDepth 40000 in
theorem wRight (gL cap:Nat)(E:List MdE)(w:World)(hE:MdIn gL w E)(hl:E.length≤100)(h0:0<E.length)(hok:∀e ∈ E,e.1.ok) :
  Calls Tryz.prog 83 #[.slice (some ⟨gL,0,none⟩) E.length cap] w (BoolOut w):=by
 have HE:=mkHid hE
 have Hok:=mkHid hok
 clear hE hok
 go_enter Tryz.func83,Tryz.ntmps83
 go_upto_region 1 with fail
 go_cut [21] from 200 (fun s wx=>∃ b:Bool,s=.bool b∧wx=w)
 case first=>
  have hgl:=HE.out.1
  obtain⟨⟨c0,-⟩,-⟩:=HE.out.2 0 h0
  rw[Nat.zero_mul] at c0
  generalize E[0].1.dep=d at *
  have l1:¬((E.length:Int)<1):=by omega
  have l2:¬((200:Int)<(E.length:Int)):=by omega
  have l3:(0:Int)<(E.length:Int):=by omega
  cases hd:((d:Int)==0)
  all_goals
   go_wp2
   go_meet
   case rel=>exact⟨_,rfl,rfl⟩
 case rest=>
  obtain⟨b,rfl,rfl⟩:=hcut
  cases b
  case true=>
   go_wp2
   go_ret
   exact⟨_,rfl,Below.refl _ _⟩
  case false=>
   go_wp2
   go_loopw [3,4] (fun al i wr=>∃ (k m:Nat),k≤E.length∧i=.int .i64 k∧al=.int .i64 m∧m≤1000*k∧Hid (Below wc.heap.size wc wr)) (fun _ i _=>E.length-(Lib.intOf i).toNat)
   case atStart=>exact⟨0,0,Nat.zero_le _,rfl,rfl,by omega,Below.refl _ _⟩
   case round=>
    obtain⟨k,m,hk,rfl,rfl,hm,HB⟩:=hrel
    by_cases hlt:k<E.length
    ·have hM:=HE.out.below HB.out
     have hgl:=hM.1
     obtain⟨⟨c0,c1,c2,c3,c4,c5⟩,oq,cq,e3,hF⟩:=hM.2 k hlt
     obtain⟨o1,o2,o3,o4,o5,o6,o7⟩:=Hok.out E[k] (List.getElem_mem _)
     have HF:=mkHid hF
     have HM:=mkHid hM
     rw[e3] at c3
     clear hF hM e3
     generalize hEk:E[k].1=e at *
     have HEk:=mkHid hEk
     clear hEk
     obtain⟨dep,ty,su,P,cd,da⟩:=e
     simp only at *
     go_upto_region 8 with fail
     obtain⟨CS,hCS⟩:∃cs:Array Value,cs=#[.int .i64 dep,.string ty,.string su,.slice oq P.length cq,.int .i64 cd,.string da]:=⟨_,rfl⟩
     have B0:Hid (BxW wr CS 143 (wr.alloc (.cells #[.int .i64 dep,.string ty,.string su,.slice oq P.length cq,.int .i64 cd,.string da] 143))):=by rw[← hCS];exact BxW.new _ _ _
     have hC0:Hid (CS[0]?=some (.int .i64 dep)):=by rw[hCS];rfl
     have hC1:Hid (CS[1]?=some (.string ty)):=by rw[hCS];rfl
     have hC2:Hid (CS[2]?=some (.string su)):=by rw[hCS];rfl
     have hC3:Hid (CS[3]?=some (.slice oq P.length cq)):=by rw[hCS];rfl
     have hC4:Hid (CS[4]?=some (.int .i64 cd)):=by rw[hCS];rfl
     have hC5:Hid (CS[5]?=some (.string da)):=by rw[hCS];rfl
     generalize wr.alloc (.cells #[.int .i64 dep,.string ty,.string su,.slice oq P.length cq,.int .i64 cd,.string da] 143)=W1 at B0 ⊢
     clear hCS c0 c1 c2 c3 c4 c5
     have q5:=(B0.out.cell 5).trans hC5.out
     go_upto_region 9 with fail
     clear q5
     obtain⟨dq,hdq⟩:∃dq:Nat,dq≤3∧(0<k→W1.cell? ⟨gL,(k-1)*6,none⟩=some (.int .i64 dq)):=by
      by_cases hk0:0<k
      ·have hk1:k-1<E.length:=by omega
       obtain⟨⟨c0,-⟩,-⟩:=(HM.out.below B0.out.2).2 (k-1) hk1
       exact⟨_,(Hok.out E[k-1] (List.getElem_mem _)).1,fun _=>c0⟩
      ·exact⟨0,by omega,fun h=>absurd h hk0⟩
     have hdq3:=hdq.1
     have HS:Hid (RtS wr.heap.size gL k dep dq W1.drew):=⟨(B0.out.cell 0).trans hC0.out,hdq.2⟩
     clear hdq
     go_cut [60] from 200 (fun s wx=>∃ b:Bool,s=.bool b∧Hid (BxW wr CS 143 wx))
     case first=>
      have BD:=mkHid (B0.out.on (Below.refl W1.heap.size W1).drew)
      have m1:IntKind.i64.wrap ((k:Int)-1)=(k:Int)-1:=wrap_inB _ (by omega) (by omega)
      have m2:IntKind.i64.wrap ((dq:Int)+1)=(dq:Int)+1:=wrap_inB _ (by omega) (by omega)
      have m3:((k:Int)-1).toNat=k-1:=by omega
      have m4:(k:Int)-1<(E.length:Int):=by omega
      clear B0 HB HM HF HE
      by_cases hk0:0<k
      ·have m5:(0:Int)≤(k:Int)-1:=by omega
       by_cases hd1:dep<1
       ·have f1:((dep:Int)<1):=by omega
        go_wp2
        refine wp_region_held (S:=RtS wr.heap.size gL k dep dq) (by kernel_rfl) ?_
        refine tk 0 (.int .i64 k) HS.out ?_ ?_
        ·rintro W ⟨s0,s1⟩
         go_simp
        go_simp
        refine tk 1 (.bool true) HS.out ?_ ?_
        ·rintro W ⟨s0,s1⟩
         go_simp
        go_simp
        refine tk 2 (.bool true) HS.out ?_ ?_
        ·rintro W ⟨s0,s1⟩
         go_simp
        go_simp
        refine tk 3 (.pointer (some ⟨wr.heap.size,0,none⟩)) HS.out ?_ ?_
        ·rintro W ⟨s0,s1⟩
         go_simp
        go_simp
        refine tk 4 (.int .i64 dep) HS.out ?_ ?_
        ·rintro W ⟨s0,s1⟩
         go_simp
        go_simp
        refine tk 5 (.bool true) HS.out ?_ ?_
        ·rintro W ⟨s0,s1⟩
         go_simp
        go_simp
        refine tk 6 (.bool true) HS.out ?_ ?_
        ·rintro W ⟨s0,s1⟩
         go_simp
        go_simp
        refine tn 7 HS.out ?_
        go_simp
        refine tn 8 HS.out ?_
        go_simp
        refine tn 9 HS.out ?_
        go_simp
        refine tn 10 HS.out ?_
        go_simp
        refine tn 11 HS.out ?_
        go_simp
        refine tn 12 HS.out ?_
        go_simp
        refine tn 13 HS.out ?_
        go_simp
        refine tn 14 HS.out ?_
        go_simp
        refine tn 15 HS.out ?_
        go_simp
        refine tn 16 HS.out ?_
        go_simp
        refine tk 17 (.bool true) HS.out ?_ ?_
        ·rintro W ⟨s0,s1⟩
         go_simp
        go_simp
        refine tk 18 (.bool true) HS.out ?_ ?_
        ·rintro W ⟨s0,s1⟩
         go_simp
        go_simp
        refine tn 19 HS.out ?_
        go_simp
        refine tn 20 HS.out ?_
        go_simp
        refine tn 21 HS.out ?_
        go_simp
        refine tk 22 (.bool true) HS.out ?_ ?_
        ·rintro W ⟨s0,s1⟩
         go_simp
        go_simp
        refine tk 23 (.bool true) HS.out ?_ ?_
        ·rintro W ⟨s0,s1⟩
         go_simp
        go_simp
        refine wpAnyH_done (by kernel_rfl) ?_ _
        go_simp
        go_wp2
        go_meet
        case rel=>exact⟨_,rfl,BD⟩
       ·have f1:¬((dep:Int)<1):=by omega
        by_cases hd2:dq+1<dep
        ·have f2:(dq:Int)+1<(dep:Int):=by omega
         go_wp2
         refine wp_region_held (S:=RtS wr.heap.size gL k dep dq) (by kernel_rfl) ?_
         refine tk 0 (.int .i64 k) HS.out ?_ ?_
         ·rintro W ⟨s0,s1⟩
          go_simp
         go_simp
         refine tk 1 (.bool true) HS.out ?_ ?_
         ·rintro W ⟨s0,s1⟩
          go_simp
         go_simp
         refine tk 2 (.bool true) HS.out ?_ ?_
         ·rintro W ⟨s0,s1⟩
          go_simp
         go_simp
         refine tk 3 (.pointer (some ⟨wr.heap.size,0,none⟩)) HS.out ?_ ?_
         ·rintro W ⟨s0,s1⟩
          go_simp
         go_simp
         refine tk 4 (.int .i64 dep) HS.out ?_ ?_
         ·rintro W ⟨s0,s1⟩
          go_simp
         go_simp
         refine tk 5 (.bool false) HS.out ?_ ?_
         ·rintro W ⟨s0,s1⟩
          go_simp
         go_simp
         refine tk 6 (.bool false) HS.out ?_ ?_
         ·rintro W ⟨s0,s1⟩
          go_simp
         go_simp
         refine tk 7 (.pointer (some ⟨wr.heap.size,0,none⟩)) HS.out ?_ ?_
         ·rintro W ⟨s0,s1⟩
          go_simp
         go_simp
         refine tk 8 (.int .i64 dep) HS.out ?_ ?_
         ·rintro W ⟨s0,s1⟩
          go_simp
         go_simp
         refine tk 9 (.slice (some ⟨gL,0,none⟩) E.length cap) HS.out ?_ ?_
         ·rintro W ⟨s0,s1⟩
          go_simp
         go_simp
         refine tk 10 (.int .i64 k) HS.out ?_ ?_
         ·rintro W ⟨s0,s1⟩
          go_simp
         go_simp
         refine tk 11 (.int .i64 ((k:Int)-1)) HS.out ?_ ?_
         ·rintro W ⟨s0,s1⟩
          go_simp
         go_simp
         refine tk 12 (.pointer (some ⟨gL,(k-1)*6,none⟩)) HS.out ?_ ?_
         ·rintro W ⟨s0,s1⟩
          go_simp
          all_goals first|done|(intro h;exfalso;omega)
         go_simp
         refine tk 13 (.pointer (some ⟨gL,(k-1)*6,none⟩)) HS.out ?_ ?_
         ·rintro W ⟨s0,s1⟩
          go_simp
         go_simp
         refine tk 14 (.int .i64 dq) HS.out ?_ ?_
         ·rintro W ⟨s0,s1⟩
          have s2:=s1 hk0
          go_simp
         go_simp
         refine tk 15 (.int .i64 ((dq:Int)+1)) HS.out ?_ ?_
         ·rintro W ⟨s0,s1⟩
          go_simp
         go_simp
         refine tk 16 (.bool true) HS.out ?_ ?_
         ·rintro W ⟨s0,s1⟩
          go_simp
         go_simp
         refine tk 17 (.bool true) HS.out ?_ ?_
         ·rintro W ⟨s0,s1⟩
          go_simp
         go_simp
         refine tk 18 (.bool true) HS.out ?_ ?_
         ·rintro W ⟨s0,s1⟩
          go_simp
         go_simp
         refine tn 19 HS.out ?_
         go_simp
         refine tn 20 HS.out ?_
         go_simp
         refine tn 21 HS.out ?_
         go_simp
         refine tk 22 (.bool true) HS.out ?_ ?_
         ·rintro W ⟨s0,s1⟩
          go_simp
         go_simp
         refine tk 23 (.bool true) HS.out ?_ ?_
         ·rintro W ⟨s0,s1⟩
          go_simp
         go_simp
         refine wpAnyH_done (by kernel_rfl) ?_ _
         go_simp
         go_wp2
         go_meet
         case rel=>exact⟨_,rfl,BD⟩
        ·have f2:¬((dq:Int)+1<(dep:Int)):=by omega
         have f3:¬((20:Int)<(dep:Int)):=by omega
         go_wp2
         refine wp_region_held (S:=RtS wr.heap.size gL k dep dq) (by kernel_rfl) ?_
         refine tk 0 (.int .i64 k) HS.out ?_ ?_
         ·rintro W ⟨s0,s1⟩
          go_simp
         go_simp
         refine tk 1 (.bool true) HS.out ?_ ?_
         ·rintro W ⟨s0,s1⟩
          go_simp
         go_simp
         refine tk 2 (.bool true) HS.out ?_ ?_
         ·rintro W ⟨s0,s1⟩
          go_simp
         go_simp
         refine tk 3 (.pointer (some ⟨wr.heap.size,0,none⟩)) HS.out ?_ ?_
         ·rintro W ⟨s0,s1⟩
          go_simp
         go_simp
         refine tk 4 (.int .i64 dep) HS.out ?_ ?_
         ·rintro W ⟨s0,s1⟩
          go_simp
         go_simp
         refine tk 5 (.bool false) HS.out ?_ ?_
         ·rintro W ⟨s0,s1⟩
          go_simp
         go_simp
         refine tk 6 (.bool false) HS.out ?_ ?_
         ·rintro W ⟨s0,s1⟩
          go_simp
         go_simp
         refine tk 7 (.pointer (some ⟨wr.heap.size,0,none⟩)) HS.out ?_ ?_
         ·rintro W ⟨s0,s1⟩
          go_simp
         go_simp
         refine tk 8 (.int .i64 dep) HS.out ?_ ?_
         ·rintro W ⟨s0,s1⟩
          go_simp
         go_simp
         refine tk 9 (.slice (some ⟨gL,0,none⟩) E.length cap) HS.out ?_ ?_
         ·rintro W ⟨s0,s1⟩
          go_simp
         go_simp
         refine tk 10 (.int .i64 k) HS.out ?_ ?_
         ·rintro W ⟨s0,s1⟩
          go_simp
         go_simp
         refine tk 11 (.int .i64 ((k:Int)-1)) HS.out ?_ ?_
         ·rintro W ⟨s0,s1⟩
          go_simp
         go_simp
         refine tk 12 (.pointer (some ⟨gL,(k-1)*6,none⟩)) HS.out ?_ ?_
         ·rintro W ⟨s0,s1⟩
          go_simp
          all_goals first|done|(intro h;exfalso;omega)
         go_simp
         refine tk 13 (.pointer (some ⟨gL,(k-1)*6,none⟩)) HS.out ?_ ?_
         ·rintro W ⟨s0,s1⟩
          go_simp
         go_simp
         refine tk 14 (.int .i64 dq) HS.out ?_ ?_
         ·rintro W ⟨s0,s1⟩
          have s2:=s1 hk0
          go_simp
         go_simp
         refine tk 15 (.int .i64 ((dq:Int)+1)) HS.out ?_ ?_
         ·rintro W ⟨s0,s1⟩
          go_simp
         go_simp
         refine tk 16 (.bool false) HS.out ?_ ?_
         ·rintro W ⟨s0,s1⟩
          go_simp
         go_simp
         refine tk 17 (.bool false) HS.out ?_ ?_
         ·rintro W ⟨s0,s1⟩
          go_simp
         go_simp
         refine tk 18 (.bool false) HS.out ?_ ?_
         ·rintro W ⟨s0,s1⟩
          go_simp
         go_simp
         refine tk 19 (.pointer (some ⟨wr.heap.size,0,none⟩)) HS.out ?_ ?_
         ·rintro W ⟨s0,s1⟩
          go_simp
         go_simp
         refine tk 20 (.int .i64 dep) HS.out ?_ ?_
         ·rintro W ⟨s0,s1⟩
          go_simp
         go_simp
         refine tk 21 (.bool false) HS.out ?_ ?_
         ·rintro W ⟨s0,s1⟩
          go_simp
         go_simp
         refine tk 22 (.bool false) HS.out ?_ ?_
         ·rintro W ⟨s0,s1⟩
          go_simp
         go_simp
         refine tk 23 (.bool false) HS.out ?_ ?_
         ·rintro W ⟨s0,s1⟩
          go_simp
         go_simp
         refine wpAnyH_done (by kernel_rfl) ?_ _
         go_simp
         go_wp2
         go_meet
         case rel=>exact⟨_,rfl,BD⟩
      ·skip
       go_wp2
       refine wp_region_held (S:=RtS wr.heap.size gL k dep dq) (by kernel_rfl) ?_
       refine tk 0 (.int .i64 k) HS.out ?_ ?_
       ·rintro W ⟨s0,s1⟩
        go_simp
       go_simp
       refine tk 1 (.bool false) HS.out ?_ ?_
       ·rintro W ⟨s0,s1⟩
        go_simp
       go_simp
       refine tk 2 (.bool false) HS.out ?_ ?_
       ·rintro W ⟨s0,s1⟩
        go_simp
       go_simp
       refine tn 3 HS.out ?_
       go_simp
       refine tn 4 HS.out ?_
       go_simp
       refine tn 5 HS.out ?_
       go_simp
       refine tn 6 HS.out ?_
       go_simp
       refine tn 7 HS.out ?_
       go_simp
       refine tn 8 HS.out ?_
       go_simp
       refine tn 9 HS.out ?_
       go_simp
       refine tn 10 HS.out ?_
       go_simp
       refine tn 11 HS.out ?_
       go_simp
       refine tn 12 HS.out ?_
       go_simp
       refine tn 13 HS.out ?_
       go_simp
       refine tn 14 HS.out ?_
       go_simp
       refine tn 15 HS.out ?_
       go_simp
       refine tn 16 HS.out ?_
       go_simp
       refine tn 17 HS.out ?_
       go_simp
       refine tn 18 HS.out ?_
       go_simp
       refine tn 19 HS.out ?_
       go_simp
       refine tn 20 HS.out ?_
       go_simp
       refine tn 21 HS.out ?_
       go_simp
       refine tn 22 HS.out ?_
       go_simp
       refine tk 23 (.bool false) HS.out ?_ ?_
       ·rintro W ⟨s0,s1⟩
        go_simp
       go_simp
       refine wpAnyH_done (by kernel_rfl) ?_ _
       go_simp
       go_wp2
       go_meet
       case rel=>exact⟨_,rfl,BD⟩
     case rest=>
      clear HS B0
      obtain⟨b,rfl,B1⟩:=hcut
      have HB1:=mkHid (HB.out.trans (B1.out.2.mono HB.out.size))
      cases b
      case true=>
       go_wp2
       go_ret
       exact⟨_,rfl,HB1.out⟩
      case false=>
       clear HB1
       have cC:=mkHid (fun W hF=>wContent8 ty su oq P cq W (by omega) (by omega) hF (by omega) o5)
       go_upto_region 11 with fail
       go_cut [90] from 200 (fun s wx=>∃ b:Bool,s=.bool b∧Hid (BxW wr CS 143 wx))
       case first=>
        have q1:=(B1.out.cell 1).trans hC1.out
        have q2:=(B1.out.cell 2).trans hC2.out
        have q3:=(B1.out.cell 3).trans hC3.out
        go_wp2_with fail
        refine(cC.out _ ((HF.out.below B1.out.2).mono B1.out.2.size)).mono ?_
        rintro e w2 ⟨t,rfl,ht,hb2⟩
        have B2:=mkHid (B1.out.on hb2)
        clear hb2 B1 q1 q2 q3 cC
        have q1:=(B2.out.cell 1).trans hC1.out
        have q2:=(B2.out.cell 2).trans hC2.out
        have q4:=(B2.out.cell 4).trans hC4.out
        have l1:¬((cd:Int)<0):=by omega
        have l2:¬((2:Int)<(cd:Int)):=by omega
        have l3:¬((100000:Int)<(m:Int)+(da.size:Int)):=by omega
        by_cases ht0:t.size=0
        ·have hE0:=isEmpty_of t ht0
         go_wp2
         go_meet
         case rel=>exact⟨_,rfl,B2⟩
        ·have hE0:=isEmpty_ne t ht0
         by_cases hs0:su.size=0
         ·have hE1:=isEmpty_of su hs0
          go_wp2
          go_meet
          case rel=>exact⟨_,rfl,B2⟩
         ·have hE1:=isEmpty_ne su hs0
          go_wp2
          all_goals
           go_meet
           case rel=>exact⟨_,rfl,B2⟩
       case rest=>
        clear B1 cC
        obtain⟨b,rfl,B1⟩:=hcut
        have HB1:=mkHid (HB.out.trans (B1.out.2.mono HB.out.size))
        cases b
        case true=>
         go_wp2
         go_ret
         exact⟨_,rfl,HB1.out⟩
        case false=>
         clear HB1
         have cU:=mkHid (wUntil gL cap E k _ (HM.out.below B1.out.2) (by omega) hlt)
         go_upto_region 13 with fail
         go_cut [6] from 200 (fun s wx=>∃ pr:Bool,s=.bool pr∧Hid (BxW wr CS 143 wx))
         case first=>
          go_wp2_with fail
          refine cU.out.mono ?_
          rintro e w3 ⟨r,rfl,hr1,hr2,hb3⟩
          have B3:=mkHid (B1.out.on hb3)
          clear hb3 cU B1
          go_wp2
          go_meet
          case rel=>exact⟨_,rfl,B3⟩
         case rest=>
          clear B1 cU
          obtain⟨pr,rfl,B3⟩:=hcut
          have HB3:=mkHid (HB.out.trans (B3.out.2.mono HB.out.size))
          go_upto_region 14 with fail
          go_cut [100] from 200 (fun s wx=>∃ b:Bool,s=.bool b∧wx=wc)
          case first=>
           have q1:=(B3.out.cell 1).trans hC1.out
           go_wp2
           all_goals
            go_meet
            case rel=>exact⟨_,rfl,rfl⟩
          case rest=>
           obtain⟨b,rfl,rfl⟩:=hcut
           cases b
           case false=>
            cases pr
            ·go_wp2
             go_roundw
             case rel=>exact⟨k+1,m+da.size,by omega,by go_num,by go_num,by omega,HB3⟩
             case measure=>simp[Lib.intOf];omega
            ·go_wp2
             go_ret
             exact⟨_,rfl,HB3.out⟩
           case true=>
            clear HB3
            go_upto_region 15 with fail
            go_cut [31,125] from 200 (fun _ s wx=>∃ b:Bool,s=.bool b∧Hid (BxW wr CS 143 wx))
            case first=>
             have q1:=(B3.out.cell 1).trans hC1.out
             have q2:=(B3.out.cell 2).trans hC2.out
             have q3:=(B3.out.cell 3).trans hC3.out
             have q4:=(B3.out.cell 4).trans hC4.out
             have q5:=(B3.out.cell 5).trans hC5.out
             have cP:=mkHid (wParamOf ty su ⟨#[98,111,117,110,100,97,114,121]⟩ oq P cq _ ((HF.out.below B3.out.2).mono B3.out.2.size) (by omega))
             have p32:((P.length:Int)==32)=false:=by simp;omega
             by_cases hcd:cd=0
             ·subst hcd
              by_cases hda:da.size=0
              ·have hE:=isEmpty_of da hda
               clear hda
               cases pr
               ·go_wp2
                go_meet
                case rel=>exact⟨_,rfl,B3⟩
               ·go_wp2_with fail
                refine cP.out.mono ?_
                rintro e w4 ⟨b4,t4,rfl,hb4⟩
                have B4:=mkHid (B3.out.on hb4)
                clear hb4 cP B3 q1 q2 q3 q4 q5
                have q3:=(B4.out.cell 3).trans hC3.out
                cases b4
                all_goals
                 go_wp2_with fail
                 try (rw[fieldB];go_wp2)
                 go_meet
                 case rel=>exact⟨_,rfl,B4⟩
              ·have hE:=isEmpty_ne da hda
               clear hda
               go_wp2
               go_meet
               case rel=>exact⟨_,rfl,B3⟩
             ·have hcd1:¬((cd:Int)=0):=by omega
              clear hcd
              go_wp2
              go_meet
              case rel=>exact⟨_,rfl,B3⟩
            case rest=>
             clear B3
             obtain⟨b,rfl,B3⟩:=hcut
             have HB3:=mkHid (HB.out.trans (B3.out.2.mono HB.out.size))
             cases b
             ·go_wp2
              go_roundw
              case rel=>exact⟨k+1,m+da.size,by omega,by go_num,by go_num,by omega,HB3⟩
              case measure=>simp[Lib.intOf];omega
             ·go_wp2
              go_ret
              exact⟨_,rfl,HB3.out⟩
    ·go_wp2
     go_ret
     exact⟨_,rfl,HB.out⟩
end Bm
namespace Bm
def BitOut (w:World)(e:Ending)(w':World):Prop:=∃b:Bool,e=.returned (.bool b)∧w=w'
theorem wEndAt (s:ByteArray)(i:Nat)(w:World)(hs:s.size≤100000)(hi:i≤200000):Calls Tryz.prog 178 #[.string s,.int .i64 i] w (BitOut w):=by
 by_cases h1:i<s.size
 ·have h8:s[i].toNat<256:=UInt8.toNat_lt _
  by_cases h2:i+1<s.size
  ·have h9:s[i+1].toNat<256:=UInt8.toNat_lt _
   cases h13:((s[i].toNat:Int)==13)
   all_goals
    go_enter Tryz.func178,Tryz.ntmps178
    go_wp2
    go_ret
    exact⟨_,rfl,rfl⟩
  ·cases h13:((s[i].toNat:Int)==13)
   all_goals
    go_enter Tryz.func178,Tryz.ntmps178
    go_wp2
    go_ret
    exact⟨_,rfl,rfl⟩
 ·go_enter Tryz.func178,Tryz.ntmps178
  go_wp2
  go_ret
  exact⟨_,rfl,rfl⟩
theorem wBlank (c:UInt8)(w:World):Calls Tryz.prog 34 #[.int .u8 (c.toNat:Int)] w (BitOut w):=by
 have h8:c.toNat<256:=UInt8.toNat_lt _
 cases h:((c.toNat:Int)==32)
 all_goals
  go_enter Tryz.func34,Tryz.ntmps34
  go_wp2
  go_ret
  exact⟨_,rfl,rfl⟩
theorem obase {B B':Nat} {v:Value} {p:List UInt8} {w:World} (h:Own B v p w)(hB:B'≤B):Own B' v p w:=by
 refine⟨h.1,?_⟩
 rcases h.2 with h0|⟨g,cap,cur,hv,hg,hr⟩
 ·exact .inl h0
 ·exact .inr ⟨g,cap,cur,hv,Nat.le_trans hB hg,hr⟩
set_option maxRecDepth 40000 in
theorem wQuoted (s:ByteArray)(w:World)(hs:s.size≤10000):Calls Tryz.prog 129 #[.string s] w fun e w'=>∃ t:ByteArray,e=.returned (.string t)∧t.size≤6*s.size+100∧Below w.heap.size w w':=by
 obtain⟨i0,hi,hz0,hz1,hz2⟩:=info_parts Tryz.info5
 have hc0:decide ((100000:Int)<(s.size:Int))=false:=by simp;omega
 go_enter Tryz.func129,Tryz.ntmps129
 go_wp2
 go_loopw [3,4,5] (fun v n i wr=>∃ (k m:Nat) (p:List UInt8),k≤s.size+1∧i=.int .i64 k∧n=.int .i64 m∧m≤3*k∧p.length≤6*k∧Hid (Own w.heap.size v p wr)∧Hid (Below w.heap.size w wr)) (fun _ _ i _=>s.size+2-(Lib.intOf i).toNat)
 case atStart=>exact⟨0,0,[],by omega,rfl,rfl,by omega,by simp,Own.made _ _ (Nat.le_refl _),(Below.refl _ _).alloc (Nat.le_refl _) _⟩
 case round=>
  obtain⟨k,m,p,hk,rfl,rfl,hm,hpl,HO,HB⟩:=hrel
  by_cases hlt:k<s.size
  ·have cE:=mkHid (fun i hi W=>wEndAt s i W (by omega) hi)
   go_wp2_with fail
   refine(cE.out k (by omega) _).mono ?_
   rintro e w1 ⟨b1,rfl,rfl⟩
   cases b1
   ·have h8:s[k].toNat<256:=UInt8.toNat_lt _
    have hcell:Hid (Own wr.heap.size (.slice (some ⟨wr.heap.size,0,none⟩) 1 1) [s[k]] (wr.alloc (.cells #[.int .u8 (s[k].toNat:Int)] 5))):=ownLit wr [s[k]] _ (by simp[byteCells]) (by simp)
    generalize hsk:s[k]=c at *
    go_upto_region 14 with fail
    have hbA:=mkHid ((Below.refl wr.heap.size wr).alloc (Nat.le_refl _) (.cells #[.int .u8 (c.toNat:Int)] 5))
    generalize wr.alloc (.cells #[.int .u8 (c.toNat:Int)] 5)=W1 at hcell hbA ⊢
    go_cut [8] from 93 (fun x wc=>∃ b:Bool,x=.bool b∧wc=W1)
    case first=>
     have cB:=mkHid (fun W=>wBlank c W)
     have tail:True:=trivial
     by_cases h33:33≤c.toNat
     ·by_cases h126:c.toNat≤126
      ·rcases (show c.toNat<61∨61<c.toNat∨(61≤c.toNat∧c.toNat≤61) by omega) with h61|h61|⟨h61,h61b⟩
       ·go_wp2
        go_meet
        case rel=>exact⟨_,rfl,rfl⟩
       ·go_wp2
        go_meet
        case rel=>exact⟨_,rfl,rfl⟩
       ·have c61:c=61:=UInt8.toNat_inj.1 (by show c.toNat=61;omega)
        subst c61
        have cB61:Calls Tryz.prog 34 #[.int .u8 61] W1 (BitOut W1):=wBlank 61 W1
        clear cB h33 h126 h61 h61b
        go_wp2_with fail
        refine cB61.mono ?_
        rintro e w2 ⟨b2,rfl,rfl⟩
        cases b2
        ·go_wp2
         go_meet
         case rel=>exact⟨_,rfl,rfl⟩
        ·go_wp2_with fail
         refine(cE.out (k+1) (by omega) _).mono ?_
         rintro e w3 ⟨b3,rfl,rfl⟩
         go_wp2
         go_meet
         case rel=>exact⟨_,rfl,rfl⟩
      ·go_wp2_with fail
       refine(cB.out _).mono ?_
       rintro e w2 ⟨b2,rfl,rfl⟩
       cases b2
       ·go_wp2
        go_meet
        case rel=>exact⟨_,rfl,rfl⟩
       ·go_wp2_with fail
        refine(cE.out (k+1) (by omega) _).mono ?_
        rintro e w3 ⟨b3,rfl,rfl⟩
        go_wp2
        go_meet
        case rel=>exact⟨_,rfl,rfl⟩
     ·go_wp2_with fail
      refine(cB.out _).mono ?_
      rintro e w2 ⟨b2,rfl,rfl⟩
      cases b2
      ·go_wp2
       go_meet
       case rel=>exact⟨_,rfl,rfl⟩
      ·go_wp2_with fail
       refine(cE.out (k+1) (by omega) _).mono ?_
       rintro e w3 ⟨b3,rfl,rfl⟩
       go_wp2
       go_meet
       case rel=>exact⟨_,rfl,rfl⟩
    case rest=>
     obtain⟨b,rfl,rfl⟩:=hcut
     go_upto_if 54 with fail
     go_cut [7] from 93 (fun v wc=>∃ F:List UInt8,1≤F.length∧F.length≤3∧Hid (Own wr.heap.size v F wc)∧Hid (Below wr.heap.size wr wc))
     case first=>
      cases b
      ·obtain⟨y1,hy1⟩:=hexIx (c.toNat / 16) (by omega)
       obtain⟨y2,hy2⟩:=hexIx (c.toNat % 16) (by omega)
       have x1:∀w,Sem.run Tryz.prog (Instr.index 9 (.string HEX) (.int .u8 ((c.toNat:Int) / 16))) w=.ok (.int .u8 (y1.toNat:Int)) w:=hy1
       have x2:∀w,Sem.run Tryz.prog (Instr.index 9 (.string HEX) (.int .u8 ((c.toNat:Int) % 16))) w=.ok (.int .u8 (y2.toNat:Int)) w:=hy2
       clear hy1 hy2 hcell
       go_wp2
       refine wp_region_any (by kernel_rfl) ?_
       refine wpAny_take (i:=0) (v:=.int .u8 (c.toNat:Int)) rfl (by kernel_rfl) (by kernel_rfl) (by kernel_rfl) (fun _ _ _ h=>h) (Or.inl ⟨by rfl,?_⟩) ?_
       ·intro w
        go_simp
       go_simp
       refine wpAny_take (i:=1) (v:=.int .u8 ((c.toNat:Int) / 16)) rfl (by kernel_rfl) (by kernel_rfl) (by kernel_rfl) (fun _ _ _ h=>h) (Or.inl ⟨by rfl,?_⟩) ?_
       ·intro w
        go_simp
        exact w8 _ (by omega) (by omega)
       go_simp
       refine wpAny_take (i:=2) (v:=.int .u8 (y1.toNat:Int)) rfl (by kernel_rfl) (by kernel_rfl) (by kernel_rfl) (fun _ _ _ h=>h) (Or.inl ⟨by rfl,?_⟩) ?_
       ·intro w
        go_simp
       go_simp
       refine wpAny_take (i:=3) (v:=.int .u8 (c.toNat:Int)) rfl (by kernel_rfl) (by kernel_rfl) (by kernel_rfl) (fun _ _ _ h=>h) (Or.inl ⟨by rfl,?_⟩) ?_
       ·intro w
        go_simp
       go_simp
       refine wpAny_take (i:=4) (v:=.int .u8 ((c.toNat:Int) % 16)) rfl (by kernel_rfl) (by kernel_rfl) (by kernel_rfl) (fun _ _ _ h=>h) (Or.inl ⟨by rfl,?_⟩) ?_
       ·intro w
        go_simp
        exact Int.tmod_eq_emod_of_nonneg (by omega)
       go_simp
       refine wpAny_take (i:=5) (v:=.int .u8 (y2.toNat:Int)) rfl (by kernel_rfl) (by kernel_rfl) (by kernel_rfl) (fun _ _ _ h=>h) (Or.inl ⟨by rfl,?_⟩) ?_
       ·intro w
        go_simp
       go_simp
       refine wpAny_ready (rs:=[6]) (by kernel_rfl) (by simp) ?_
       refine AllReady.cons rfl (fun K hK=>?_) AllReady.nil
       go_simp
       refine hK _ _ ?_
       clear hK K
       go_simp
       refine wpAny_ready (rs:=[7]) (by kernel_rfl) (by simp) ?_
       refine AllReady.cons rfl (fun K hK=>?_) AllReady.nil
       go_simp
       refine hK _ _ ?_
       clear hK K
       go_simp
       refine wpAny_done (by kernel_rfl) ?_ _
       go_simp
       go_wp2
       go_meet
       case rel=>exact⟨[61,y1,y2],by simp,by simp,obase (ownLit wc.drew [61,y1,y2] _ (by simp[byteCells]) (by simp)) hbA.out.size,hbA.out.trans (((Below.refl wc.heap.size wc).drew.alloc (Nat.le_refl _) _).mono hbA.out.size)⟩
      ·go_wp2
       go_meet
       case rel=>exact⟨[c],by simp,by simp,hcell,hbA⟩
     case rest=>
      clear hcell hbA
      obtain⟨F,hF1,hF3,HF,HBc⟩:=hcut
      obtain⟨o7,c7,rfl⟩:=oflat HF.out
      go_upto_region 17 with fail
      go_cut [80] from 93 (fun x wx=>∃ b:Bool,x=.bool b∧wx=wc)
      case first=>
       by_cases h75:75<m+F.length
       ·have h75i:(75:Int)<(m:Int)+(F.length:Int):=by omega
        go_wp2_with fail
        refine(cE.out (k+1) (by omega) _).mono ?_
        rintro e w3 ⟨b3,rfl,rfl⟩
        cases b3
        all_goals
         go_wp2
         go_meet
         case rel=>exact⟨_,rfl,rfl⟩
       ·have h75i:¬(75:Int)<(m:Int)+(F.length:Int):=by omega
        go_wp2
        go_meet
        case rel=>exact⟨_,rfl,rfl⟩
      case rest=>
       obtain⟨b,rfl,rfl⟩:=hcut
       have hsw:=HB.out.size
       have hpb:Hid (∀q,u3.ownBlock=some q→q<wr.heap.size):=fun q hq=>(World.ownsRow.lt HO.out q hq).2
       have HBw:=mkHid (HB.out.trans (HBc.out.mono HB.out.size))
       have HOw:=mkHid (HO.out.belowG HBc.out)
       clear HB HBc HO
       have hne:F ≠ []:=by intro e;subst e;simp at hF1
       have hap:Hid ((Value.slice o7 F.length c7).ownBlock=none∨(Value.slice o7 F.length c7).ownBlock≠u3.ownBlock):=by
        by_cases h0:(Value.slice o7 F.length c7).ownBlock=none
        ·exact .inl h0
        ·refine .inr fun e=>?_
         obtain⟨q,hq⟩:=Option.ne_none_iff_exists'.1 h0
         have g1:=(World.ownsRow.lt HF.out q hq).1
         have g2:=hpb.out q (e.symm.trans hq)
         omega
       cases b
       ·go_wp2_with (at_builtin;go_must (refine wp_appo (W:=w) rfl _ _ 22 rfl i0 Tryz.underlying22 hi hz0 hz1 hz2 w.heap.size u3 p rfl HOw.out wr.heap.size _ F rfl HF.out hne (by omega) (Nat.le_refl _) HBw.out ?_;intro v4 w4 hown4 hb4))
        go_roundw
        case rel=>exact⟨k+1,m+F.length,_,by omega,by go_num,by go_num,by omega,by rw[List.length_append];omega,hown4,hb4⟩
        case measure=>simp[Lib.intOf];omega
       ·have hszc:w.heap.size≤wc.heap.size:=HBw.out.size
        go_wp2_with (at_builtin;go_must (refine wp_appG (w:=wc) rfl _ _ 22 rfl i0 Tryz.underlying22 hi hz0 hz1 hz2 w.heap.size u3 p rfl HOw.out _ [61,13,10] rfl 3 3 rfl rfl (by simp;omega) hszc ?_;intro v3 w3 hown3 hg3;refine Hid.out ?_))
        have HF3:=mkHid (World.ownsRow.kept (World.ownsRow.alloc HF.out _) hg3 hap.out)
        have HB3:=mkHid ((HBw.out.alloc hszc (.cells #[.int .u8 61,.int .u8 13,.int .u8 10] 5)).grown hg3 (by simp;omega) (fun q hq=>(World.ownsRow.lt HOw.out q hq).1))
        have HO3:=mkHid hown3
        have hl1:(p ++ [61,13,10]:List UInt8).length≤p.length+3:=by simp
        clear hown3 hg3 HBw HOw HF
        generalize p ++ [61,13,10]=p3 at HO3 hl1
        refine mkHid ?_
        go_wp2_with (at_builtin;go_must (refine wp_appo (W:=w) rfl _ _ 22 rfl i0 Tryz.underlying22 hi hz0 hz1 hz2 w.heap.size v3 p3 rfl HO3.out wr.heap.size _ F rfl HF3.out hne (by omega) (Nat.le_refl _) HB3.out ?_;intro v4 w4 hown4 hb4))
        go_roundw
        case rel=>exact⟨k+1,F.length,_,by omega,by go_num,by go_num,by omega,by rw[List.length_append];omega,hown4,hb4⟩
        case measure=>simp[Lib.intOf];omega
   ·go_wp2_with (at_builtin;go_must (refine wp_app (W:=w) rfl _ _ 22 rfl i0 Tryz.underlying22 hi hz0 hz1 hz2 w.heap.size u3 p rfl HO.out _ [13,10] rfl 2 2 rfl rfl (by simp;omega) (Nat.le_refl _) HB.out ?_;intro v3 w3 hown3 hb3))
    go_roundw
    case rel=>exact⟨k+2,0,_,by omega,by go_num,rfl,by omega,by rw[List.length_append];simp;omega,hown3,hb3⟩
    case measure=>simp[Lib.intOf];omega
  ·have hbk:=HO.out.back (P:=Tryz.prog) 22 9 Tryz.underlying22 Tryz.underlying5 Tryz.underlying9
   have hpz:(⟨p.toArray⟩:ByteArray).size≤6*s.size+100:=by show p.toArray.size≤_;simp;omega
   go_wp2
   go_ret
   exact⟨_,rfl,hpz,HB.out⟩
end Bm
namespace Bm
theorem wDigit (v:Int)(h0:0≤v)(h1:v<64)(w:World):Calls Tryz.prog 214 #[.int .i64 v] w fun e w'=>∃ d:UInt8,e=.returned (.int .u8 (d.toNat:Int))∧w=w':=by
 rcases (show v<26∨(26≤v∧v<52)∨(52≤v∧v<62)∨v=62∨v=63 by omega) with h|h|h|h|h
 ·have e:=by8_val (65+v) (by omega) (by omega)
  go_enter Tryz.func214,Tryz.ntmps214
  go_wp2
  go_ret
  exact⟨_,congrArg (fun x:Int=>Ending.returned (.int .u8 x)) e.symm,rfl⟩
 ·have e:=by8_val (97+v-26) (by omega) (by omega)
  go_enter Tryz.func214,Tryz.ntmps214
  go_wp2
  go_ret
  exact⟨_,congrArg (fun x:Int=>Ending.returned (.int .u8 x)) e.symm,rfl⟩
 ·have e:=by8_val (48+v-52) (by omega) (by omega)
  go_enter Tryz.func214,Tryz.ntmps214
  go_wp2
  go_ret
  exact⟨_,congrArg (fun x:Int=>Ending.returned (.int .u8 x)) e.symm,rfl⟩
 all_goals
  subst h
  go_enter Tryz.func214,Tryz.ntmps214
  go_wp2
  go_ret
 ·exact⟨43,rfl,rfl⟩
 ·exact⟨47,rfl,rfl⟩
set_option maxRecDepth 100000 in
theorem wBare64 (s:ByteArray)(w:World)(hs:s.size≤100000) :
  Calls Tryz.prog 177 #[.string s] w fun e w'=>∃ t:ByteArray,e=.returned (.string t)∧t.size≤2*s.size+4∧Below w.heap.size w w':=by
 obtain⟨i0,hi,hz0,hz1,hz2⟩:=info_parts Tryz.info5
 go_enter Tryz.func177,Tryz.ntmps177
 go_wp2
 go_loopw [3,4] (fun v i wr=>∃ (k:Nat) (p:List UInt8),k≤s.size+2∧i=.int .i64 k∧p.length≤2*k∧Own w.heap.size v p wr∧Below w.heap.size w wr) (fun _ i _=>s.size+3-(Lib.intOf i).toNat)
 case atStart=>exact⟨0,[],Nat.zero_le _,rfl,by simp,Own.made _ _ (Nat.le_refl _),(Below.refl _ _).alloc (Nat.le_refl _) _⟩
 case round=>
  obtain⟨k,p,hk,rfl,hpl,hown,hb⟩:=hrel
  by_cases hlt:k<s.size
  ·have ha:s[k].toNat<256:=UInt8.toNat_lt _
   by_cases h2:k+2<s.size
   ·have hb8:s[k+1].toNat<256:=UInt8.toNat_lt _
    have hc8:s[k+2].toNat<256:=UInt8.toNat_lt _
    go_wp2_with fail
    refine(wDigit _ (by omega) (by omega) _).mono ?_
    rintro e w2 ⟨d1,rfl,rfl⟩
    go_wp2_with fail
    refine(wDigit _ (by omega) (by omega) _).mono ?_
    rintro e w2 ⟨d2,rfl,rfl⟩
    go_wp2_with (first|(at_builtin;go_must (refine wp_app (W:=w) rfl _ _ 22 rfl i0 Tryz.underlying22 hi hz0 hz1 hz2 w.heap.size u3 p rfl hown _ [d1,d2] rfl 2 2 rfl rfl (by simp;omega) (Nat.le_refl _) hb ?_;intro v1 w1 hown1 hb1;refine Hid.out ?_))|fail)
    refine mkHid ?_
    clear hown hb
    go_wp2_with fail
    refine(wDigit _ (by omega) (by omega) _).mono ?_
    rintro e w2 ⟨d3,rfl,rfl⟩
    go_wp2_with (first|(at_builtin;go_must (refine wp_app (W:=w) rfl _ _ 22 rfl i0 Tryz.underlying22 hi hz0 hz1 hz2 w.heap.size v1 _ rfl hown1 _ [d3] rfl 1 1 rfl rfl (by simp;omega) (Nat.le_refl _) hb1 ?_;intro v2 w2 hown2 hb2;refine Hid.out ?_))|fail)
    refine mkHid ?_
    clear hown1 hb1
    go_wp2_with fail
    refine(wDigit _ (by omega) (by omega) _).mono ?_
    rintro e w2 ⟨d4,rfl,rfl⟩
    go_wp2_with (first|(at_builtin;go_must (refine wp_app (W:=w) rfl _ _ 22 rfl i0 Tryz.underlying22 hi hz0 hz1 hz2 w.heap.size v2 _ rfl hown2 _ [d4] rfl 1 1 rfl rfl (by simp;omega) (Nat.le_refl _) hb2 ?_;intro v3 w3 hown3 hb3))|fail)
    go_roundw
    case rel=>exact⟨k+3,_,by omega,by go_num,by simp;omega,hown3,hb3⟩
    case measure=>simp[Lib.intOf];omega
   ·by_cases h1:k+1<s.size
    ·have hb8:s[k+1].toNat<256:=UInt8.toNat_lt _
     go_wp2_with fail
     refine(wDigit _ (by omega) (by omega) _).mono ?_
     rintro e w2 ⟨d1,rfl,rfl⟩
     go_wp2_with fail
     refine(wDigit _ (by omega) (by omega) _).mono ?_
     rintro e w2 ⟨d2,rfl,rfl⟩
     go_wp2_with (first|(at_builtin;go_must (refine wp_app (W:=w) rfl _ _ 22 rfl i0 Tryz.underlying22 hi hz0 hz1 hz2 w.heap.size u3 p rfl hown _ [d1,d2] rfl 2 2 rfl rfl (by simp;omega) (Nat.le_refl _) hb ?_;intro v1 w1 hown1 hb1;refine Hid.out ?_))|fail)
     refine mkHid ?_
     clear hown hb
     go_wp2_with fail
     refine(wDigit _ (by omega) (by omega) _).mono ?_
     rintro e w2 ⟨d3,rfl,rfl⟩
     go_wp2_with (first|(at_builtin;go_must (refine wp_app (W:=w) rfl _ _ 22 rfl i0 Tryz.underlying22 hi hz0 hz1 hz2 w.heap.size v1 _ rfl hown1 _ [d3] rfl 1 1 rfl rfl (by simp;omega) (Nat.le_refl _) hb1 ?_;intro v2 w2 hown2 hb2;refine Hid.out ?_))|fail)
     refine mkHid ?_
     clear hown1 hb1
     go_wp2_with (first|(at_builtin;go_must (refine wp_app (W:=w) rfl _ _ 22 rfl i0 Tryz.underlying22 hi hz0 hz1 hz2 w.heap.size v2 _ rfl hown2 _ [61] rfl 1 1 rfl rfl (by simp;omega) (Nat.le_refl _) hb2 ?_;intro v3 w3 hown3 hb3))|fail)
     go_roundw
     case rel=>exact⟨k+3,_,by omega,by go_num,by simp;omega,hown3,hb3⟩
     case measure=>simp[Lib.intOf];omega
    ·skip
     go_wp2_with fail
     refine(wDigit _ (by omega) (by omega) _).mono ?_
     rintro e w2 ⟨d1,rfl,rfl⟩
     go_wp2_with fail
     refine(wDigit _ (by omega) (by omega) _).mono ?_
     rintro e w2 ⟨d2,rfl,rfl⟩
     go_wp2_with (first|(at_builtin;go_must (refine wp_app (W:=w) rfl _ _ 22 rfl i0 Tryz.underlying22 hi hz0 hz1 hz2 w.heap.size u3 p rfl hown _ [d1,d2] rfl 2 2 rfl rfl (by simp;omega) (Nat.le_refl _) hb ?_;intro v1 w1 hown1 hb1;refine Hid.out ?_))|fail)
     refine mkHid ?_
     clear hown hb
     go_wp2_with (first|(at_builtin;go_must (refine wp_app (W:=w) rfl _ _ 22 rfl i0 Tryz.underlying22 hi hz0 hz1 hz2 w.heap.size v1 _ rfl hown1 _ [61] rfl 1 1 rfl rfl (by simp;omega) (Nat.le_refl _) hb1 ?_;intro v2 w2 hown2 hb2;refine Hid.out ?_))|fail)
     refine mkHid ?_
     clear hown1 hb1
     go_wp2_with (first|(at_builtin;go_must (refine wp_app (W:=w) rfl _ _ 22 rfl i0 Tryz.underlying22 hi hz0 hz1 hz2 w.heap.size v2 _ rfl hown2 _ [61] rfl 1 1 rfl rfl (by simp;omega) (Nat.le_refl _) hb2 ?_;intro v3 w3 hown3 hb3))|fail)
     go_roundw
     case rel=>exact⟨k+3,_,by omega,by go_num,by simp;omega,hown3,hb3⟩
     case measure=>simp[Lib.intOf];omega
  ·have hbk:=hown.back (P:=Tryz.prog) 22 9 Tryz.underlying22 Tryz.underlying5 Tryz.underlying9
   have hpz:(⟨p.toArray⟩:ByteArray).size≤2*s.size+4:=by show p.toArray.size≤_;simp;omega
   go_wp2
   go_ret
   exact⟨_,rfl,hpz,hb⟩
set_option maxRecDepth 100000 in
theorem wBase64 (s:ByteArray)(w:World)(hs:s.size≤100000) :
  Calls Tryz.prog 128 #[.string s] w fun e w'=>∃ t:ByteArray,e=.returned (.string t)∧t.size≤4*s.size+1000∧Below w.heap.size w w':=by
 obtain⟨i0,hi,hz0,hz1,hz2⟩:=info_parts Tryz.info5
 have hbare:=mkHid (wBare64 s w hs)
 have hc0:decide ((100000:Int)<(s.size:Int))=false:=by simp;omega
 go_enter Tryz.func128,Tryz.ntmps128
 go_wp2_with fail
 refine hbare.out.mono ?_
 rintro e w1 ⟨d,rfl,hdl,hb1⟩
 have hs1:=hb1.size
 clear hbare
 go_wp2_with fail
 go_loopw [4,5] (fun v i wr=>∃ (k:Nat) (p:List UInt8),k≤d.size+76∧i=.int .i64 k∧76*p.length≤78*k∧Own w.heap.size v p wr∧Below w.heap.size w wr) (fun _ i _=>d.size+80-(Lib.intOf i).toNat)
 case atStart=>exact⟨0,[],by omega,rfl,by simp,Own.made _ _ hs1,hb1.alloc hs1 _⟩
 case round=>
  obtain⟨k,p,hk,rfl,hpl,hown,hb⟩:=hrel
  by_cases hlt:k<d.size
  ·by_cases h76:d.size<k+76
   ·obtain⟨z,hz⟩:∃z,z=d.extract k d.size:=⟨_,rfl⟩
    have hzl:z.size≤76:=by rw[hz,ByteArray.size_extract];omega
    have HZ:=mkHid hz
    clear hz
    go_wp2_with (at_builtin;go_must (rw[← HZ.out];refine wp_apps (W:=w) rfl _ _ 22 9 rfl i0 Tryz.underlying22 Tryz.underlying9 hi hz0 hz1 hz2 w.heap.size u4 p rfl hown z rfl (by omega) (Nat.le_refl _) hb ?_;intro v1 w2 hown1 hb2;refine Hid.out ?_))
    have hl1:(p++z.data.toList).length≤p.length+76:=by simp;omega
    generalize p++z.data.toList=p1 at hown1 hl1
    clear hown hb HZ
    refine mkHid ?_
    go_wp2_with (at_builtin;go_must (refine wp_app (W:=w) rfl _ _ 22 rfl i0 Tryz.underlying22 hi hz0 hz1 hz2 w.heap.size v1 p1 rfl hown1 _ [13,10] rfl 2 2 rfl rfl (by simp;omega) (Nat.le_refl _) hb2 ?_;intro v2 w3 hown2 hb3))
    go_roundw
    case rel=>exact⟨k+76,_,by omega,by go_num,by simp;omega,hown2,hb3⟩
    case measure=>simp[Lib.intOf];omega
   ·obtain⟨z,hz⟩:∃z,z=d.extract k (k+76):=⟨_,rfl⟩
    have hzl:z.size≤76:=by rw[hz,ByteArray.size_extract];omega
    have HZ:=mkHid hz
    clear hz
    go_wp2_with (at_builtin;go_must (rw[← HZ.out];refine wp_apps (W:=w) rfl _ _ 22 9 rfl i0 Tryz.underlying22 Tryz.underlying9 hi hz0 hz1 hz2 w.heap.size u4 p rfl hown z rfl (by omega) (Nat.le_refl _) hb ?_;intro v1 w2 hown1 hb2;refine Hid.out ?_))
    have hl1:(p++z.data.toList).length≤p.length+76:=by simp;omega
    generalize p++z.data.toList=p1 at hown1 hl1
    clear hown hb HZ
    refine mkHid ?_
    go_wp2_with (at_builtin;go_must (refine wp_app (W:=w) rfl _ _ 22 rfl i0 Tryz.underlying22 hi hz0 hz1 hz2 w.heap.size v1 p1 rfl hown1 _ [13,10] rfl 2 2 rfl rfl (by simp;omega) (Nat.le_refl _) hb2 ?_;intro v2 w3 hown2 hb3))
    go_roundw
    case rel=>exact⟨k+76,_,by omega,by go_num,by simp;omega,hown2,hb3⟩
    case measure=>simp[Lib.intOf];omega
  ·have hbk:=hown.back (P:=Tryz.prog) 22 9 Tryz.underlying22 Tryz.underlying5 Tryz.underlying9
   have hpz:(⟨p.toArray⟩:ByteArray).size≤4*s.size+1000:=by show p.toArray.size≤_;simp;omega
   go_wp2
   go_ret
   exact⟨_,rfl,hpz,hb⟩
end Bm
open Sn
namespace Bm
theorem all_in:∀(n:Nat)(V:List Nat),(∀m,m<n→m ∈ V)→n≤V.length
 | 0,_,_=>Nat.zero_le _
 | n+1,V,h=>by
  have h1:=all_in n (V.erase n) (fun m hm=>(List.mem_erase_of_ne (by omega)).2 (h m (by omega)))
  have h2:=List.length_erase_of_mem (h n (by omega))
  have h3:0<V.length:=List.length_pos_of_mem (h n (by omega))
  omega
theorem dec_ge:∀(k n:Nat),10 ^ k≤n→k+1≤(decDigits n).length
 | 0,n,_=>by
  have:=(dec_val n).2.2
  have:=List.length_pos_iff.2 this
  omega
 | k+1,n,h=>by
  have hp:0<10 ^ k:=Nat.pow_pos (by omega)
  rw[Nat.pow_succ] at h
  rw[decDigits,dif_neg (by omega),List.length_append]
  have:=dec_ge k (n / 10) (by omega)
  simp only[List.length_cons,List.length_nil]
  omega
theorem dec6 (m:Nat)(h0:100000≤m)(h1:m<1000000):(decDigits m).length=6:=by
 have a:=dec_ge 5 m (by simpa using h0)
 have b:=dec_len10 5 m (by simpa using h1)
 omega
def mark (m:Nat):List UInt8:=[45,45,61,95]++decDigits m
def hitT (t:List UInt8)(m:Nat):Prop:=∃p,p<t.length∧(mark m) <+: t.drop p
def hit (K:List ByteArray)(m:Nat):Prop:=∃t ∈ K,hitT t.data.toList m
def all (K:List ByteArray):Nat:=(K.map ByteArray.size).sum
def valAt (t:List UInt8)(p:Nat):Nat:=val10 0 ((t.drop (p+4)).take 6)-100000
def vals (K:List ByteArray):List Nat:=K.flatMap fun t=>(List.range t.size).map (valAt t.data.toList)
theorem vals_len (K:List ByteArray):(vals K).length=all K:=by
 induction K with
 | nil=>rfl
 | cons t r ih=>simp only[vals,all,List.flatMap_cons,List.length_append,List.length_map,List.length_range,List.map_cons,List.sum_cons] at ih ⊢;omega
theorem hit_val {t:List UInt8} {m:Nat} (h0:100000≤m)(h1:m<1000000)(p:Nat)(h:(mark m) <+: t.drop p):valAt t p=m-100000:=by
 obtain⟨r,hr⟩:=h
 have e:t.drop (p+4)=decDigits m++r:=by
  rw[← List.drop_drop,← hr]
  rfl
 unfold valAt
 rw[e,List.take_append_of_le_length (by rw[dec6 m h0 h1];omega),List.take_of_length_le (by rw[dec6 m h0 h1];omega),(dec_val m).1]
theorem free (K:List ByteArray)(hK:all K≤100000)(n:Nat)(h:∀m,m<n→hit K m):n<1000000:=by
 by_cases hn:n<1000000
 ·exact hn
 ·exfalso
  have:=all_in 900000 (vals K) (fun m hm=>by
   obtain⟨t,ht,p,hp,hx⟩:=h (m+100000) (by omega)
   have e:=hit_val (by omega) (by omega) p hx
   refine List.mem_flatMap.2 ⟨t,ht,List.mem_map.2 ⟨p,List.mem_range.2 (by simpa using hp),?_⟩⟩
   omega)
  rw[vals_len] at this
  omega
end Bm
end Go.Proofs.YtacaoiedcfelcaaGreatDoor
