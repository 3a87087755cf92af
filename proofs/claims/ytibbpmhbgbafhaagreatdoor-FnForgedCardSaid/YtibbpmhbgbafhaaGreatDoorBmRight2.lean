import Derived.Test.YtibbpmhbgbafhaaGreatDoorBmRight
import Derived.OrdersHeld
namespace Go.Proofs.YtibbpmhbgbafhaaGreatDoor
open Go.RowKit Go.Lib
namespace Bm
set_option maxRecDepth 20000 in
theorem fieldB (b:Bool)(x:Value)(w:World):Sem.run Tryz.prog (Instr.field 130 (.agg #[.bool b,x]) 0) w=.ok (.bool b) w:=by kernel_rfl
def RtS (B gL k dep dq:Nat)(W:World):Prop:=W.cell? ⟨B,0,none⟩=some (.int .i64 dep)∧(0<k→W.cell? ⟨gL,(k-1)*6,none⟩=some (.int .i64 dq))
set_option maxRecDepth 40000 in
set_option maxHeartbeats 8000000 in
theorem wRight (gL cap:Nat)(E:List MdE)(w:World)(hE:MdIn gL w E)(hl:E.length≤100)(h0:0<E.length)(hok:∀e ∈ E,e.1.ok) :
  Calls Tryz.prog 57 #[.slice (some ⟨gL,0,none⟩) E.length cap] w (BoolOut w):=by
 have HE:=mkHid hE
 have Hok:=mkHid hok
 clear hE hok
 go_enter Tryz.func57,Tryz.ntmps57
 go_upto_region 1 with fail
 go_cut [21] from 200 (fun s wx=>∃ b:Bool,s=.bool b∧wx=w)
 case first=>
  have hgl:=HE.out.1
  obtain⟨⟨c0,-⟩,-⟩:=HE.out.2 0 h0
  rw[Nat.zero_mul] at c0
  generalize E[0].1.dep=d at *
  have l1:¬((E.length:Int)<1):=by omega
  have l2:¬((200:Int)<(E.length:Int)):=by omega
  have l3:(0:Int)<(E.length:Int):=by omega
  cases hd:((d:Int)==0)
  all_goals
   go_wp2
   go_meet
   case rel=>exact⟨_,rfl,rfl⟩
 case rest=>
  obtain⟨b,rfl,rfl⟩:=hcut
  cases b
  case true=>
   go_wp2
   go_ret
   exact⟨_,rfl,Below.refl _ _⟩
  case false=>
   go_wp2
   go_loopw [3,4] (fun al i wr=>∃ (k m:Nat),k≤E.length∧i=.int .i64 k∧al=.int .i64 m∧m≤1000*k∧Hid (Below wc.heap.size wc wr)) (fun _ i _=>E.length-(Lib.intOf i).toNat)
   case atStart=>exact⟨0,0,Nat.zero_le _,rfl,rfl,by omega,Below.refl _ _⟩
   case round=>
    obtain⟨k,m,hk,rfl,rfl,hm,HB⟩:=hrel
    by_cases hlt:k<E.length
    ·have hM:=HE.out.below HB.out
     have hgl:=hM.1
     obtain⟨⟨c0,c1,c2,c3,c4,c5⟩,oq,cq,e3,hF⟩:=hM.2 k hlt
     obtain⟨o1,o2,o3,o4,o5,o6,o7⟩:=Hok.out E[k] (List.getElem_mem _)
     have HF:=mkHid hF
     have HM:=mkHid hM
     rw[e3] at c3
     clear hF hM e3
     generalize hEk:E[k].1=e at *
     have HEk:=mkHid hEk
     clear hEk
     obtain⟨dep,ty,su,P,cd,da⟩:=e
     simp only at *
     go_upto_region 8 with fail
     obtain⟨CS,hCS⟩:∃cs:Array Value,cs=#[.int .i64 dep,.string ty,.string su,.slice oq P.length cq,.int .i64 cd,.string da]:=⟨_,rfl⟩
     have B0:Hid (BxW wr CS 126 (wr.alloc (.cells #[.int .i64 dep,.string ty,.string su,.slice oq P.length cq,.int .i64 cd,.string da] 126))):=by rw[← hCS];exact BxW.new _ _ _
     have hC0:Hid (CS[0]?=some (.int .i64 dep)):=by rw[hCS];rfl
     have hC1:Hid (CS[1]?=some (.string ty)):=by rw[hCS];rfl
     have hC2:Hid (CS[2]?=some (.string su)):=by rw[hCS];rfl
     have hC3:Hid (CS[3]?=some (.slice oq P.length cq)):=by rw[hCS];rfl
     have hC4:Hid (CS[4]?=some (.int .i64 cd)):=by rw[hCS];rfl
     have hC5:Hid (CS[5]?=some (.string da)):=by rw[hCS];rfl
     generalize wr.alloc (.cells #[.int .i64 dep,.string ty,.string su,.slice oq P.length cq,.int .i64 cd,.string da] 126)=W1 at B0 ⊢
     clear hCS c0 c1 c2 c3 c4 c5
     have q5:=(B0.out.cell 5).trans hC5.out
     go_upto_region 9 with fail
     clear q5
     obtain⟨dq,hdq⟩:∃dq:Nat,dq≤3∧(0<k→W1.cell? ⟨gL,(k-1)*6,none⟩=some (.int .i64 dq)):=by
      by_cases hk0:0<k
      ·have hk1:k-1<E.length:=by omega
       obtain⟨⟨c0,-⟩,-⟩:=(HM.out.below B0.out.2).2 (k-1) hk1
       exact⟨_,(Hok.out E[k-1] (List.getElem_mem _)).1,fun _=>c0⟩
      ·exact⟨0,by omega,fun h=>absurd h hk0⟩
     have hdq3:=hdq.1
     have HS:Hid (RtS wr.heap.size gL k dep dq W1.drew):=⟨(B0.out.cell 0).trans hC0.out,hdq.2⟩
     clear hdq
     go_cut [60] from 200 (fun s wx=>∃ b:Bool,s=.bool b∧Hid (BxW wr CS 126 wx))
     case first=>
      have BD:=mkHid (B0.out.on (Below.refl W1.heap.size W1).drew)
      have m1:IntKind.i64.wrap ((k:Int)-1)=(k:Int)-1:=wrap_inB _ (by omega) (by omega)
      have m2:IntKind.i64.wrap ((dq:Int)+1)=(dq:Int)+1:=wrap_inB _ (by omega) (by omega)
      have m3:((k:Int)-1).toNat=k-1:=by omega
      have m4:(k:Int)-1<(E.length:Int):=by omega
      clear B0 HB HM HF HE
      by_cases hk0:0<k
      ·have m5:(0:Int)≤(k:Int)-1:=by omega
       by_cases hd1:dep<1
       ·have f1:((dep:Int)<1):=by omega
        go_wp2
        refine wp_region_held (S:=RtS wr.heap.size gL k dep dq) (by kernel_rfl) ?_
        refine wpAnyH_take (i:=0) (v:=.int .i64 k) rfl (by kernel_rfl) (by kernel_rfl) (by kernel_rfl) (fun _ _ _ h=>h) (Or.inl ⟨by rfl,?_⟩) HS.out ?_
        ·rintro W ⟨s0,s1⟩
         go_simp
        go_simp
        refine wpAnyH_take (i:=1) (v:=.bool true) rfl (by kernel_rfl) (by kernel_rfl) (by kernel_rfl) (fun _ _ _ h=>h) (Or.inl ⟨by rfl,?_⟩) HS.out ?_
        ·rintro W ⟨s0,s1⟩
         go_simp
        go_simp
        refine wpAnyH_take (i:=2) (v:=.bool true) rfl (by kernel_rfl) (by kernel_rfl) (by kernel_rfl) (fun _ _ _ h=>h) (Or.inl ⟨by rfl,?_⟩) HS.out ?_
        ·rintro W ⟨s0,s1⟩
         go_simp
        go_simp
        refine wpAnyH_take (i:=3) (v:=.pointer (some ⟨wr.heap.size,0,none⟩)) rfl (by kernel_rfl) (by kernel_rfl) (by kernel_rfl) (fun _ _ _ h=>h) (Or.inl ⟨by rfl,?_⟩) HS.out ?_
        ·rintro W ⟨s0,s1⟩
         go_simp
        go_simp
        refine wpAnyH_take (i:=4) (v:=.int .i64 dep) rfl (by kernel_rfl) (by kernel_rfl) (by kernel_rfl) (fun _ _ _ h=>h) (Or.inl ⟨by rfl,?_⟩) HS.out ?_
        ·rintro W ⟨s0,s1⟩
         go_simp
        go_simp
        refine wpAnyH_take (i:=5) (v:=.bool true) rfl (by kernel_rfl) (by kernel_rfl) (by kernel_rfl) (fun _ _ _ h=>h) (Or.inl ⟨by rfl,?_⟩) HS.out ?_
        ·rintro W ⟨s0,s1⟩
         go_simp
        go_simp
        refine wpAnyH_take (i:=6) (v:=.bool true) rfl (by kernel_rfl) (by kernel_rfl) (by kernel_rfl) (fun _ _ _ h=>h) (Or.inl ⟨by rfl,?_⟩) HS.out ?_
        ·rintro W ⟨s0,s1⟩
         go_simp
        go_simp
        refine wpAnyH_take (i:=7) (v:=undef) rfl (by kernel_rfl) (by kernel_rfl) (by kernel_rfl) (fun _ _ _ h=>h) (Or.inr ⟨by kernel_rfl,rfl⟩) HS.out ?_
        go_simp
        refine wpAnyH_take (i:=8) (v:=undef) rfl (by kernel_rfl) (by kernel_rfl) (by kernel_rfl) (fun _ _ _ h=>h) (Or.inr ⟨by kernel_rfl,rfl⟩) HS.out ?_
        go_simp
        refine wpAnyH_take (i:=9) (v:=undef) rfl (by kernel_rfl) (by kernel_rfl) (by kernel_rfl) (fun _ _ _ h=>h) (Or.inr ⟨by kernel_rfl,rfl⟩) HS.out ?_
        go_simp
        refine wpAnyH_take (i:=10) (v:=undef) rfl (by kernel_rfl) (by kernel_rfl) (by kernel_rfl) (fun _ _ _ h=>h) (Or.inr ⟨by kernel_rfl,rfl⟩) HS.out ?_
        go_simp
        refine wpAnyH_take (i:=11) (v:=undef) rfl (by kernel_rfl) (by kernel_rfl) (by kernel_rfl) (fun _ _ _ h=>h) (Or.inr ⟨by kernel_rfl,rfl⟩) HS.out ?_
        go_simp
        refine wpAnyH_take (i:=12) (v:=undef) rfl (by kernel_rfl) (by kernel_rfl) (by kernel_rfl) (fun _ _ _ h=>h) (Or.inr ⟨by kernel_rfl,rfl⟩) HS.out ?_
        go_simp
        refine wpAnyH_take (i:=13) (v:=undef) rfl (by kernel_rfl) (by kernel_rfl) (by kernel_rfl) (fun _ _ _ h=>h) (Or.inr ⟨by kernel_rfl,rfl⟩) HS.out ?_
        go_simp
        refine wpAnyH_take (i:=14) (v:=undef) rfl (by kernel_rfl) (by kernel_rfl) (by kernel_rfl) (fun _ _ _ h=>h) (Or.inr ⟨by kernel_rfl,rfl⟩) HS.out ?_
        go_simp
        refine wpAnyH_take (i:=15) (v:=undef) rfl (by kernel_rfl) (by kernel_rfl) (by kernel_rfl) (fun _ _ _ h=>h) (Or.inr ⟨by kernel_rfl,rfl⟩) HS.out ?_
        go_simp
        refine wpAnyH_take (i:=16) (v:=undef) rfl (by kernel_rfl) (by kernel_rfl) (by kernel_rfl) (fun _ _ _ h=>h) (Or.inr ⟨by kernel_rfl,rfl⟩) HS.out ?_
        go_simp
        refine wpAnyH_take (i:=17) (v:=.bool true) rfl (by kernel_rfl) (by kernel_rfl) (by kernel_rfl) (fun _ _ _ h=>h) (Or.inl ⟨by rfl,?_⟩) HS.out ?_
        ·rintro W ⟨s0,s1⟩
         go_simp
        go_simp
        refine wpAnyH_take (i:=18) (v:=.bool true) rfl (by kernel_rfl) (by kernel_rfl) (by kernel_rfl) (fun _ _ _ h=>h) (Or.inl ⟨by rfl,?_⟩) HS.out ?_
        ·rintro W ⟨s0,s1⟩
         go_simp
        go_simp
        refine wpAnyH_take (i:=19) (v:=undef) rfl (by kernel_rfl) (by kernel_rfl) (by kernel_rfl) (fun _ _ _ h=>h) (Or.inr ⟨by kernel_rfl,rfl⟩) HS.out ?_
        go_simp
        refine wpAnyH_take (i:=20) (v:=undef) rfl (by kernel_rfl) (by kernel_rfl) (by kernel_rfl) (fun _ _ _ h=>h) (Or.inr ⟨by kernel_rfl,rfl⟩) HS.out ?_
        go_simp
        refine wpAnyH_take (i:=21) (v:=undef) rfl (by kernel_rfl) (by kernel_rfl) (by kernel_rfl) (fun _ _ _ h=>h) (Or.inr ⟨by kernel_rfl,rfl⟩) HS.out ?_
        go_simp
        refine wpAnyH_take (i:=22) (v:=.bool true) rfl (by kernel_rfl) (by kernel_rfl) (by kernel_rfl) (fun _ _ _ h=>h) (Or.inl ⟨by rfl,?_⟩) HS.out ?_
        ·rintro W ⟨s0,s1⟩
         go_simp
        go_simp
        refine wpAnyH_take (i:=23) (v:=.bool true) rfl (by kernel_rfl) (by kernel_rfl) (by kernel_rfl) (fun _ _ _ h=>h) (Or.inl ⟨by rfl,?_⟩) HS.out ?_
        ·rintro W ⟨s0,s1⟩
         go_simp
        go_simp
        refine wpAnyH_done (by kernel_rfl) ?_ _
        go_simp
        go_wp2
        go_meet
        case rel=>exact⟨_,rfl,BD⟩
       ·have f1:¬((dep:Int)<1):=by omega
        by_cases hd2:dq+1<dep
        ·have f2:(dq:Int)+1<(dep:Int):=by omega
         go_wp2
         refine wp_region_held (S:=RtS wr.heap.size gL k dep dq) (by kernel_rfl) ?_
         refine wpAnyH_take (i:=0) (v:=.int .i64 k) rfl (by kernel_rfl) (by kernel_rfl) (by kernel_rfl) (fun _ _ _ h=>h) (Or.inl ⟨by rfl,?_⟩) HS.out ?_
         ·rintro W ⟨s0,s1⟩
          go_simp
         go_simp
         refine wpAnyH_take (i:=1) (v:=.bool true) rfl (by kernel_rfl) (by kernel_rfl) (by kernel_rfl) (fun _ _ _ h=>h) (Or.inl ⟨by rfl,?_⟩) HS.out ?_
         ·rintro W ⟨s0,s1⟩
          go_simp
         go_simp
         refine wpAnyH_take (i:=2) (v:=.bool true) rfl (by kernel_rfl) (by kernel_rfl) (by kernel_rfl) (fun _ _ _ h=>h) (Or.inl ⟨by rfl,?_⟩) HS.out ?_
         ·rintro W ⟨s0,s1⟩
          go_simp
         go_simp
         refine wpAnyH_take (i:=3) (v:=.pointer (some ⟨wr.heap.size,0,none⟩)) rfl (by kernel_rfl) (by kernel_rfl) (by kernel_rfl) (fun _ _ _ h=>h) (Or.inl ⟨by rfl,?_⟩) HS.out ?_
         ·rintro W ⟨s0,s1⟩
          go_simp
         go_simp
         refine wpAnyH_take (i:=4) (v:=.int .i64 dep) rfl (by kernel_rfl) (by kernel_rfl) (by kernel_rfl) (fun _ _ _ h=>h) (Or.inl ⟨by rfl,?_⟩) HS.out ?_
         ·rintro W ⟨s0,s1⟩
          go_simp
         go_simp
         refine wpAnyH_take (i:=5) (v:=.bool false) rfl (by kernel_rfl) (by kernel_rfl) (by kernel_rfl) (fun _ _ _ h=>h) (Or.inl ⟨by rfl,?_⟩) HS.out ?_
         ·rintro W ⟨s0,s1⟩
          go_simp
         go_simp
         refine wpAnyH_take (i:=6) (v:=.bool false) rfl (by kernel_rfl) (by kernel_rfl) (by kernel_rfl) (fun _ _ _ h=>h) (Or.inl ⟨by rfl,?_⟩) HS.out ?_
         ·rintro W ⟨s0,s1⟩
          go_simp
         go_simp
         refine wpAnyH_take (i:=7) (v:=.pointer (some ⟨wr.heap.size,0,none⟩)) rfl (by kernel_rfl) (by kernel_rfl) (by kernel_rfl) (fun _ _ _ h=>h) (Or.inl ⟨by rfl,?_⟩) HS.out ?_
         ·rintro W ⟨s0,s1⟩
          go_simp
         go_simp
         refine wpAnyH_take (i:=8) (v:=.int .i64 dep) rfl (by kernel_rfl) (by kernel_rfl) (by kernel_rfl) (fun _ _ _ h=>h) (Or.inl ⟨by rfl,?_⟩) HS.out ?_
         ·rintro W ⟨s0,s1⟩
          go_simp
         go_simp
         refine wpAnyH_take (i:=9) (v:=.slice (some ⟨gL,0,none⟩) E.length cap) rfl (by kernel_rfl) (by kernel_rfl) (by kernel_rfl) (fun _ _ _ h=>h) (Or.inl ⟨by rfl,?_⟩) HS.out ?_
         ·rintro W ⟨s0,s1⟩
          go_simp
         go_simp
         refine wpAnyH_take (i:=10) (v:=.int .i64 k) rfl (by kernel_rfl) (by kernel_rfl) (by kernel_rfl) (fun _ _ _ h=>h) (Or.inl ⟨by rfl,?_⟩) HS.out ?_
         ·rintro W ⟨s0,s1⟩
          go_simp
         go_simp
         refine wpAnyH_take (i:=11) (v:=.int .i64 ((k:Int)-1)) rfl (by kernel_rfl) (by kernel_rfl) (by kernel_rfl) (fun _ _ _ h=>h) (Or.inl ⟨by rfl,?_⟩) HS.out ?_
         ·rintro W ⟨s0,s1⟩
          go_simp
         go_simp
         refine wpAnyH_take (i:=12) (v:=.pointer (some ⟨gL,(k-1)*6,none⟩)) rfl (by kernel_rfl) (by kernel_rfl) (by kernel_rfl) (fun _ _ _ h=>h) (Or.inl ⟨by rfl,?_⟩) HS.out ?_
         ·rintro W ⟨s0,s1⟩
          go_simp
          all_goals first|done|(intro h;exfalso;omega)
         go_simp
         refine wpAnyH_take (i:=13) (v:=.pointer (some ⟨gL,(k-1)*6,none⟩)) rfl (by kernel_rfl) (by kernel_rfl) (by kernel_rfl) (fun _ _ _ h=>h) (Or.inl ⟨by rfl,?_⟩) HS.out ?_
         ·rintro W ⟨s0,s1⟩
          go_simp
         go_simp
         refine wpAnyH_take (i:=14) (v:=.int .i64 dq) rfl (by kernel_rfl) (by kernel_rfl) (by kernel_rfl) (fun _ _ _ h=>h) (Or.inl ⟨by rfl,?_⟩) HS.out ?_
         ·rintro W ⟨s0,s1⟩
          have s2:=s1 hk0
          go_simp
         go_simp
         refine wpAnyH_take (i:=15) (v:=.int .i64 ((dq:Int)+1)) rfl (by kernel_rfl) (by kernel_rfl) (by kernel_rfl) (fun _ _ _ h=>h) (Or.inl ⟨by rfl,?_⟩) HS.out ?_
         ·rintro W ⟨s0,s1⟩
          go_simp
         go_simp
         refine wpAnyH_take (i:=16) (v:=.bool true) rfl (by kernel_rfl) (by kernel_rfl) (by kernel_rfl) (fun _ _ _ h=>h) (Or.inl ⟨by rfl,?_⟩) HS.out ?_
         ·rintro W ⟨s0,s1⟩
          go_simp
         go_simp
         refine wpAnyH_take (i:=17) (v:=.bool true) rfl (by kernel_rfl) (by kernel_rfl) (by kernel_rfl) (fun _ _ _ h=>h) (Or.inl ⟨by rfl,?_⟩) HS.out ?_
         ·rintro W ⟨s0,s1⟩
          go_simp
         go_simp
         refine wpAnyH_take (i:=18) (v:=.bool true) rfl (by kernel_rfl) (by kernel_rfl) (by kernel_rfl) (fun _ _ _ h=>h) (Or.inl ⟨by rfl,?_⟩) HS.out ?_
         ·rintro W ⟨s0,s1⟩
          go_simp
         go_simp
         refine wpAnyH_take (i:=19) (v:=undef) rfl (by kernel_rfl) (by kernel_rfl) (by kernel_rfl) (fun _ _ _ h=>h) (Or.inr ⟨by kernel_rfl,rfl⟩) HS.out ?_
         go_simp
         refine wpAnyH_take (i:=20) (v:=undef) rfl (by kernel_rfl) (by kernel_rfl) (by kernel_rfl) (fun _ _ _ h=>h) (Or.inr ⟨by kernel_rfl,rfl⟩) HS.out ?_
         go_simp
         refine wpAnyH_take (i:=21) (v:=undef) rfl (by kernel_rfl) (by kernel_rfl) (by kernel_rfl) (fun _ _ _ h=>h) (Or.inr ⟨by kernel_rfl,rfl⟩) HS.out ?_
         go_simp
         refine wpAnyH_take (i:=22) (v:=.bool true) rfl (by kernel_rfl) (by kernel_rfl) (by kernel_rfl) (fun _ _ _ h=>h) (Or.inl ⟨by rfl,?_⟩) HS.out ?_
         ·rintro W ⟨s0,s1⟩
          go_simp
         go_simp
         refine wpAnyH_take (i:=23) (v:=.bool true) rfl (by kernel_rfl) (by kernel_rfl) (by kernel_rfl) (fun _ _ _ h=>h) (Or.inl ⟨by rfl,?_⟩) HS.out ?_
         ·rintro W ⟨s0,s1⟩
          go_simp
         go_simp
         refine wpAnyH_done (by kernel_rfl) ?_ _
         go_simp
         go_wp2
         go_meet
         case rel=>exact⟨_,rfl,BD⟩
        ·have f2:¬((dq:Int)+1<(dep:Int)):=by omega
         have f3:¬((20:Int)<(dep:Int)):=by omega
         go_wp2
         refine wp_region_held (S:=RtS wr.heap.size gL k dep dq) (by kernel_rfl) ?_
         refine wpAnyH_take (i:=0) (v:=.int .i64 k) rfl (by kernel_rfl) (by kernel_rfl) (by kernel_rfl) (fun _ _ _ h=>h) (Or.inl ⟨by rfl,?_⟩) HS.out ?_
         ·rintro W ⟨s0,s1⟩
          go_simp
         go_simp
         refine wpAnyH_take (i:=1) (v:=.bool true) rfl (by kernel_rfl) (by kernel_rfl) (by kernel_rfl) (fun _ _ _ h=>h) (Or.inl ⟨by rfl,?_⟩) HS.out ?_
         ·rintro W ⟨s0,s1⟩
          go_simp
         go_simp
         refine wpAnyH_take (i:=2) (v:=.bool true) rfl (by kernel_rfl) (by kernel_rfl) (by kernel_rfl) (fun _ _ _ h=>h) (Or.inl ⟨by rfl,?_⟩) HS.out ?_
         ·rintro W ⟨s0,s1⟩
          go_simp
         go_simp
         refine wpAnyH_take (i:=3) (v:=.pointer (some ⟨wr.heap.size,0,none⟩)) rfl (by kernel_rfl) (by kernel_rfl) (by kernel_rfl) (fun _ _ _ h=>h) (Or.inl ⟨by rfl,?_⟩) HS.out ?_
         ·rintro W ⟨s0,s1⟩
          go_simp
         go_simp
         refine wpAnyH_take (i:=4) (v:=.int .i64 dep) rfl (by kernel_rfl) (by kernel_rfl) (by kernel_rfl) (fun _ _ _ h=>h) (Or.inl ⟨by rfl,?_⟩) HS.out ?_
         ·rintro W ⟨s0,s1⟩
          go_simp
         go_simp
         refine wpAnyH_take (i:=5) (v:=.bool false) rfl (by kernel_rfl) (by kernel_rfl) (by kernel_rfl) (fun _ _ _ h=>h) (Or.inl ⟨by rfl,?_⟩) HS.out ?_
         ·rintro W ⟨s0,s1⟩
          go_simp
         go_simp
         refine wpAnyH_take (i:=6) (v:=.bool false) rfl (by kernel_rfl) (by kernel_rfl) (by kernel_rfl) (fun _ _ _ h=>h) (Or.inl ⟨by rfl,?_⟩) HS.out ?_
         ·rintro W ⟨s0,s1⟩
          go_simp
         go_simp
         refine wpAnyH_take (i:=7) (v:=.pointer (some ⟨wr.heap.size,0,none⟩)) rfl (by kernel_rfl) (by kernel_rfl) (by kernel_rfl) (fun _ _ _ h=>h) (Or.inl ⟨by rfl,?_⟩) HS.out ?_
         ·rintro W ⟨s0,s1⟩
          go_simp
         go_simp
         refine wpAnyH_take (i:=8) (v:=.int .i64 dep) rfl (by kernel_rfl) (by kernel_rfl) (by kernel_rfl) (fun _ _ _ h=>h) (Or.inl ⟨by rfl,?_⟩) HS.out ?_
         ·rintro W ⟨s0,s1⟩
          go_simp
         go_simp
         refine wpAnyH_take (i:=9) (v:=.slice (some ⟨gL,0,none⟩) E.length cap) rfl (by kernel_rfl) (by kernel_rfl) (by kernel_rfl) (fun _ _ _ h=>h) (Or.inl ⟨by rfl,?_⟩) HS.out ?_
         ·rintro W ⟨s0,s1⟩
          go_simp
         go_simp
         refine wpAnyH_take (i:=10) (v:=.int .i64 k) rfl (by kernel_rfl) (by kernel_rfl) (by kernel_rfl) (fun _ _ _ h=>h) (Or.inl ⟨by rfl,?_⟩) HS.out ?_
         ·rintro W ⟨s0,s1⟩
          go_simp
         go_simp
         refine wpAnyH_take (i:=11) (v:=.int .i64 ((k:Int)-1)) rfl (by kernel_rfl) (by kernel_rfl) (by kernel_rfl) (fun _ _ _ h=>h) (Or.inl ⟨by rfl,?_⟩) HS.out ?_
         ·rintro W ⟨s0,s1⟩
          go_simp
         go_simp
         refine wpAnyH_take (i:=12) (v:=.pointer (some ⟨gL,(k-1)*6,none⟩)) rfl (by kernel_rfl) (by kernel_rfl) (by kernel_rfl) (fun _ _ _ h=>h) (Or.inl ⟨by rfl,?_⟩) HS.out ?_
         ·rintro W ⟨s0,s1⟩
          go_simp
          all_goals first|done|(intro h;exfalso;omega)
         go_simp
         refine wpAnyH_take (i:=13) (v:=.pointer (some ⟨gL,(k-1)*6,none⟩)) rfl (by kernel_rfl) (by kernel_rfl) (by kernel_rfl) (fun _ _ _ h=>h) (Or.inl ⟨by rfl,?_⟩) HS.out ?_
         ·rintro W ⟨s0,s1⟩
          go_simp
         go_simp
         refine wpAnyH_take (i:=14) (v:=.int .i64 dq) rfl (by kernel_rfl) (by kernel_rfl) (by kernel_rfl) (fun _ _ _ h=>h) (Or.inl ⟨by rfl,?_⟩) HS.out ?_
         ·rintro W ⟨s0,s1⟩
          have s2:=s1 hk0
          go_simp
         go_simp
         refine wpAnyH_take (i:=15) (v:=.int .i64 ((dq:Int)+1)) rfl (by kernel_rfl) (by kernel_rfl) (by kernel_rfl) (fun _ _ _ h=>h) (Or.inl ⟨by rfl,?_⟩) HS.out ?_
         ·rintro W ⟨s0,s1⟩
          go_simp
         go_simp
         refine wpAnyH_take (i:=16) (v:=.bool false) rfl (by kernel_rfl) (by kernel_rfl) (by kernel_rfl) (fun _ _ _ h=>h) (Or.inl ⟨by rfl,?_⟩) HS.out ?_
         ·rintro W ⟨s0,s1⟩
          go_simp
         go_simp
         refine wpAnyH_take (i:=17) (v:=.bool false) rfl (by kernel_rfl) (by kernel_rfl) (by kernel_rfl) (fun _ _ _ h=>h) (Or.inl ⟨by rfl,?_⟩) HS.out ?_
         ·rintro W ⟨s0,s1⟩
          go_simp
         go_simp
         refine wpAnyH_take (i:=18) (v:=.bool false) rfl (by kernel_rfl) (by kernel_rfl) (by kernel_rfl) (fun _ _ _ h=>h) (Or.inl ⟨by rfl,?_⟩) HS.out ?_
         ·rintro W ⟨s0,s1⟩
          go_simp
         go_simp
         refine wpAnyH_take (i:=19) (v:=.pointer (some ⟨wr.heap.size,0,none⟩)) rfl (by kernel_rfl) (by kernel_rfl) (by kernel_rfl) (fun _ _ _ h=>h) (Or.inl ⟨by rfl,?_⟩) HS.out ?_
         ·rintro W ⟨s0,s1⟩
          go_simp
         go_simp
         refine wpAnyH_take (i:=20) (v:=.int .i64 dep) rfl (by kernel_rfl) (by kernel_rfl) (by kernel_rfl) (fun _ _ _ h=>h) (Or.inl ⟨by rfl,?_⟩) HS.out ?_
         ·rintro W ⟨s0,s1⟩
          go_simp
         go_simp
         refine wpAnyH_take (i:=21) (v:=.bool false) rfl (by kernel_rfl) (by kernel_rfl) (by kernel_rfl) (fun _ _ _ h=>h) (Or.inl ⟨by rfl,?_⟩) HS.out ?_
         ·rintro W ⟨s0,s1⟩
          go_simp
         go_simp
         refine wpAnyH_take (i:=22) (v:=.bool false) rfl (by kernel_rfl) (by kernel_rfl) (by kernel_rfl) (fun _ _ _ h=>h) (Or.inl ⟨by rfl,?_⟩) HS.out ?_
         ·rintro W ⟨s0,s1⟩
          go_simp
         go_simp
         refine wpAnyH_take (i:=23) (v:=.bool false) rfl (by kernel_rfl) (by kernel_rfl) (by kernel_rfl) (fun _ _ _ h=>h) (Or.inl ⟨by rfl,?_⟩) HS.out ?_
         ·rintro W ⟨s0,s1⟩
          go_simp
         go_simp
         refine wpAnyH_done (by kernel_rfl) ?_ _
         go_simp
         go_wp2
         go_meet
         case rel=>exact⟨_,rfl,BD⟩
      ·skip
       go_wp2
       refine wp_region_held (S:=RtS wr.heap.size gL k dep dq) (by kernel_rfl) ?_
       refine wpAnyH_take (i:=0) (v:=.int .i64 k) rfl (by kernel_rfl) (by kernel_rfl) (by kernel_rfl) (fun _ _ _ h=>h) (Or.inl ⟨by rfl,?_⟩) HS.out ?_
       ·rintro W ⟨s0,s1⟩
        go_simp
       go_simp
       refine wpAnyH_take (i:=1) (v:=.bool false) rfl (by kernel_rfl) (by kernel_rfl) (by kernel_rfl) (fun _ _ _ h=>h) (Or.inl ⟨by rfl,?_⟩) HS.out ?_
       ·rintro W ⟨s0,s1⟩
        go_simp
       go_simp
       refine wpAnyH_take (i:=2) (v:=.bool false) rfl (by kernel_rfl) (by kernel_rfl) (by kernel_rfl) (fun _ _ _ h=>h) (Or.inl ⟨by rfl,?_⟩) HS.out ?_
       ·rintro W ⟨s0,s1⟩
        go_simp
       go_simp
       refine wpAnyH_take (i:=3) (v:=undef) rfl (by kernel_rfl) (by kernel_rfl) (by kernel_rfl) (fun _ _ _ h=>h) (Or.inr ⟨by kernel_rfl,rfl⟩) HS.out ?_
       go_simp
       refine wpAnyH_take (i:=4) (v:=undef) rfl (by kernel_rfl) (by kernel_rfl) (by kernel_rfl) (fun _ _ _ h=>h) (Or.inr ⟨by kernel_rfl,rfl⟩) HS.out ?_
       go_simp
       refine wpAnyH_take (i:=5) (v:=undef) rfl (by kernel_rfl) (by kernel_rfl) (by kernel_rfl) (fun _ _ _ h=>h) (Or.inr ⟨by kernel_rfl,rfl⟩) HS.out ?_
       go_simp
       refine wpAnyH_take (i:=6) (v:=undef) rfl (by kernel_rfl) (by kernel_rfl) (by kernel_rfl) (fun _ _ _ h=>h) (Or.inr ⟨by kernel_rfl,rfl⟩) HS.out ?_
       go_simp
       refine wpAnyH_take (i:=7) (v:=undef) rfl (by kernel_rfl) (by kernel_rfl) (by kernel_rfl) (fun _ _ _ h=>h) (Or.inr ⟨by kernel_rfl,rfl⟩) HS.out ?_
       go_simp
       refine wpAnyH_take (i:=8) (v:=undef) rfl (by kernel_rfl) (by kernel_rfl) (by kernel_rfl) (fun _ _ _ h=>h) (Or.inr ⟨by kernel_rfl,rfl⟩) HS.out ?_
       go_simp
       refine wpAnyH_take (i:=9) (v:=undef) rfl (by kernel_rfl) (by kernel_rfl) (by kernel_rfl) (fun _ _ _ h=>h) (Or.inr ⟨by kernel_rfl,rfl⟩) HS.out ?_
       go_simp
       refine wpAnyH_take (i:=10) (v:=undef) rfl (by kernel_rfl) (by kernel_rfl) (by kernel_rfl) (fun _ _ _ h=>h) (Or.inr ⟨by kernel_rfl,rfl⟩) HS.out ?_
       go_simp
       refine wpAnyH_take (i:=11) (v:=undef) rfl (by kernel_rfl) (by kernel_rfl) (by kernel_rfl) (fun _ _ _ h=>h) (Or.inr ⟨by kernel_rfl,rfl⟩) HS.out ?_
       go_simp
       refine wpAnyH_take (i:=12) (v:=undef) rfl (by kernel_rfl) (by kernel_rfl) (by kernel_rfl) (fun _ _ _ h=>h) (Or.inr ⟨by kernel_rfl,rfl⟩) HS.out ?_
       go_simp
       refine wpAnyH_take (i:=13) (v:=undef) rfl (by kernel_rfl) (by kernel_rfl) (by kernel_rfl) (fun _ _ _ h=>h) (Or.inr ⟨by kernel_rfl,rfl⟩) HS.out ?_
       go_simp
       refine wpAnyH_take (i:=14) (v:=undef) rfl (by kernel_rfl) (by kernel_rfl) (by kernel_rfl) (fun _ _ _ h=>h) (Or.inr ⟨by kernel_rfl,rfl⟩) HS.out ?_
       go_simp
       refine wpAnyH_take (i:=15) (v:=undef) rfl (by kernel_rfl) (by kernel_rfl) (by kernel_rfl) (fun _ _ _ h=>h) (Or.inr ⟨by kernel_rfl,rfl⟩) HS.out ?_
       go_simp
       refine wpAnyH_take (i:=16) (v:=undef) rfl (by kernel_rfl) (by kernel_rfl) (by kernel_rfl) (fun _ _ _ h=>h) (Or.inr ⟨by kernel_rfl,rfl⟩) HS.out ?_
       go_simp
       refine wpAnyH_take (i:=17) (v:=undef) rfl (by kernel_rfl) (by kernel_rfl) (by kernel_rfl) (fun _ _ _ h=>h) (Or.inr ⟨by kernel_rfl,rfl⟩) HS.out ?_
       go_simp
       refine wpAnyH_take (i:=18) (v:=undef) rfl (by kernel_rfl) (by kernel_rfl) (by kernel_rfl) (fun _ _ _ h=>h) (Or.inr ⟨by kernel_rfl,rfl⟩) HS.out ?_
       go_simp
       refine wpAnyH_take (i:=19) (v:=undef) rfl (by kernel_rfl) (by kernel_rfl) (by kernel_rfl) (fun _ _ _ h=>h) (Or.inr ⟨by kernel_rfl,rfl⟩) HS.out ?_
       go_simp
       refine wpAnyH_take (i:=20) (v:=undef) rfl (by kernel_rfl) (by kernel_rfl) (by kernel_rfl) (fun _ _ _ h=>h) (Or.inr ⟨by kernel_rfl,rfl⟩) HS.out ?_
       go_simp
       refine wpAnyH_take (i:=21) (v:=undef) rfl (by kernel_rfl) (by kernel_rfl) (by kernel_rfl) (fun _ _ _ h=>h) (Or.inr ⟨by kernel_rfl,rfl⟩) HS.out ?_
       go_simp
       refine wpAnyH_take (i:=22) (v:=undef) rfl (by kernel_rfl) (by kernel_rfl) (by kernel_rfl) (fun _ _ _ h=>h) (Or.inr ⟨by kernel_rfl,rfl⟩) HS.out ?_
       go_simp
       refine wpAnyH_take (i:=23) (v:=.bool false) rfl (by kernel_rfl) (by kernel_rfl) (by kernel_rfl) (fun _ _ _ h=>h) (Or.inl ⟨by rfl,?_⟩) HS.out ?_
       ·rintro W ⟨s0,s1⟩
        go_simp
       go_simp
       refine wpAnyH_done (by kernel_rfl) ?_ _
       go_simp
       go_wp2
       go_meet
       case rel=>exact⟨_,rfl,BD⟩
     case rest=>
      clear HS B0
      obtain⟨b,rfl,B1⟩:=hcut
      have HB1:=mkHid (HB.out.trans (B1.out.2.mono HB.out.size))
      cases b
      case true=>
       go_wp2
       go_ret
       exact⟨_,rfl,HB1.out⟩
      case false=>
       clear HB1
       have cC:=mkHid (fun W hF=>wContent ty su oq P cq W (by omega) (by omega) hF (by omega) o5)
       go_upto_region 11 with fail
       go_cut [90] from 200 (fun s wx=>∃ b:Bool,s=.bool b∧Hid (BxW wr CS 126 wx))
       case first=>
        have q1:=(B1.out.cell 1).trans hC1.out
        have q2:=(B1.out.cell 2).trans hC2.out
        have q3:=(B1.out.cell 3).trans hC3.out
        go_wp2_with fail
        refine(cC.out _ ((HF.out.below B1.out.2).mono B1.out.2.size)).mono ?_
        rintro e w2 ⟨t,rfl,ht,hb2⟩
        have B2:=mkHid (B1.out.on hb2)
        clear hb2 B1 q1 q2 q3 cC
        have q1:=(B2.out.cell 1).trans hC1.out
        have q2:=(B2.out.cell 2).trans hC2.out
        have q4:=(B2.out.cell 4).trans hC4.out
        have l1:¬((cd:Int)<0):=by omega
        have l2:¬((2:Int)<(cd:Int)):=by omega
        have l3:¬((100000:Int)<(m:Int)+(da.size:Int)):=by omega
        by_cases ht0:t.size=0
        ·have hE0:=isEmpty_of t ht0
         go_wp2
         go_meet
         case rel=>exact⟨_,rfl,B2⟩
        ·have hE0:=isEmpty_ne t ht0
         by_cases hs0:su.size=0
         ·have hE1:=isEmpty_of su hs0
          go_wp2
          go_meet
          case rel=>exact⟨_,rfl,B2⟩
         ·have hE1:=isEmpty_ne su hs0
          go_wp2
          all_goals
           go_meet
           case rel=>exact⟨_,rfl,B2⟩
       case rest=>
        clear B1 cC
        obtain⟨b,rfl,B1⟩:=hcut
        have HB1:=mkHid (HB.out.trans (B1.out.2.mono HB.out.size))
        cases b
        case true=>
         go_wp2
         go_ret
         exact⟨_,rfl,HB1.out⟩
        case false=>
         clear HB1
         have cU:=mkHid (wUntil gL cap E k _ (HM.out.below B1.out.2) (by omega) hlt)
         go_upto_region 13 with fail
         go_cut [6] from 200 (fun s wx=>∃ pr:Bool,s=.bool pr∧Hid (BxW wr CS 126 wx))
         case first=>
          go_wp2_with fail
          refine cU.out.mono ?_
          rintro e w3 ⟨r,rfl,hr1,hr2,hb3⟩
          have B3:=mkHid (B1.out.on hb3)
          clear hb3 cU B1
          go_wp2
          go_meet
          case rel=>exact⟨_,rfl,B3⟩
         case rest=>
          clear B1 cU
          obtain⟨pr,rfl,B3⟩:=hcut
          have HB3:=mkHid (HB.out.trans (B3.out.2.mono HB.out.size))
          go_upto_region 14 with fail
          go_cut [100] from 200 (fun s wx=>∃ b:Bool,s=.bool b∧wx=wc)
          case first=>
           have q1:=(B3.out.cell 1).trans hC1.out
           go_wp2
           all_goals
            go_meet
            case rel=>exact⟨_,rfl,rfl⟩
          case rest=>
           obtain⟨b,rfl,rfl⟩:=hcut
           cases b
           case false=>
            cases pr
            ·go_wp2
             go_roundw
             case rel=>exact⟨k+1,m+da.size,by omega,by go_num,by go_num,by omega,HB3⟩
             case measure=>simp[Lib.intOf];omega
            ·go_wp2
             go_ret
             exact⟨_,rfl,HB3.out⟩
           case true=>
            clear HB3
            go_upto_region 15 with fail
            go_cut [31,125] from 200 (fun _ s wx=>∃ b:Bool,s=.bool b∧Hid (BxW wr CS 126 wx))
            case first=>
             have q1:=(B3.out.cell 1).trans hC1.out
             have q2:=(B3.out.cell 2).trans hC2.out
             have q3:=(B3.out.cell 3).trans hC3.out
             have q4:=(B3.out.cell 4).trans hC4.out
             have q5:=(B3.out.cell 5).trans hC5.out
             have cP:=mkHid (wParamOf ty su ⟨#[98,111,117,110,100,97,114,121]⟩ oq P cq _ ((HF.out.below B3.out.2).mono B3.out.2.size) (by omega))
             have p32:((P.length:Int)==32)=false:=by simp;omega
             by_cases hcd:cd=0
             ·subst hcd
              by_cases hda:da.size=0
              ·have hE:=isEmpty_of da hda
               clear hda
               cases pr
               ·go_wp2
                go_meet
                case rel=>exact⟨_,rfl,B3⟩
               ·go_wp2_with fail
                refine cP.out.mono ?_
                rintro e w4 ⟨b4,t4,rfl,hb4⟩
                have B4:=mkHid (B3.out.on hb4)
                clear hb4 cP B3 q1 q2 q3 q4 q5
                have q3:=(B4.out.cell 3).trans hC3.out
                cases b4
                all_goals
                 go_wp2_with fail
                 try (rw[fieldB];go_wp2)
                 go_meet
                 case rel=>exact⟨_,rfl,B4⟩
              ·have hE:=isEmpty_ne da hda
               clear hda
               go_wp2
               go_meet
               case rel=>exact⟨_,rfl,B3⟩
             ·have hcd1:¬((cd:Int)=0):=by omega
              clear hcd
              go_wp2
              go_meet
              case rel=>exact⟨_,rfl,B3⟩
            case rest=>
             clear B3
             obtain⟨b,rfl,B3⟩:=hcut
             have HB3:=mkHid (HB.out.trans (B3.out.2.mono HB.out.size))
             cases b
             ·go_wp2
              go_roundw
              case rel=>exact⟨k+1,m+da.size,by omega,by go_num,by go_num,by omega,HB3⟩
              case measure=>simp[Lib.intOf];omega
             ·go_wp2
              go_ret
              exact⟨_,rfl,HB3.out⟩
    ·go_wp2
     go_ret
     exact⟨_,rfl,HB.out⟩
end Bm
end Go.Proofs.YtibbpmhbgbafhaaGreatDoor
