import Derived.Test.YtacaoiedcfelcaaGreatDoorCkCalls
import Derived.Lib.QuietBelow
import Derived.Test.YtacaoiedcfelcaaGreatDoorAnyVals
import Derived.Test.YtacaoiedcfelcaaGreatDoorCkSgd
import Derived.Test.YtacaoiedcfelcaaGreatDoorTexts
import Derived.Test.YtacaoiedcfelcaaGreatDoorCells
import Derived.Deep.OwnRows
import Derived.Deep.QuietTactic
import Derived.BigQuiet
import Derived.Maps.AppendAt
set_option maxRecDepth 20000
set_option maxHeartbeats 16000000
namespace Go.Proofs.YtacaoiedcfelcaaGreatDoor
open Go.RowKit Go.Lib
open Sn
theorem fieldH2 (a b c d:Value)(w:World):Sem.run Tryz.prog (Instr.field 41 (.agg #[a,b,c,d]) 2) w=.ok c w:=by kernel_rfl
theorem fieldH3 (a b c d:Value)(w:World):Sem.run Tryz.prog (Instr.field 41 (.agg #[a,b,c,d]) 3) w=.ok d w:=by kernel_rfl
def SgDrawnS (W:World)(e:Ending)(w':World):Prop:=∃(msg d s:ByteArray)(A B h b:Int)(fb:Nat)(M:List ByteArray)(mc:Nat),e=.returned (.tuple #[.string msg,.agg #[.string d,.string s,.int .i64 A,.int .i64 B,.slice (some ⟨fb,0,none⟩) M.length mc,.int .i64 h,.int .i64 b]])∧msg.size≤1048576∧d.size≤1048576∧s.size≤1048576∧M.length≤1048576∧(∀t ∈ M,t.size≤1048576)∧M.length≤mc∧(∀t ∈ M,offZ t=true)∧(msg.size≤90000∨msg.data.toList.getLast?=some 45)∧Tx w'.heap.size w' (some ⟨fb,0,none⟩) M∧Below W.heap.size W w'
structure LsW (w:World)(S:Nat)(cs:Array Value)(W:World):Prop where
 bel:Below w.heap.size w W
 row:W.heap[S]?=some (.cells cs 27 (0,0))
theorem LsW.on {w:World} {S:Nat} {cs:Array Value} {W W':World} (h:LsW w S cs W)(hb:Below W.heap.size W W'):LsW w S cs W':=
 ⟨h.bel.trans (hb.mono h.bel.size),(hb.block _ (heap_lt h.row)).trans h.row⟩
def AnsAt (g:Nat)(d:ByteArray)(r:Int)(W:World):Prop:=W.cell? ⟨g,0,none⟩=some (.string d)∧W.cell? ⟨g,1,none⟩=some (.int .i64 r)
theorem AnsAt.on {g:Nat} {d:ByteArray} {r:Int} {W W':World} (h:AnsAt g d r W)(hb:Below W.heap.size W W'):AnsAt g d r W':=
 ⟨(hb.cell (p:=⟨g,0,none⟩) (World.block_lt_of_cell? _ _ h.1)).trans h.1,(hb.cell (p:=⟨g,1,none⟩) (World.block_lt_of_cell? _ _ h.2)).trans h.2⟩
theorem tail_two (msg:ByteArray)(n:Nat)(hx:(msg.extract n msg.size).toList=[13,10]):msg.data.toList=msg.data.toList.take n ++ [13,10]:=by
 rw[ByteArray.toList_eq,Lib.extract_to_end] at hx
 rw[← hx,List.take_append_drop]
theorem seven {W:World} {S:Nat} {x0 x1 x2 x3 x4 x5 x6:Value} (h:W.heap[S]?=some (.cells #[x0,x1,x2,x3,x4,x5,x6] 27 (0,0))) :
  W.cell? ⟨S,0,none⟩=some x0∧W.cell? ⟨S,1,none⟩=some x1∧W.cell? ⟨S,2,none⟩=some x2∧W.cell? ⟨S,3,none⟩=some x3∧W.cell? ⟨S,4,none⟩=some x4∧W.cell? ⟨S,5,none⟩=some x5∧W.cell? ⟨S,6,none⟩=some x6:=by
 refine⟨?_,?_,?_,?_,?_,?_,?_⟩<;>simp[World.cell?,h]
set_option maxRecDepth 40000 in
theorem walkSigned (o1:Option Addr)(c:List UInt8)(cp1:Nat)(w:World)(hc:c.length≤1048576)(hW:CkW w)(hDraw:Calls Tryz.prog 4 #[.slice o1 c.length cp1] w (SgDrawnS w)) :
  Calls Tryz.prog 3 #[.slice o1 c.length cp1] w fun e w'=>e=.returned (.bool true)∧Below w.heap.size w w':=by
 have HW:=mkHid hW
 clear hW
 go_enter Tryz.func3,Tryz.ntmps3
 go_wp2_with fail
 refine hDraw.mono ?_
 rintro e w1 ⟨msg,dm,s,A,B,h,b,fb,M,mc,rfl,z1,z2,z3,z4,z5,hcap,hz,hend,hT,hb1⟩
 clear hDraw
 obtain⟨cs,hcs⟩:∃cs:Array Value,cs=#[.string dm,.string s,.int .i64 A,.int .i64 B,.slice (some ⟨fb,0,none⟩) M.length mc,.int .i64 h,.int .i64 b]:=⟨_,rfl⟩
 obtain⟨W2,hW2⟩:∃W,W=w1.alloc (.cells #[.string dm,.string s,.int .i64 A,.int .i64 B,.slice (some ⟨fb,0,none⟩) M.length mc,.int .i64 h,.int .i64 b] 27):=⟨_,rfl⟩
 have b12:Below w1.heap.size w1 W2:=by rw[hW2];exact(Below.refl _ _).alloc (Nat.le_refl _) _
 have L2:Hid (LsW w w1.heap.size cs W2):=⟨hb1.trans (b12.mono hb1.size),by rw[hW2,hcs];exact heap_alloc_at _ _⟩
 have hT2:Tx W2.heap.size W2 (some ⟨fb,0,none⟩) M:=fun k hk=>by
  obtain⟨a,ha,hal,hac⟩:=(hT.below b12) k hk
  exact⟨a,ha,by have:=b12.size;omega,hac⟩
 have HZ:=mkHid hz
 have HE:=mkHid hend
 have cI:Hid (Calls Tryz.prog 5 #[.string msg,sgV dm s A B (.slice (some ⟨fb,0,none⟩) M.length mc) h b] W2 fun e w'=>e=.returned (.string (plSign msg dm s A B M h b))∧Below W2.heap.size W2 w'):=by
  obtain⟨mx,hm⟩:=(HW.out.below L2.out.bel).most
  exact implSign msg dm s A B h b fb M mc W2 mx hm (HW.out.below L2.out.bel).tab z1 z2 z3 hT2 z4 hcap z5
 have cS:=mkHid (fun (W:World) (hb:Below W2.heap.size W2 W)=>specSign msg dm s A B h b (some ⟨fb,0,none⟩) M mc W z1 z2 z3 ((hT2.below hb).mono hb.size) z4 z5)
 have HWe:=mkHid hW2
 have Hcs:=mkHid hcs
 have rS:=L2.out.row
 rw[hcs] at rS
 clear hT hT2 b12 hb1 hz hend hW2 hcs z2 z3 z4 z5 hcap
 go_wp2_with fail
 rw[← HWe.out]
 refine cI.out.mono ?_
 rintro e w3 ⟨rfl,hb3⟩
 have L3:=mkHid (L2.out.on hb3)
 have cS3:=mkHid (cS.out w3 hb3)
 obtain⟨T,hTe⟩:∃T,T=plSign msg dm s A B M h b:=⟨_,rfl⟩
 rw[← hTe] at cS3 ⊢
 have HTe:=mkHid hTe
 have rS:=L3.out.row
 rw[Hcs.out] at rS
 obtain⟨k0,k1,k2,k3,k4,k5,k6⟩:=seven rS
 have hTT:(T.toList==T.toList)=true:=by simp
 clear hTe hb3 cI cS L2 HWe
 go_wp2_with fail
 refine cS3.out.mono ?_
 rintro e w4 ⟨rfl,hb4⟩
 have L4:=mkHid (L3.out.on hb4)
 have rS:=L4.out.row
 rw[Hcs.out] at rS
 clear hb4 cS3 L3 k0 k1 k2 k3 k4 k5 k6
 by_cases hT0:T=⟨#[]⟩
 ·subst hT0
  go_wp2
  go_ret
  exact⟨rfl,L4.out.bel⟩
 have hT1:T.toList.isEmpty=false:=by
  rw[ByteArray.toList_eq,List.isEmpty_eq_false_iff]
  exact fun e=>hT0 (Sn.ba_eq e)
 obtain⟨N,c1,c2,c3,c4⟩:=sgdCalls msg dm s A B M h b T HTe.out hT0 HZ.out
 obtain⟨-,q2,-,-,-,-,q7⟩:=sign_form msg dm s A B M h b (HTe.out ▸ hT0)
 rw[← HTe.out] at q7
 have C1:=mkHid c1
 have C2:=mkHid c2
 have C3:=mkHid c3
 have C4:=mkHid c4
 have Q2:=mkHid q2
 clear c1 c2 c3 c4 q2 HTe hT0 HZ
 obtain⟨k0,k1,k2,k3,-,-,-⟩:=seven rS
 obtain⟨V,hV⟩:∃V,V=w4.alloc (.cells #[.string dm,.string s,.int .i64 A,.int .i64 B] 24):=⟨_,rfl⟩
 have bV:Below w4.heap.size w4 V:=by rw[hV];exact(Below.refl _ _).alloc (Nat.le_refl _) _
 have LV:=mkHid (L4.out.on bV)
 obtain⟨kb,hkb⟩:∃k,k=w4.heap.size:=⟨_,rfl⟩
 have KV:Hid (KyL kb V [⟨dm,s,A,B⟩]):=by rw[hkb,hV];exact oneKey dm s A B w4
 have HV:=mkHid hV
 have cK:=mkHid (C1.out kb 1 V KV.out (HW.out.below LV.out.bel))
 clear bV hV
 go_wp2_with fail
 rw[← HV.out,← hkb]
 refine cK.out.mono ?_
 rintro e w5 ⟨g5,p5,rfl,a0,a1,hb5⟩
 have L5:=mkHid (LV.out.on hb5)
 have K5:=mkHid (KV.out.below hb5)
 have A5:Hid (AnsAt g5 dm 0 w5):=⟨a0,a1⟩
 have rS:=L5.out.row
 rw[Hcs.out] at rS
 obtain⟨b0,-,-,-,-,-,-⟩:=seven rS
 have hdd:(dm.toList==dm.toList)=true:=by simp
 clear cK HV hb5 k0 k1 k2 k3 LV KV L4 hkb rS
 have a0':=cell_regrown a0
 have a1':=cell_regrown a1
 have b0':=cell_regrown b0
 have hN1:¬((N:Int)+1=0):=by omega
 have hN0:(0:Int)<(N:Int)+1:=by omega
 have hNe:((N:Int)+1==0)=false:=beq_eq_false_iff_ne.2 hN1
 go_wp2_with fail
 refine wp_region_quiet_below (by kernel_rfl) (by kernel_rfl) ?_
 repeat (quiet_step (fail))
 refine wpQuiet_nil ?_
 rintro _ ⟨⟨dq,osq⟩,rfl⟩
 have hbq:=below_regrown w5 dq osq
 have L6:=mkHid (L5.out.on hbq)
 have K6:=mkHid (K5.out.below hbq)
 have A6:=mkHid (A5.out.on hbq)
 clear hbq a0 a1 a0' a1' b0 b0' L5 K5 A5
 generalize Go.Sort.grow (redrawn w5 dq) osq=w6 at *
 have cA:=mkHid (implAhead T w6 (by omega))
 go_wp2_with fail
 refine cA.out.mono ?_
 rintro e w7 ⟨rfl,hb7⟩
 have L7:=mkHid (L6.out.on hb7)
 have K7:=mkHid (K6.out.below hb7)
 have A7:=mkHid (A6.out.on hb7)
 obtain⟨T2,hT2⟩:∃x,x=Pl.added ⟨(Pl.hd [] [(zzN,zzV)]).toArray⟩ T:=⟨_,rfl⟩
 rw[← hT2]
 have HT2:=mkHid hT2
 clear cA hb7 L6 K6 A6 hT2
 go_upto_region 14 with fail
 go_cut [61] from 200 (fun v wx=>∃ bo:Bool,v=.bool bo∧Hid (bo=true→T2≠⟨#[]⟩∧(RH T).fields.length<200)∧Hid (LsW w w1.heap.size cs wx)∧Hid (KyL kb wx [⟨dm,s,A,B⟩])∧Hid (AnsAt g5 dm 0 wx))
 case first=>
  by_cases h20:T2=⟨#[]⟩
  ·have h21:T2.toList.isEmpty=true:=by rw[h20,ByteArray.toList_eq];rfl
   go_wp2
   go_meet
   case rel=>exact⟨_,rfl,(fun h=>nomatch h),L7,K7,A7⟩
  ·have h21:T2.toList.isEmpty=false:=by
    rw[ByteArray.toList_eq,List.isEmpty_eq_false_iff]
    exact fun e=>h20 (Sn.ba_eq e)
   have H20:=mkHid h20
   have cR:=mkHid (specRH T w7 (by omega))
   clear h20
   go_wp2_with fail
   refine cR.out.mono ?_
   rintro e w8 ⟨oh,ch,rfl,-,hb8⟩
   have L8:=mkHid (L7.out.on hb8)
   have K8:=mkHid (K7.out.below hb8)
   have A8:=mkHid (A7.out.on hb8)
   clear cR hb8 L7 K7 A7
   unfold hdV
   obtain⟨nf,hnf⟩:∃n,n=(RH T).fields.length:=⟨_,rfl⟩
   rw[← hnf]
   have Hnf:=mkHid hnf
   clear hnf
   go_wp2_with fail
   rw[fieldH2]
   by_cases hlt:nf<200
   ·have hlt':(nf:Int)<200:=by omega
    go_wp2
    go_meet
    case rel=>exact⟨_,rfl,fun _=>⟨H20.out,by rw[← Hnf.out];exact hlt⟩,L8,K8,A8⟩
   ·have hlt':¬(nf:Int)<200:=by omega
    go_wp2
    go_meet
    case rel=>exact⟨_,rfl,(fun h=>nomatch h),L8,K8,A8⟩
 case rest=>
  clear L7 K7 A7
  obtain⟨bo,rfl,Hbo,L8,K8,A8⟩:=hcut
  go_upto_if 61 with fail
  go_cut [] from 200 (fun wx=>Hid (LsW w w1.heap.size cs wx)∧Hid (KyL kb wx [⟨dm,s,A,B⟩])∧Hid (AnsAt g5 dm 0 wx))
  case first=>
   cases bo
   case false=>
    go_wp2
    go_meet
    case rel=>exact⟨L8,K8,A8⟩
   case true=>
    obtain⟨h2,hlt⟩:=Hbo.out rfl
    have cK:=mkHid (C3.out T2 HT2.out h2 hlt kb 1 wc K8.out (HW.out.below L8.out.bel))
    clear h2 hlt Hbo
    go_wp2_with fail
    refine cK.out.mono ?_
    rintro e w9 ⟨g9,p9,rfl,a0,a1,hb9⟩
    have L9:=mkHid (L8.out.on hb9)
    have K9:=mkHid (K8.out.below hb9)
    have A9:=mkHid (A8.out.on hb9)
    clear cK hb9 L8 K8 A8
    have a0':=cell_regrown a0
    have a1':=cell_regrown a1
    have b0':=cell_regrown A9.out.1
    have b1':=cell_regrown A9.out.2
    go_wp2_with fail
    refine wp_region_quiet_below (by kernel_rfl) (by kernel_rfl) ?_
    repeat (quiet_step (fail))
    refine wpQuiet_nil ?_
    rintro _ ⟨⟨dq,osq⟩,rfl⟩
    have hbq:=below_regrown w9 dq osq
    have LF:=mkHid (L9.out.on hbq)
    have KF:=mkHid (K9.out.below hbq)
    have AF:=mkHid (A9.out.on hbq)
    clear hbq a0 a1 a0' a1' b0' b1' L9 K9 A9
    generalize Go.Sort.grow (redrawn w9 dq) osq=wF at *
    go_wp2
    go_meet
    case rel=>exact⟨LF,KF,AF⟩
  case rest=>
   clear L8 K8 A8 Hbo C3 HT2
   obtain⟨L9,K9,A9⟩:=hcut
   obtain⟨V,hV⟩:∃V,V=wc.alloc (.cells #[] 24):=⟨_,rfl⟩
   have bV:Below wc.heap.size wc V:=by rw[hV];exact(Below.refl _ _).alloc (Nat.le_refl _) _
   have LV:=mkHid (L9.out.on bV)
   have KV:=mkHid (K9.out.below bV)
   have AV:=mkHid (A9.out.on bV)
   have cK:=mkHid (C2.out wc.heap.size 0 V (by rw[hV];simp) (HW.out.below LV.out.bel))
   have HV:=mkHid hV
   clear bV hV L9 K9 A9 C2
   go_wp2_with fail
   rw[← HV.out]
   refine cK.out.mono ?_
   rintro e w10 ⟨g10,p10,rfl,a0,a1,hb10⟩
   have LX:=mkHid (LV.out.on hb10)
   have KX:=mkHid (KV.out.below hb10)
   have AX:=mkHid (AV.out.on hb10)
   have rS:=LX.out.row
   rw[Hcs.out] at rS
   obtain⟨-,-,-,-,-,-,k6⟩:=seven rS
   clear cK HV hb10 LV KV AV rS a0
   by_cases hb1:b=1
   case neg=>
    have hbn:(b==1)=false:=beq_eq_false_iff_ne.2 hb1
    go_wp2
    go_ret
    exact⟨rfl,LX.out.bel⟩
   subst hb1
   by_cases hm2:msg.size<2
   ·have hm2':(msg.size:Int)<2:=by omega
    go_wp2
    go_ret
    exact⟨rfl,LX.out.bel⟩
   obtain⟨n,hn⟩:∃n,msg.size=n+2:=⟨msg.size-2,by omega⟩
   have hm2':¬(msg.size:Int)<2:=by omega
   have hsub:(msg.size:Int)-2=(n:Int):=by omega
   have hnl:(n:Int)≤(msg.size:Int):=by omega
   have Hn:=mkHid hn
   clear hn hm2
   by_cases hx:(msg.extract n msg.size).toList=[13,10]
   case neg=>
    go_wp2
    go_ret
    exact⟨rfl,LX.out.bel⟩
   have HX:=mkHid (tail_two msg n hx)
   have cR:=mkHid (specRH msg w10 z1)
   go_wp2_with fail
   refine cR.out.mono ?_
   rintro e w11 ⟨oh,ch,rfl,-,hb11⟩
   have LY:=mkHid (LX.out.on hb11)
   have KY:=mkHid (KX.out.below hb11)
   have AY:=mkHid (AX.out.on hb11)
   obtain⟨hmz,-⟩:=RH_good msg Q2.out
   have hRb:=RH_body msg
   obtain⟨z,hz⟩:∃z,z=sgBody msg 1:=⟨_,rfl⟩
   have cB:∀W:World,Calls Tryz.prog 10 #[.string (msg.extract (RH msg).body msg.size),.int .i64 1] W fun e w'=>e=.returned (.string z)∧Below W.heap.size W w':=fun W=>by
    rw[hz]
    exact specBodyAny (msg.extract (RH msg).body msg.size) 1 W (by rw[ByteArray.size_extract];omega) (.inr rfl)
   obtain⟨bd,hbd⟩:∃n,n=(RH msg).body:=⟨_,rfl⟩
   unfold hdV
   rw[← hbd] at hRb cB ⊢
   have CB:=mkHid cB
   have Hz:=mkHid hz
   have hbl:(bd:Int)≤(msg.size:Int):=by omega
   clear cR hb11 hbd hz cB LX KX AX
   go_wp2_with fail
   rw[fieldH3]
   go_wp2_with fail
   refine(CB.out _).mono ?_
   rintro e w12 ⟨rfl,hb12⟩
   have LZ:=mkHid (LY.out.on hb12)
   have KZ:=mkHid (KY.out.below hb12)
   have AZ:=mkHid (AY.out.on hb12)
   clear CB hb12 LY KY AY
   by_cases hz0:z.size=0
   ·have hz1:((z.size:Int)==0)=true:=by rw[hz0];rfl
    go_wp2
    go_ret
    exact⟨rfl,LZ.out.bel⟩
   have hz1:((z.size:Int)==0)=false:=beq_eq_false_iff_ne.2 (by omega)
   have hcb:sgBody msg 1≠⟨#[]⟩:=fun e=>hz0 (by rw[Hz.out,e];rfl)
   have hms:msg.size≤90000:=by
    rcases HE.out with h|h
    ·exact h
    ·rw[HX.out,List.getLast?_append] at h
     cases h
   have c4:Calls Tryz.prog 7 #[.string (T++⟨#[32,13,10,13,10]⟩),.slice (some ⟨kb,0,none⟩) 1 1] w12 (FirstAt dm 0 N w12):=C4.out (by trivial) _ HX.out hcb hms kb 1 w12 KZ.out (HW.out.below LZ.out.bel)
   have HC4:=mkHid c4
   have hov:¬9223372036854775807<T.size+5:=by omega
   clear c4 C4 Hz hcb hms hz0 HX HE
   go_wp2_with fail
   refine HC4.out.mono ?_
   rintro e w13 ⟨g13,p13,rfl,d0,d1,hb13⟩
   have LP:=mkHid (LZ.out.on hb13)
   have AP:=mkHid (AZ.out.on hb13)
   have d0':=cell_regrown d0
   have d1':=cell_regrown d1
   have e0':=cell_regrown AP.out.1
   have e1':=cell_regrown AP.out.2
   clear HC4 hb13 LZ KZ AZ
   go_wp2_with fail
   refine wp_region_quiet_below (by kernel_rfl) (by kernel_rfl) ?_
   repeat (quiet_step (fail))
   refine wpQuiet_nil ?_
   rintro _ ⟨⟨dq,osq⟩,rfl⟩
   have LF:=mkHid (LP.out.on (below_regrown w13 dq osq))
   clear LP AP d0 d1 d0' d1' e0' e1'
   generalize Go.Sort.grow (redrawn w13 dq) osq=wF at *
   go_wp2
   go_ret
   exact⟨rfl,LF.out.bel⟩
open Go.RowKit
section
variable {P:Program} {ops:Array Oper} {Q:Exit→Act→World→Prop} {md:Region.Mode}
def afterLowM (md:Region.Mode)(ops:Array Oper):Bool:=(List.range ops.size).all fun i=>((ops[i]?).map fun o=>o.after.toList.all fun e=>!Region.binds md e || decide (e.on<i)).getD false
theorem all_doneM {L:Array Bool} (hs:L.size=ops.size)(hA:afterLowM md ops=true)(hr:Region.ready md ops L=[]):∀m i,i<m→i<ops.size→L.getD i false=true
 | 0,i,h,_=>by omega
 | m+1,i,h,hi=>by
  by_cases hm:i<m
  ·exact all_doneM hs hA hr m i hm hi
  ·cases hd:L.getD i false with
   | true=>rfl
   | false=>
    exfalso
    have hin:i ∈ Region.ready md ops L:=by
     unfold Region.ready
     rw[List.mem_filter,List.mem_range,Bool.and_eq_true]
     refine⟨hi,by rw[getD_false (by omega),hd];rfl,?_⟩
     have ha:=List.all_eq_true.1 hA i (List.mem_range.2 hi)
     obtain⟨o,ho⟩:∃o,ops[i]?=some o:=⟨ops[i],by simp⟩
     rw[ho] at ha ⊢
     have ha2:(o.after.toList.all fun e=>!Region.binds md e || decide (e.on<i))=true:=ha
     show(o.after.all fun e=>!Region.binds md e || L.getD e.on false)=true
     refine Array.all_eq_true'.2 fun e he=>?_
     have hlt:=List.all_eq_true.1 ha2 e (Array.mem_toList_iff.2 he)
     rw[Bool.or_eq_true,decide_eq_true_eq] at hlt
     rcases hlt with hlt|hlt
     ·rw[hlt,Bool.true_or]
     ·rw[all_doneM hs hA hr m e.on (by omega) (by omega),Bool.or_true]
    rw[hr] at hin
    cases hin
def depOn (md:Region.Mode)(ops:Array Oper)(k j:Nat):Bool:=((ops[k]?).map fun o=>o.after.toList.any fun e=>e.on==j && Region.binds md e).getD false
def ClosedL (md:Region.Mode)(ops:Array Oper)(L:Array Bool):Prop:=∀k j,L.getD k false=true→depOn md ops k j=true→L.getD j false=true
theorem ready_dep2 {L:Array Bool} {i:Nat} (h:i ∈ Region.ready md ops L)(j:Nat)(hd:depOn md ops i j=true):L.getD j false=true:=by
 have hi:=(mem_ready h).1
 have ho:ops[i]?=some ops[i]:=by simp
 unfold depOn at hd
 rw[ho] at hd
 exact ready_dep h ho j hd
theorem ClosedL.set {L:Array Bool} {i:Nat} (hc:ClosedL md ops L)(h:i ∈ Region.ready md ops L):ClosedL md ops (L.setIfInBounds i true):=by
 intro k j hk hd
 by_cases hj:j=i
 ·subst hj
  have:=mem_ready h
  have hi:j<L.size:=by
   by_cases hi:j<L.size
   ·exact hi
   ·have h2:=this.2
    simp[Array.getD,hi] at h2
  simp[Array.getD,hi]
 ·rw[done_set hj]
  by_cases hk2:k=i
  ·subst hk2
   exact ready_dep2 h j hd
  ·rw[done_set hk2] at hk
   exact hc k j hk hd
def closeDown (md:Region.Mode)(ops:Array Oper):Nat→List Nat→List Nat
 | 0,M=>M
 | j+1,M=>closeDown md ops j (if M.any (fun k=>depOn md ops k j) then j::M else M)
theorem closeDown_done {L:Array Bool} {i:Nat} (hc:ClosedL md ops L)(hi:i ∈ Region.ready md ops L):∀(n:Nat)(M:List Nat),(∀k ∈ M,k=i∨L.getD k false=true)→∀k ∈ closeDown md ops n M,k=i∨L.getD k false=true
 | 0,M,h,k,hk=>h k hk
 | j+1,M,h,k,hk=>by
  refine closeDown_done hc hi j _ ?_ k hk
  intro q hq
  split at hq
  ·rename_i ha
   rcases List.mem_cons.1 hq with rfl|hq
   ·right
    obtain⟨p,hp,hd⟩:=List.any_eq_true.1 ha
    rcases h p hp with rfl|hp2
    ·exact ready_dep2 hi _ hd
    ·exact hc _ _ hp2 hd
   ·exact h q hq
  ·exact h q hq
def waitsAll (md:Region.Mode)(ops:Array Oper)(l:Nat):Bool:=(List.range ops.size).all fun i=>decide (i<l) || (List.range l).all fun j=>(closeDown md ops i [i]).contains j
theorem waits_done {L:Array Bool} {i l:Nat} (hw:waitsAll md ops l=true)(hc:ClosedL md ops L)(hi:i ∈ Region.ready md ops L)(hl:l≤i)(j:Nat)(hj:j<l):L.getD j false=true:=by
 have h1:=List.all_eq_true.1 hw i (List.mem_range.2 (mem_ready hi).1)
 rw[Bool.or_eq_true,decide_eq_true_eq] at h1
 rcases h1 with h1|h1
 ·omega
 ·have h2:=List.all_eq_true.1 h1 j (List.mem_range.2 hj)
  have h3:=closeDown_done hc hi i [i] (fun k hk=>.inl (by simpa using hk)) j (by simpa using h2)
  rcases h3 with h3|h3
  ·omega
  ·exact h3
theorem left_pos {L:Array Bool} {j:Nat} (hj:j<L.size)(h:L.getD j false=false):0<left L:=by
 unfold left
 rw[List.count_pos_iff]
 have:L[j]=false:=by simpa [Array.getD,hj] using h
 rw[← this]
 simp
theorem fin_eq {L Lf:Array Bool} {l:Nat} (hs:L.size=Lf.size)(hf:∀j,j<Lf.size→Lf.getD j false=decide (j<l))(h1:∀j,j<l→L.getD j false=true)(h2:∀j,l≤j→L.getD j false=false):L=Lf:=by
 refine Array.ext hs fun j hj hj2=>?_
 have e1:L.getD j false=L[j]:=by simp[Array.getD,hj]
 have e2:Lf.getD j false=Lf[j]:=by simp[Array.getD,hj2]
 rw[← e1,← e2,hf j hj2]
 by_cases h:j<l
 ·rw[h1 j h,decide_eq_true h]
 ·rw[h2 j (by omega),decide_eq_false h]
theorem wpAny_phase (l m:Nat)(Lf:Array Bool)(dst:Nat→Nat)(A:(Nat→Value)→Act)(F:Nat→Value→World→Prop)(G:Nat→World→Prop)(R:World→World→Prop)
  (hm:ops.size=l+m) (hLs:Lf.size=ops.size) (hLf:∀j,j<Lf.size→Lf.getD j false=decide (j<l)) (hln:left Lf=m)
  (hlow:afterLowM md ops=true) (hwait:waitsAll md ops l=true) (hdst:∀i j,i<l→j<l→j≠i→dst j≠dst i) (hF:∀j v w w',F j v w→R w w'→F j v w')
  (hend:∀x w,G l w→(∀i,i<l→F i (x (dst i)) w)→wpAny P md ops Q m Lf (A x) w)
  (hstep:∀k x L w i,i<l→k<l→G k w→i ∈ Region.ready md ops L→(∀j,j<l→L.getD j false=true→F j (x (dst j)) w)→wpOp P ops Q i (fun a' w'=>∃ v,a'=A (put x (dst i) v)∧F i v w'∧R w w'∧G (k+1) w') (A x) w) :
  ∀(n:Nat) (L:Array Bool) (k:Nat) (x:Nat→Value) (w:World),L.size=ops.size→left L=n→k+n=ops.size→(∀j,l≤j→L.getD j false=false)→ClosedL md ops L→G k w→(∀j,j<l→L.getD j false=true→F j (x (dst j)) w)→wpAny P md ops Q n L (A x) w:=by
 intro n
 induction n with
 | zero=>
  intro L k x w hs hl hk hno hc hG hx
  have hall:∀j,j<l→L.getD j false=true:=by
   intro j hj
   cases h:L.getD j false with
   | true=>rfl
   | false=>
    have:=left_pos (by omega) h
    omega
  have e:=fin_eq (by omega) hLf hall hno
  have hm0:m=0:=by rw[← hln,← e];exact hl
  have hkl:k=l:=by omega
  subst hkl
  rw[e]
  have:=hend x w hG (fun i hi=>hx i hi (hall i hi))
  rw[hm0] at this
  exact this
 | succ n ih=>
  intro L k x w hs hl hk hno hc hG hx
  by_cases hall:∀j,j<l→L.getD j false=true
  ·have e:=fin_eq (by omega) hLf hall hno
   have hm0:m=n+1:=by rw[← hln,← e];exact hl
   have hkl:k=l:=by omega
   subst hkl
   rw[e]
   have:=hend x w hG (fun i hi=>hx i hi (hall i hi))
   rw[hm0] at this
   exact this
  ·refine⟨fun hr=>?_,fun i hi=>?_⟩
   ·exact absurd (fun j hj=>all_doneM hs hlow hr _ j (Nat.lt_succ_self j) (by omega)) hall
   ·have hil:i<l:=by
     rcases Nat.lt_or_ge i l with h|h
     ·exact h
     ·exact absurd (fun j hj=>waits_done hwait hc hi h j hj) hall
    have hr:=mem_ready hi
    have hkl:k<l:=by
     rcases Nat.lt_or_ge k l with h|h
     ·exact h
     ·exfalso
      have hn:n+1≤m:=by omega
      refine hall fun j hj=>?_
      cases hd:L.getD j false with
      | true=>rfl
      | false=>
       exfalso
       have h1:left (L.setIfInBounds j true)=n:=left_set (by rw[getD_false (by omega)];exact hd) hl
       have h2:m≤left (L.setIfInBounds j true):=by
        rw[← hln]
        unfold left
        have key:∀(a b:List Bool),a.length=b.length→(∀i:Nat,a[i]?=some false→b[i]?=some false)→a.count false≤b.count false:=by
         intro a
         induction a with
         | nil=>intro b _ _;simp
         | cons p t iht=>
          intro b hlen hab
          cases b with
          | nil=>simp at hlen
          | cons q s=>
           have h3:=iht s (by simpa using hlen) (fun i hi=>by have:=hab (i+1);simpa using this (by simpa using hi))
           have h4:=hab 0
           cases p<;>cases q<;>simp at h4 ⊢<;>omega
        refine key _ _ (by simp;omega) fun i hi=>?_
        have hil:i<Lf.size:=by
         have:=(List.getElem?_eq_some_iff.1 hi).1
         simpa using this
        have e2:Lf.getD i false=false:=by
         have:=(List.getElem?_eq_some_iff.1 hi).2
         simpa [Array.getD,hil] using this
        rw[hLf i hil,decide_eq_false_iff_not] at e2
        have e3:=hno i (by omega)
        have hij:i≠j:=by omega
        rw[← done_set (i:=j) hij] at e3
        have hil2:i<(L.setIfInBounds j true).size:=by simp;omega
        generalize L.setIfInBounds j true=M at *
        have e4:M[i]=false:=by simpa [Array.getD,hil2] using e3
        rw[List.getElem?_eq_getElem (by simpa using hil2),Array.getElem_toList,e4]
       omega
    refine wpOp_mono ?_ (hstep k x L w i hil hkl hG hi hx)
    rintro a' w' ⟨v,rfl,hv,hw,hG'⟩
    refine ih _ (k+1) (put x (dst i) v) w' (by simpa using hs) (left_set hr.2 hl) (by omega) ?_ (hc.set hi) hG' ?_
    ·intro j hj
     rw[done_set (by omega)]
     exact hno j hj
    ·intro j hj hd
     by_cases hji:j=i
     ·subst hji
      unfold put
      rw[if_pos rfl]
      exact hv
     ·rw[done_set hji] at hd
      unfold put
      rw[if_neg (hdst i j hil hj hji)]
      exact hF j _ _ _ (hx j hj hd) hw
end
def tabM (M B n:Nat)(v:Value)(w:World):Prop:=∃b,v=.slice (some ⟨b,0,none⟩) n n∧B≤b∧∀k,k<n→∃t:ByteArray,w.cell? ⟨b,k,none⟩=some (.string t)∧t.size≤M
def ptrM (M B:Nat)(v:Value)(w:World):Prop:=∃(b k:Nat)(t:ByteArray),v=.pointer (some ⟨b,k,none⟩)∧B≤b∧w.cell? ⟨b,k,none⟩=some (.string t)∧t.size≤M
def txtM (M:Nat)(v:Value):Prop:=∃t:ByteArray,v=.string t∧t.size≤M
def numM (lo hi:Nat)(v:Value):Prop:=∃k:Nat,v=.int .i64 k∧lo≤k∧k<hi
theorem tabM.gr {M B n g:Nat} {v:Value} {w w':World} (h:tabM M B n v w)(hg:w.grownBy w' (some g))(hB:g<B):tabM M B n v w':=by
 obtain⟨b,rfl,hb,hc⟩:=h
 refine⟨b,rfl,hb,fun k hk=>?_⟩
 obtain⟨t,h1,h2⟩:=hc k hk
 exact⟨t,gr_cell hg (show b≠g by omega) h1,h2⟩
theorem ptrM.gr {M B g:Nat} {v:Value} {w w':World} (h:ptrM M B v w)(hg:w.grownBy w' (some g))(hB:g<B):ptrM M B v w':=by
 obtain⟨b,k,t,rfl,hb,h1,h2⟩:=h
 exact⟨b,k,t,rfl,hb,gr_cell hg (show b≠g by omega) h1,h2⟩
theorem tabM_get {M:Nat} {w:World} {cs:Array Value} {k:Nat} (hk:k<cs.size)(hcs:cs.toList.all (strOk M)=true):∃t:ByteArray,(w.alloc (.cells cs 9)).cell? ⟨w.heap.size,k,none⟩=some (.string t)∧t.size≤M:=by
 have hm:strOk M cs[k]=true:=List.all_eq_true.1 hcs _ (Array.mem_toList_iff.2 (Array.getElem_mem hk))
 have hc:(w.alloc (.cells cs 9)).cell? ⟨w.heap.size,k,none⟩=some cs[k]:=by simp[hk]
 cases hx:cs[k] with
 | string t=>
  rw[hx] at hc hm
  exact⟨t,hc,by simpa [strOk] using hm⟩
 | _=>rw[hx] at hm;cases hm
def GoneBy (W:World)(g:Nat)(o:Option Addr)(cl cp a0 z:Nat)(k:Nat)(w:World):Prop:=W.grownBy w (some g)∧∃a',a'≤a0+k∧Src w g o cl cp a' z
theorem GoneBy.still {W:World} {g cl cp a0 z k:Nat} {o:Option Addr} {w w':World} (h:GoneBy W g o cl cp a0 z k w)(hb:Below w.heap.size w w'):GoneBy W g o cl cp a0 z (k+1) w':=by
 obtain⟨h1,a',h2,h3⟩:=h
 exact⟨gr_trans h1 (gr_below hb),a',by omega,h3.below hb⟩
open Go.RowKit Go.Lib Go.Maps
theorem Tryz.info2:(Tryz.prog.info? 2).map (fun i=>(i.zero,i.size,i.bytes))=some (some (.int .i64 0),1,8):=by kernel_rfl
def Same (lo hi:Nat)(w w':World):Prop:=∀k,lo≤k→k<hi→w'.heap[k]?=w.heap[k]?
theorem Same.of_below {lo hi B:Nat} {w w':World} (h:Below B w w')(hB:hi≤B):Same lo hi w w':=fun k _ h2=>h.block k (Nat.lt_of_lt_of_le h2 hB)
theorem Same.gr {lo hi g:Nat} {w w':World} (h:w.grownBy w' (some g))(hg:g<lo)(hh:hi≤w.heap.size):Same lo hi w w':=fun k h1 h2=>h.block k (Nat.lt_of_lt_of_le h2 hh) (by intro e;cases e;omega)
theorem two_blocks {w V:World} {o1 o2:Obj} (hV:V=(w.alloc o1).alloc o2):Below w.heap.size w V∧w.heap.size+2≤V.heap.size∧V.heap[w.heap.size]?=some o1∧V.heap[w.heap.size+1]?=some o2:=by
 subst hV
 refine⟨((Below.refl _ _).alloc (Nat.le_refl _) _).alloc (by simp) _,by simp,?_,?_⟩
 ·rw[heap_alloc_old _ _ _ (by simp)]
  exact heap_alloc_at _ _
 ·have:=heap_alloc_at (w.alloc o1) o2
  rw[World.size_alloc] at this
  exact this
def TxL (lo hi:Nat)(w:World)(o:Option Addr)(F:List ByteArray):Prop:=∀i (h:i<F.length),∃ a,o=some a∧lo≤a.block∧a.block<hi∧w.cell? (a.add i)=some (.string F[i])
def InL (lo hi:Nat)(w:World)(o:Option Addr)(F:List Int):Prop:=∀i (h:i<F.length),∃ a,o=some a∧lo≤a.block∧a.block<hi∧w.cell? (a.add i)=some (.int .i64 F[i])
theorem TxL.tx {lo hi:Nat} {w:World} {o:Option Addr} {F:List ByteArray} (h:TxL lo hi w o F):Tx hi w o F:=fun i hi=>let ⟨a,ho,_,h2,h3⟩:=h i hi;⟨a,ho,h2,h3⟩
def numCells (P:List Int):List Value:=P.map (.int .i64)
def OwnN (B:Nat)(v:Value)(P:List Int)(w:World):Prop:=w.ownsRow B 2 1 v P.length (numCells P)
theorem OwnN.shape {B:Nat} {v:Value} {P:List Int} {w:World} (h:OwnN B v P w):∃o cap,v=.slice o P.length cap:=by
 rcases h.2 with ⟨rfl,h0⟩|⟨g,cap,cur,rfl,-⟩
 ·exact⟨none,0,by rw[h0]⟩
 ·exact⟨_,cap,rfl⟩
theorem OwnN.inL {B:Nat} {o:Option Addr} {cap:Nat} {P:List Int} {w:World} (h:OwnN B (.slice o P.length cap) P w):InL B w.heap.size w o P:=by
 intro i hi
 have hl:=World.ownsRow.lt h
 rcases h.2 with ⟨h1,h0⟩|⟨g,cap',cur,h1,hB,-⟩
 ·omega
 ·simp only[Value.slice.injEq] at h1
  obtain⟨rfl,-⟩:=h1
  exact⟨_,rfl,hB,(hl g rfl).2,World.ownsRow.cells h (g:=g) rfl i _ (by simp[numCells,hi])⟩
theorem OwnN.below {B:Nat} {v:Value} {P:List Int} {w w':World} (h:OwnN B v P w)(hb:Below w.heap.size w w'):OwnN B v P w':=World.ownsRow.kept h (row:=none) ⟨hb.os,hb.tape,hb.output,hb.size,fun k hk _=>hb.block k hk⟩ (by
 cases hv:v.ownBlock with
 | none=>exact .inl rfl
 | some k=>exact .inr (by simp))
theorem wp_appN {w:World} {ops:Array Oper} {rest:List Oper} {o:Oper} {a:Act} {Q:Exit→Act→World→Prop} (hgd:o.guard=none)(s x:Operand)
  (ho:o.op=.call { callee:=.builtin .append,args:=#[s,x],argTypes:=#[115,115] })
  (B:Nat) (v:Value) (C:List Int) (hs:a.eval s=v) (hown:OwnN B v C w) (u:Int)
  (c:Nat) (hx:a.eval x=.slice (some ⟨w.heap.size,0,none⟩) 1 c) (hlen:C.length≤1000000) (hB:B≤w.heap.size)
  (h:∀v' w',OwnN B v' (C ++ [u]) w'→(w.alloc (.cells #[.int .i64 u] 2)).grownBy w' v.ownBlock→wpList Tryz.prog ops Q rest (a.put o.dst v') w'):wpList Tryz.prog ops Q (o::rest) a (w.alloc (.cells #[.int .i64 u] 2)):=by
 obtain⟨i0,hi0,hz0,hz1,hz2⟩:=info_parts Tryz.info2
 unfold OwnN at hown
 refine wpList_append_own _ hgd s x 115 ho B 2 i0 (.int .i64 0) 1 8 Tryz.underlying115 hi0 hz0 hz1 hz2 rfl (by decide) v C.length (numCells C) hs (World.ownsRow.alloc hown _) ⟨w.heap.size,0,none⟩ 1 c [.int .i64 u] hx
  rfl ?_ ?_ (by unfold maxLen;omega) (by omega) (by simp;omega) ?_
 ·intro j y hj
  rw[add_off]
  match j,hj with
  | 0,hj=>simp at hj;subst hj;simp
 ·intro y hy
  simp at hy
  subst hy
  rfl
 ·intro v' w' h1 h2 _
  refine h v' w' ?_ h2
  unfold OwnN numCells
  rw[List.map_append,List.length_append]
  exact h1
def strCellsX (P:List ByteArray):List Value:=P.map .string
def OwnX (B:Nat)(v:Value)(P:List ByteArray)(w:World):Prop:=w.ownsRow B 9 1 v P.length (strCellsX P)
theorem OwnX.shape {B:Nat} {v:Value} {P:List ByteArray} {w:World} (h:OwnX B v P w):∃o cap,v=.slice o P.length cap:=by
 rcases h.2 with ⟨rfl,h0⟩|⟨g,cap,cur,rfl,-⟩
 ·exact⟨none,0,by rw[h0]⟩
 ·exact⟨_,cap,rfl⟩
theorem OwnX.txL {B:Nat} {o:Option Addr} {cap:Nat} {P:List ByteArray} {w:World} (h:OwnX B (.slice o P.length cap) P w):TxL B w.heap.size w o P:=by
 intro i hi
 have hl:=World.ownsRow.lt h
 rcases h.2 with ⟨h1,h0⟩|⟨g,cap',cur,h1,hB,-⟩
 ·omega
 ·simp only[Value.slice.injEq] at h1
  obtain⟨rfl,-⟩:=h1
  exact⟨_,rfl,hB,(hl g rfl).2,World.ownsRow.cells h (g:=g) rfl i _ (by simp[strCellsX,hi])⟩
theorem OwnX.below {B:Nat} {v:Value} {P:List ByteArray} {w w':World} (h:OwnX B v P w)(hb:Below w.heap.size w w'):OwnX B v P w':=World.ownsRow.kept h (row:=none) ⟨hb.os,hb.tape,hb.output,hb.size,fun k hk _=>hb.block k hk⟩ (by
 cases hv:v.ownBlock with
 | none=>exact .inl rfl
 | some k=>exact .inr (by simp))
theorem Tryz.info9X:(Tryz.prog.info? 9).map (fun i=>(i.zero,i.size,i.bytes))=some (some (.string ⟨#[]⟩),1,16):=by kernel_rfl
theorem wp_appX {w:World} {ops:Array Oper} {rest:List Oper} {o:Oper} {a:Act} {Q:Exit→Act→World→Prop} (hgd:o.guard=none)(s x:Operand)
  (ho:o.op=.call { callee:=.builtin .append,args:=#[s,x],argTypes:=#[25,25] })
  (B:Nat) (v:Value) (C:List ByteArray) (hs:a.eval s=v) (hown:OwnX B v C w) (u:ByteArray)
  (c:Nat) (hx:a.eval x=.slice (some ⟨w.heap.size,0,none⟩) 1 c) (hlen:C.length≤1000000) (hB:B≤w.heap.size)
  (h:∀v' w',OwnX B v' (C ++ [u]) w'→(w.alloc (.cells #[.string u] 9)).grownBy w' v.ownBlock→wpList Tryz.prog ops Q rest (a.put o.dst v') w'):wpList Tryz.prog ops Q (o::rest) a (w.alloc (.cells #[.string u] 9)):=by
 obtain⟨i0,hi0,hz0,hz1,hz2⟩:=info_parts Tryz.info9X
 unfold OwnX at hown
 refine wpList_append_own _ hgd s x 25 ho B 9 i0 (.string ⟨#[]⟩) 1 16 Tryz.underlying25 hi0 hz0 hz1 hz2 rfl (by decide) v C.length (strCellsX C) hs (World.ownsRow.alloc hown _) ⟨w.heap.size,0,none⟩ 1 c [.string u] hx
  rfl ?_ ?_ (by unfold maxLen;omega) (by omega) (by simp;omega) ?_
 ·intro j y hj
  rw[add_off]
  match j,hj with
  | 0,hj=>simp at hj;subst hj;simp
 ·intro y hy
  simp at hy
  subst hy
  rfl
 ·intro v' w' h1 h2 _
  refine h v' w' ?_ h2
  unfold OwnX strCellsX
  rw[List.map_append,List.length_append]
  exact h1
theorem OwnX.made (B:Nat)(w:World)(hB:B≤w.heap.size):OwnX B (.slice (some ⟨w.heap.size,0,none⟩) 0 0) [] (w.alloc (.cells #[] 9)):=
 ⟨rfl,.inr ⟨w.heap.size,0,#[],rfl,hB,heap_alloc_at _ _,Nat.le_refl _,Nat.zero_le _,rfl,rfl⟩⟩
theorem own_apartA {w:World} {B B' s s' n n':Nat} {e e':TypeId} {v v':Value} {xs xs':List Value} (h:w.ownsRow B e s v n xs)(h':w.ownsRow B' e' s' v' n' xs')(he:e≠e'):v.ownBlock=none∨v.ownBlock≠v'.ownBlock:=by
 rcases h.2 with ⟨rfl,-⟩|⟨g,cap,cur,rfl,-,hg,-⟩
 ·exact .inl rfl
 ·right
  rcases h'.2 with ⟨rfl,-⟩|⟨g',cap',cur',rfl,-,hg',-⟩
  ·simp[Value.ownBlock]
  ·intro e1
   simp only[Value.ownBlock,Option.some.injEq] at e1
   rw[e1,hg'] at hg
   simp only[Option.some.injEq,Obj.cells.injEq] at hg
   exact he hg.2.1.symm
theorem row_stay {B s n:Nat} {e:TypeId} {v:Value} {xs:List Value} {w w':World} (h:w.ownsRow B e s v n xs)(hk:∀k,v.ownBlock=some k→w'.heap[k]?=w.heap[k]?):w'.ownsRow B e s v n xs:=by
 obtain⟨h1,h2⟩:=h
 refine⟨h1,?_⟩
 rcases h2 with h2|⟨k,cap,cur,rfl,e2,e3,e4⟩
 ·exact .inl h2
 ·exact .inr ⟨k,cap,cur,rfl,e2,(hk k rfl).trans e3,e4⟩
theorem row_same {B s n:Nat} {e:TypeId} {v:Value} {xs:List Value} {w w':World} (h:w.ownsRow B e s v n xs)(hs:Same B w.heap.size w w'):w'.ownsRow B e s v n xs:=
 row_stay h fun k hk=>hs k (World.ownsRow.lt h k hk).1 (World.ownsRow.lt h k hk).2
theorem gr_row {w0 w w':World} {g:Nat} {v:Value} (h:w0.grownBy w (some g))(hg:w.grownBy w' v.ownBlock)(hv:∀k,v.ownBlock=some k→w0.heap.size≤k):w0.grownBy w' (some g):=
 ⟨hg.os.trans h.os,hg.tape.trans h.tape,hg.output.trans h.output,Nat.le_trans h.size hg.size,fun i hi hr=>(hg.block i (Nat.lt_of_lt_of_le hi h.size) (fun e=>by have:=hv i e.symm;omega)).trans (h.block i hi hr)⟩
theorem Src.row {w w':World} {g n cp a z:Nat} {o:Option Addr} {v:Value} (h:Src w g o n cp a z)(hg:w.grownBy w' v.ownBlock)(hv:∀k,v.ownBlock=some k→k≠g):Src w' g o n cp a z:=
 ⟨by rw[hg.block g h.lt (fun e=>hv g e.symm rfl)];exact h.blk⟩
theorem gr_setC {w0 w:World} {g b j:Nat} {v:Value} (h:w0.grownBy w (some g))(hb:w0.heap.size≤b):w0.grownBy (w.setCell ⟨b,j,none⟩ v) (some g):=
 ⟨h.os,h.tape,h.output,by simpa [World.setCell] using h.size,fun i hi hr=>by rw[← h.block i hi hr];simp[World.setCell,Array.getElem?_modify,show b≠i by omega]⟩
theorem Src.setC {w:World} {g n cp a z b j:Nat} {o:Option Addr} {v:Value} (h:Src w g o n cp a z)(hb:b≠g):Src (w.setCell ⟨b,j,none⟩ v) g o n cp a z:=
 ⟨by simp[World.setCell,Array.getElem?_modify,h.blk,hb]⟩
theorem OwnN.grG {B g:Nat} {v:Value} {P:List Int} {w w':World} (h:OwnN B v P w)(hg:w.grownBy w' (some g))(hB:g<B):OwnN B v P w':=row_same h (Same.gr hg hB (Nat.le_refl _))
theorem OwnN.made (B:Nat)(w:World)(hB:B≤w.heap.size):OwnN B (.slice (some ⟨w.heap.size,0,none⟩) 0 0) [] (w.alloc (.cells #[] 2)):=
 ⟨rfl,.inr ⟨w.heap.size,0,#[],rfl,hB,hp_alloc _ _,Nat.le_refl _,Nat.zero_le _,rfl,rfl⟩⟩
theorem srcDomain (g:Nat)(o:Option Addr)(c:List UInt8)(cp a z:Nat)(w:World)(h:Src w g o c.length cp a z)(hc:Code g w o c)(ha:a≤900000000000)(hl:c.length≤1048576) :
  Calls Tryz.prog 182 #[.pointer (some ⟨g,0,none⟩)] w fun e w'=>∃ (t:ByteArray) (a':Nat),e=.returned (.string t)∧t.size≤14∧a'≤a+2∧Src w' g o c.length cp a' z∧w.grownBy w' (some g):=by
 have HC:Hid (Code g w o c):=hc
 have hgl:=h.lt
 have Hs:=mkHid h
 have Hg:Hid (w.grownBy w (some g)):=gr_refl _ _
 clear h hc
 go_enter Tryz.func182,Tryz.ntmps182
 have hN7:=srcOne g o c cp a z 9 w Hs.out (HC.out.grown Hg.out (Nat.le_refl _)) (by omega) hl (by omega) (by omega)
 go_wp2_with fail
 refine hN7.mono ?_
 rintro e w2 ⟨b1,rfl,hs5,hg6⟩
 have Hs3:=mkHid hs5
 have Hg4:=mkHid (gr_trans Hg.out hg6)
 clear hN7 hs5 hg6 Hs Hg
 cases b1 with
 | true=>
  have hb14:∀cs,Below w2.heap.size w2 (w2.alloc (.cells cs 9)):=fun cs=>(Below.refl _ _).alloc (Nat.le_refl _) _
  have hN13:=fun cs=>srcN g o c cp (a+1) z 6 (w2.alloc (.cells cs 9)) (Hs3.out.below (hb14 cs)) (HC.out.grown (gr_trans Hg4.out (gr_below (hb14 cs))) (Nat.le_refl _)) (by omega) hl (by omega) (by omega)
  have hl17:g<w2.heap.size:=Hs3.out.lt
  go_wp2_with fail
  refine(hN13 _).mono ?_
  rintro e w8 ⟨v11,rfl,hv11,hs15,hg16⟩
  obtain⟨t12,hct12,hzt12⟩:=table_at (M:=11) hg16 hl17 (show v11<6 by omega) (by decide)
  have hlv11:v11<6:=by omega
  have hgg18:=gr_trans (gr_below (hb14 _)) hg16
  have Hs9:=mkHid hs15
  have Hg10:=mkHid (gr_trans Hg4.out hgg18)
  clear hN13 hs15 hg16 hb14 hl17 hgg18 Hs3 Hg4
  go_wp2
  go_ret
  exact⟨_,_,rfl,by omega,by omega,Hs9.out,Hg10.out⟩
 | false=>
  have hb14:∀cs,Below w2.heap.size w2 (w2.alloc (.cells cs 9)):=fun cs=>(Below.refl _ _).alloc (Nat.le_refl _) _
  have hN13:=fun cs=>srcN g o c cp (a+1) z 4 (w2.alloc (.cells cs 9)) (Hs3.out.below (hb14 cs)) (HC.out.grown (gr_trans Hg4.out (gr_below (hb14 cs))) (Nat.le_refl _)) (by omega) hl (by omega) (by omega)
  have hl17:g<w2.heap.size:=Hs3.out.lt
  go_wp2_with fail
  refine(hN13 _).mono ?_
  rintro e w8 ⟨v11,rfl,hv11,hs15,hg16⟩
  obtain⟨t12,hct12,hzt12⟩:=table_at (M:=14) hg16 hl17 (show v11<4 by omega) (by decide)
  have hlv11:v11<4:=by omega
  have hgg18:=gr_trans (gr_below (hb14 _)) hg16
  have Hs9:=mkHid hs15
  have Hg10:=mkHid (gr_trans Hg4.out hgg18)
  clear hN13 hs15 hg16 hb14 hl17 hgg18 Hs3 Hg4
  go_wp2
  go_ret
  exact⟨_,_,rfl,by omega,by omega,Hs9.out,Hg10.out⟩
end Go.Proofs.YtacaoiedcfelcaaGreatDoor
