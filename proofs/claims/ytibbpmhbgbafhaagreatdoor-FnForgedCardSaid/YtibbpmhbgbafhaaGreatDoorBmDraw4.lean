import Derived.Test.YtibbpmhbgbafhaaGreatDoorBmDraw3
import Derived.Test.YtibbpmhbgbafhaaGreatDoorDrawValue
import Derived.Test.YtibbpmhbgbafhaaGreatDoorDrawOpE
set_option maxRecDepth 20000
namespace Go.Proofs.YtibbpmhbgbafhaaGreatDoor
open Go.RowKit Go.Lib Go.Maps
namespace Bm
theorem Mds.mdIn {B:Nat} {o:Option Addr} {c:Nat} {E:List MdE} {w:World} (h:Mds B (.slice o E.length c) E w)(hn:0<E.length):∃gL,o=some ⟨gL,0,none⟩∧MdIn gL w E:=by
 obtain⟨gL,h1,h2,h3⟩:=h.cellsAt hn
 refine⟨gL,h2,h1,fun j hj=>⟨h3 j hj,?_⟩⟩
 have hO:=h.own E[j] (List.getElem_mem _)
 obtain⟨oq,cq,hv⟩:=hO.shape
 rw[hv] at hO
 refine⟨oq,cq,hv,fun i hi=>?_⟩
 obtain⟨gq,q1,q2,q3⟩:=hO.cellsAt (by omega)
 obtain⟨c0,c1⟩:=q3 i hi
 refine⟨⟨gq,0,none⟩,q2,q1,?_,?_⟩
 ·rw[Addr.add_lit,Nat.zero_add];exact c0
 ·rw[Addr.add_lit,Nat.zero_add];exact c1
theorem wBuildAny (B B2:Nat)(vF vE:Value)(F:List Fd)(E:List MdE)(w:World)(hF:OwnFd B vF F w)(hE:Mds B2 vE E w)(hlen:F.length≤100)(hsz:∀f ∈ F,f.1.size≤100000∧f.2.size≤100000)(hl:E.length≤100)(hok:∀e ∈ E,e.1.ok) :
  Calls Tryz.prog 29 #[vF,vE] w fun e w'=>∃ t:ByteArray,e=.returned (.string t)∧t.size≤100000∧Below w.heap.size w w':=by
 obtain⟨oF,cF,rfl⟩:=hF.shape
 obtain⟨oE,cE,rfl⟩:=hE.shape
 by_cases h0:0<E.length
 ·obtain⟨gL,rfl,hM⟩:=Mds.mdIn hE h0
  exact wBuild oF F cF gL cE E w hF.fld hlen hsz hM hl h0 hok
 ·have e0:E.length=0:=by omega
  rw[e0]
  exact wBuild0 oF F cF oE cE w hF.fld hlen hsz
theorem wHeadAny (B:Nat)(vF:Value)(F:List Fd)(w:World)(hF:OwnFd B vF F w)(hlen:F.length≤100)(hsz:∀f ∈ F,f.1.size≤100∧f.2.size≤6100) :
  Calls Tryz.prog 33 #[vF] w fun e w'=>∃ t:ByteArray,e=.returned (.string t)∧t.size≤100000∧Below w.heap.size w w':=by
 obtain⟨oF,cF,rfl⟩:=hF.shape
 exact wHead oF F cF w hF.fld (by omega) (fun f hf=>by have:=hsz f hf;omega)
set_option maxRecDepth 40000 in
set_option maxHeartbeats 16000000 in
theorem srcMessage (g:Nat)(o:Option Addr)(c:List UInt8)(cp a z:Nat)(w:World)(h:Src w g o c.length cp a z)(hc:Code g w o c)(ha:a≤300000000000)(hl:c.length≤1048576)(hz:z≤12) :
  Calls Tryz.prog 10 #[.pointer (some ⟨g,0,none⟩)] w fun e w'=>∃ (t:ByteArray) (a':Nat),e=.returned (.string t)∧t.size≤600000∧a'≤a+20000000∧Src w' g o c.length cp a' z∧w.grownBy w' (some g):=by
 have HC:Hid (Code g w o c):=hc
 have hgl:=h.lt
 have Hs:=mkHid h
 have Hg:Hid (w.grownBy w (some g)):=gr_refl _ _
 clear h hc
 go_enter Tryz.func10,Tryz.ntmps10
 have hM1:=mkHid (srcMail g o c cp a z w Hs.out (HC.out.grown Hg.out (Nat.le_refl _)) (by omega) hl hz)
 have hgW1:g<w.heap.size:=Hs.out.lt
 go_wp2_with fail
 refine hM1.out.mono ?_
 rintro e wM1 ⟨vM1,FM1,aM1,rfl,hFl1,hFs1,hO1,haM1,hsM1,hgM1⟩
 have HsM1:=mkHid hsM1
 have HgM1:=mkHid (gr_trans Hg.out hgM1)
 have HO1:=mkHid hO1
 have HFs1:=mkHid hFs1
 clear hM1 hsM1 hgM1 hO1 hFs1 Hs Hg
 have hgE:g<wM1.heap.size:=HsM1.out.lt
 have hE:=mkHid (srcMade g o c cp aM1 z wM1 HsM1.out (HC.out.grown HgM1.out (Nat.le_refl _)) (by omega) hl hz)
 go_wp2_with fail
 refine hE.out.mono ?_
 rintro e wE ⟨vE,E,aE,rfl,hOE,hEl,hEok,haE,hsE,hgE2⟩
 have HsE:=mkHid hsE
 have HgE:=mkHid (gr_trans HgM1.out hgE2)
 have cB:=mkHid (wBuildAny _ _ vM1 vE FM1 E wE (HO1.out.gr hgE2 hgW1) hOE (by omega) (fun f hf=>by have:=HFs1.out f hf;omega) (by omega) hEok)
 clear hE hsE hgE2 hOE hEok HO1 HFs1 HsM1 HgM1 hgW1 hgE
 go_wp2_with fail
 refine cB.out.mono ?_
 rintro e wB ⟨tM,rfl,hzM,hbB⟩
 have HsB:=mkHid (HsE.out.below hbB)
 have HgB:=mkHid (gr_trans HgE.out (gr_below hbB))
 clear cB hbB HsE HgE
 have hN7:=srcN g o c cp aE z 6 wB HsB.out (HC.out.grown HgB.out (Nat.le_refl _)) (by omega) hl (by omega) (by omega)
 go_wp2_with fail
 refine hN7.mono ?_
 rintro e w2 ⟨v1,rfl,hv1,hs5,hg6⟩
 have Hs3:=mkHid hs5
 have Hg4:=mkHid (gr_trans HgB.out hg6)
 clear hN7 hs5 hg6 HsB HgB
 rcases (show v1=0∨v1=1∨v1=2∨3≤v1 by omega) with hv|hv|hv|hv
 ·have b0:((v1:Int)==0)=true:=by rw[hv];rfl
  clear hv
  have hM2:=mkHid (srcMail g o c cp (aE+1) z w2 Hs3.out (HC.out.grown Hg4.out (Nat.le_refl _)) (by omega) hl hz)
  have hgW2:g<w2.heap.size:=Hs3.out.lt
  go_wp2_with fail
  refine hM2.out.mono ?_
  rintro e wM2 ⟨vM2,FM2,aM2,rfl,hFl2,hFs2,hO2,haM2,hsM2,hgM2⟩
  have HsM2:=mkHid hsM2
  have HgM2:=mkHid (gr_trans Hg4.out hgM2)
  have HO2:=mkHid hO2
  have HFs2:=mkHid hFs2
  clear hM2 hsM2 hgM2 hO2 hFs2 Hs3 Hg4
  have cH2:=mkHid (wHeadAny _ vM2 FM2 wM2 HO2.out (by omega) HFs2.out)
  go_wp2_with fail
  refine cH2.out.mono ?_
  rintro e wH2 ⟨tH2,rfl,hzH2,hbH2⟩
  have HsH2:=mkHid (HsM2.out.below hbH2)
  have HgH2:=mkHid (gr_trans HgM2.out (gr_below hbH2))
  clear cH2 hbH2 HO2 HFs2 HsM2 HgM2 hgW2
  have y0:¬9223372036854775807<tH2.size+2:=by omega
  have hN14:=srcN g o c cp aM2 z 60 wH2 HsH2.out (HC.out.grown HgH2.out (Nat.le_refl _)) (by omega) hl (by omega) (by omega)
  go_wp2_with fail
  refine hN14.mono ?_
  rintro e w9 ⟨v8,rfl,hv8,hs12,hg13⟩
  have Hs10:=mkHid hs12
  have Hg11:=mkHid (gr_trans HgH2.out hg13)
  clear hN14 hs12 hg13 HsH2 HgH2
  have hN22:=srcBytes g o c cp (aM2+1) z v8 w9 Hs10.out (HC.out.grown Hg11.out (Nat.le_refl _)) (by omega) hl (by omega)
  go_wp2_with fail
  refine hN22.mono ?_
  rintro e w17 ⟨tB15,aB16,rfl,hztB15,haB16,hs20,hg21⟩
  have Hs18:=mkHid hs20
  have Hg19:=mkHid (gr_trans Hg11.out hg21)
  clear hN22 hs20 hg21 Hs10 Hg11
  have y1:¬9223372036854775807<tH2.size+2+tB15.size:=by omega
  go_wp2
  go_ret
  exact⟨_,_,rfl,by simp only[ByteArray.size_append];show tH2.size+2+tB15.size≤_;omega,by omega,Hs18.out,Hg19.out⟩
 ·have b0:((v1:Int)==0)=false:=beq_eq_false_iff_ne.2 (by omega)
  have b1:((v1:Int)==1)=true:=by rw[hv];rfl
  clear hv
  have hM3:=mkHid (srcMail g o c cp (aE+1) z w2 Hs3.out (HC.out.grown Hg4.out (Nat.le_refl _)) (by omega) hl hz)
  have hgW3:g<w2.heap.size:=Hs3.out.lt
  go_wp2_with fail
  refine hM3.out.mono ?_
  rintro e wM3 ⟨vM3,FM3,aM3,rfl,hFl3,hFs3,hO3,haM3,hsM3,hgM3⟩
  have HsM3:=mkHid hsM3
  have HgM3:=mkHid (gr_trans Hg4.out hgM3)
  have HO3:=mkHid hO3
  have HFs3:=mkHid hFs3
  clear hM3 hsM3 hgM3 hO3 hFs3 Hs3 Hg4
  have cH3:=mkHid (wHeadAny _ vM3 FM3 wM3 HO3.out (by omega) HFs3.out)
  go_wp2_with fail
  refine cH3.out.mono ?_
  rintro e wH3 ⟨tH3,rfl,hzH3,hbH3⟩
  have HsH3:=mkHid (HsM3.out.below hbH3)
  have HgH3:=mkHid (gr_trans HgM3.out (gr_below hbH3))
  clear cH3 hbH3 HO3 HFs3 HsM3 HgM3 hgW3
  have y0:¬9223372036854775807<tH3.size+32:=by omega
  have y1:¬9223372036854775807<tH3.size+32+tM.size:=by omega
  go_wp2
  go_ret
  exact⟨_,_,rfl,by simp only[ByteArray.size_append];show tH3.size+32+tM.size≤_;omega,by omega,HsH3.out,HgH3.out⟩
 ·have b0:((v1:Int)==0)=false:=beq_eq_false_iff_ne.2 (by omega)
  have b1:((v1:Int)==1)=false:=beq_eq_false_iff_ne.2 (by omega)
  have b2:((v1:Int)==2)=true:=by rw[hv];rfl
  clear hv
  have hM4:=mkHid (srcMail g o c cp (aE+1) z w2 Hs3.out (HC.out.grown Hg4.out (Nat.le_refl _)) (by omega) hl hz)
  have hgW4:g<w2.heap.size:=Hs3.out.lt
  go_wp2_with fail
  refine hM4.out.mono ?_
  rintro e wM4 ⟨vM4,FM4,aM4,rfl,hFl4,hFs4,hO4,haM4,hsM4,hgM4⟩
  have HsM4:=mkHid hsM4
  have HgM4:=mkHid (gr_trans Hg4.out hgM4)
  have HO4:=mkHid hO4
  have HFs4:=mkHid hFs4
  clear hM4 hsM4 hgM4 hO4 hFs4 Hs3 Hg4
  have cH4:=mkHid (wHeadAny _ vM4 FM4 wM4 HO4.out (by omega) HFs4.out)
  go_wp2_with fail
  refine cH4.out.mono ?_
  rintro e wH4 ⟨tH4,rfl,hzH4,hbH4⟩
  have HsH4:=mkHid (HsM4.out.below hbH4)
  have HgH4:=mkHid (gr_trans HgM4.out (gr_below hbH4))
  clear cH4 hbH4 HO4 HFs4 HsM4 HgM4 hgW4
  have y0:¬9223372036854775807<tH4.size+2:=by omega
  have hN14:=srcN g o c cp aM4 z 30 wH4 HsH4.out (HC.out.grown HgH4.out (Nat.le_refl _)) (by omega) hl (by omega) (by omega)
  go_wp2_with fail
  refine hN14.mono ?_
  rintro e w9 ⟨v8,rfl,hv8,hs12,hg13⟩
  have Hs10:=mkHid hs12
  have Hg11:=mkHid (gr_trans HgH4.out hg13)
  clear hN14 hs12 hg13 HsH4 HgH4
  have hN22:=srcBytes g o c cp (aM4+1) z v8 w9 Hs10.out (HC.out.grown Hg11.out (Nat.le_refl _)) (by omega) hl (by omega)
  go_wp2_with fail
  refine hN22.mono ?_
  rintro e w17 ⟨tB15,aB16,rfl,hztB15,haB16,hs20,hg21⟩
  have Hs18:=mkHid hs20
  have Hg19:=mkHid (gr_trans Hg11.out hg21)
  clear hN22 hs20 hg21 Hs10 Hg11
  have y1:¬9223372036854775807<tH4.size+2+tB15.size:=by omega
  obtain⟨tI,htI⟩:∃x:ByteArray,x=tH4++⟨#[13,10]⟩++tB15:=⟨_,rfl⟩
  have hzI:tI.size≤101000:=by rw[htI];simp only[ByteArray.size_append];show tH4.size+2+tB15.size≤_;omega
  have HtI:=mkHid htI
  clear htI
  have hM5:=mkHid (srcMail g o c cp aB16 z w17 Hs18.out (HC.out.grown Hg19.out (Nat.le_refl _)) (by omega) hl hz)
  have hgW5:g<w17.heap.size:=Hs18.out.lt
  go_wp2_with fail
  refine hM5.out.mono ?_
  rintro e wM5 ⟨vM5,FM5,aM5,rfl,hFl5,hFs5,hO5,haM5,hsM5,hgM5⟩
  have HsM5:=mkHid hsM5
  have HgM5:=mkHid (gr_trans Hg19.out hgM5)
  have HO5:=mkHid hO5
  have HFs5:=mkHid hFs5
  clear hM5 hsM5 hgM5 hO5 hFs5 Hs18 Hg19
  have cH5:=mkHid (wHeadAny _ vM5 FM5 wM5 HO5.out (by omega) HFs5.out)
  go_wp2_with fail
  refine cH5.out.mono ?_
  rintro e wH5 ⟨tH5,rfl,hzH5,hbH5⟩
  have HsH5:=mkHid (HsM5.out.below hbH5)
  have HgH5:=mkHid (gr_trans HgM5.out (gr_below hbH5))
  clear cH5 hbH5 HO5 HFs5 HsM5 HgM5 hgW5
  rw[← HtI.out]
  clear HtI y0 y1
  have x0:¬9223372036854775807<tH5.size+85:=by omega
  have x1:¬9223372036854775807<tH5.size+85+tI.size:=by omega
  have x2:¬9223372036854775807<tH5.size+85+tI.size+16:=by omega
  have hb29:∀cs,Below wH5.heap.size wH5 (wH5.alloc (.cells cs 9)):=fun cs=>(Below.refl _ _).alloc (Nat.le_refl _) _
  have hN28:=fun cs=>srcN g o c cp aM5 z 7 (wH5.alloc (.cells cs 9)) (HsH5.out.below (hb29 cs)) (HC.out.grown (gr_trans HgH5.out (gr_below (hb29 cs))) (Nat.le_refl _)) (by omega) hl (by omega) (by omega)
  have hl32:g<wH5.heap.size:=HsH5.out.lt
  go_wp2_with fail
  refine(hN28 _).mono ?_
  rintro e w23 ⟨v26,rfl,hv26,hs30,hg31⟩
  obtain⟨t27,hct27,hzt27⟩:=table_at (M:=30) hg31 hl32 (show v26<7 by omega) (by decide)
  have hlv26:v26<7:=by omega
  have hgg33:=gr_trans (gr_below (hb29 _)) hg31
  have Hs24:=mkHid hs30
  have Hg25:=mkHid (gr_trans HgH5.out hgg33)
  clear hN28 hs30 hg31 hb29 hl32 hgg33 HsH5 HgH5
  have x9:¬9223372036854775807<tH5.size+85+tI.size+16+t27.size:=by omega
  go_wp2
  go_ret
  exact⟨_,_,rfl,by simp only[ByteArray.size_append];show tH5.size+85+tI.size+16+t27.size≤_;omega,by omega,Hs24.out,Hg25.out⟩
 ·have b0:((v1:Int)==0)=false:=beq_eq_false_iff_ne.2 (by omega)
  have b1:((v1:Int)==1)=false:=beq_eq_false_iff_ne.2 (by omega)
  have b2:((v1:Int)==2)=false:=beq_eq_false_iff_ne.2 (by omega)
  clear hv
  go_wp2
  go_ret
  exact⟨_,_,rfl,by omega,by omega,Hs3.out,Hg4.out⟩
end Bm
end Go.Proofs.YtibbpmhbgbafhaaGreatDoor
