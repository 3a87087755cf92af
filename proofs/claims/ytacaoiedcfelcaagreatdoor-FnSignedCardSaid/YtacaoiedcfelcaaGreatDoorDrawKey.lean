import Derived.Test.YtacaoiedcfelcaaGreatDoorBmDraw3
import Derived.Test.YtacaoiedcfelcaaGreatDoorDatePlain
import Derived.Test.YtacaoiedcfelcaaGreatDoorDrawOpE
import Derived.Test.YtacaoiedcfelcaaGreatDoorCkSgd
import Derived.Test.YtacaoiedcfelcaaGreatDoorAnyVals
import Derived.Test.YtacaoiedcfelcaaGreatDoorCells
set_option maxRecDepth 20000
set_option maxHeartbeats 16000000
namespace Go.Proofs.YtacaoiedcfelcaaGreatDoor
open Go.RowKit Go.Lib Go.Maps
namespace Bm
theorem Mds.mdIn {B:Nat} {o:Option Addr} {c:Nat} {E:List MdE} {w:World} (h:Mds B (.slice o E.length c) E w)(hn:0<E.length):∃gL,o=some ⟨gL,0,none⟩∧MdIn gL w E:=by
 obtain⟨gL,h1,h2,h3⟩:=h.cellsAt hn
 refine⟨gL,h2,h1,fun j hj=>⟨h3 j hj,?_⟩⟩
 have hO:=h.own E[j] (List.getElem_mem _)
 obtain⟨oq,cq,hv⟩:=hO.shape
 rw[hv] at hO
 refine⟨oq,cq,hv,fun i hi=>?_⟩
 obtain⟨gq,q1,q2,q3⟩:=hO.cellsAt (by omega)
 obtain⟨c0,c1⟩:=q3 i hi
 refine⟨⟨gq,0,none⟩,q2,q1,?_,?_⟩
 ·rw[Addr.add_lit,Nat.zero_add];exact c0
 ·rw[Addr.add_lit,Nat.zero_add];exact c1
theorem wBuildAny (B B2:Nat)(vF vE:Value)(F:List Fd)(E:List MdE)(w:World)(hF:OwnFd B vF F w)(hE:Mds B2 vE E w)(hlen:F.length≤5)(hsz:∀f ∈ F,f.1.size≤100∧f.2.size≤6100)(hl:E.length≤100)(hok:∀e ∈ E,e.1.ok) :
  Calls Tryz.prog 40 #[vF,vE] w fun e w'=>∃ t:ByteArray,e=.returned (.string t)∧t.size≤100000∧(t.size≤52000∨endD t)∧Below w.heap.size w w':=by
 obtain⟨oF,cF,rfl⟩:=hF.shape
 obtain⟨oE,cE,rfl⟩:=hE.shape
 by_cases h0:0<E.length
 ·obtain⟨gL,rfl,hM⟩:=Mds.mdIn hE h0
  exact wBuild oF F cF gL cE E w hF.fld hlen hsz hM hl h0 hok
 ·have e0:E.length=0:=by omega
  rw[e0]
  exact wBuild0 oF F cF oE cE w hF.fld hlen hsz
theorem wHeadAny (B:Nat)(vF:Value)(F:List Fd)(w:World)(hF:OwnFd B vF F w)(hlen:F.length≤5)(hsz:∀f ∈ F,f.1.size≤100∧f.2.size≤6100) :
  Calls Tryz.prog 44 #[vF] w fun e w'=>∃ t:ByteArray,e=.returned (.string t)∧t.size≤31015∧Below w.heap.size w w':=by
 obtain⟨oF,cF,rfl⟩:=hF.shape
 exact wHead oF F cF w hF.fld hlen hsz
set_option maxRecDepth 40000 in
theorem srcMessage (g:Nat)(o:Option Addr)(c:List UInt8)(cp a z:Nat)(w:World)(h:Src w g o c.length cp a z)(hc:Code g w o c)(ha:a≤300000000000)(hl:c.length≤1048576)(hz:z≤12) :
  Calls Tryz.prog 12 #[.pointer (some ⟨g,0,none⟩)] w fun e w'=>∃ (t:ByteArray) (a':Nat),e=.returned (.string t)∧t.size≤600000∧(t.size≤90000∨endD t)∧a'≤a+20000000∧Src w' g o c.length cp a' z∧w.grownBy w' (some g):=by
 have HC:Hid (Code g w o c):=hc
 have hgl:=h.lt
 have Hs:=mkHid h
 have Hg:Hid (w.grownBy w (some g)):=gr_refl _ _
 clear h hc
 go_enter Tryz.func12,Tryz.ntmps12
 have hM1:=mkHid (srcMail g o c cp a z w Hs.out (HC.out.grown Hg.out (Nat.le_refl _)) (by omega) hl hz)
 have hgW1:g<w.heap.size:=Hs.out.lt
 go_wp2_with fail
 refine hM1.out.mono ?_
 rintro e wM1 ⟨vM1,FM1,aM1,rfl,hFl1,hFs1,hO1,haM1,hsM1,hgM1⟩
 have HsM1:=mkHid hsM1
 have HgM1:=mkHid (gr_trans Hg.out hgM1)
 have HO1:=mkHid hO1
 have HFs1:=mkHid hFs1
 clear hM1 hsM1 hgM1 hO1 hFs1 Hs Hg
 have hgE:g<wM1.heap.size:=HsM1.out.lt
 have hE:=mkHid (srcMade g o c cp aM1 z wM1 HsM1.out (HC.out.grown HgM1.out (Nat.le_refl _)) (by omega) hl hz)
 go_wp2_with fail
 refine hE.out.mono ?_
 rintro e wE ⟨vE,E,aE,rfl,hOE,hEl,hEok,haE,hsE,hgE2⟩
 have HsE:=mkHid hsE
 have HgE:=mkHid (gr_trans HgM1.out hgE2)
 have cB:=mkHid (wBuildAny _ _ vM1 vE FM1 E wE (HO1.out.gr hgE2 hgW1) hOE (by omega) HFs1.out (by omega) hEok)
 clear hE hsE hgE2 hOE hEok HO1 HFs1 HsM1 HgM1 hgW1 hgE
 go_wp2_with fail
 refine cB.out.mono ?_
 rintro e wB ⟨tM,rfl,hzM,hEM,hbB⟩
 have HEM:=mkHid hEM
 clear hEM
 have HsB:=mkHid (HsE.out.below hbB)
 have HgB:=mkHid (gr_trans HgE.out (gr_below hbB))
 clear cB hbB HsE HgE
 have hN7:=srcN g o c cp aE z 6 wB HsB.out (HC.out.grown HgB.out (Nat.le_refl _)) (by omega) hl (by omega) (by omega)
 go_wp2_with fail
 refine hN7.mono ?_
 rintro e w2 ⟨v1,rfl,hv1,hs5,hg6⟩
 have Hs3:=mkHid hs5
 have Hg4:=mkHid (gr_trans HgB.out hg6)
 clear hN7 hs5 hg6 HsB HgB
 rcases (show v1=0∨v1=1∨v1=2∨3≤v1 by omega) with hv|hv|hv|hv
 ·have b0:((v1:Int)==0)=true:=by rw[hv];rfl
  clear hv
  have hM2:=mkHid (srcMail g o c cp (aE+1) z w2 Hs3.out (HC.out.grown Hg4.out (Nat.le_refl _)) (by omega) hl hz)
  have hgW2:g<w2.heap.size:=Hs3.out.lt
  go_wp2_with fail
  refine hM2.out.mono ?_
  rintro e wM2 ⟨vM2,FM2,aM2,rfl,hFl2,hFs2,hO2,haM2,hsM2,hgM2⟩
  have HsM2:=mkHid hsM2
  have HgM2:=mkHid (gr_trans Hg4.out hgM2)
  have HO2:=mkHid hO2
  have HFs2:=mkHid hFs2
  clear hM2 hsM2 hgM2 hO2 hFs2 Hs3 Hg4
  have cH2:=mkHid (wHeadAny _ vM2 FM2 wM2 HO2.out (by omega) HFs2.out)
  go_wp2_with fail
  refine cH2.out.mono ?_
  rintro e wH2 ⟨tH2,rfl,hzH2,hbH2⟩
  have HsH2:=mkHid (HsM2.out.below hbH2)
  have HgH2:=mkHid (gr_trans HgM2.out (gr_below hbH2))
  clear cH2 hbH2 HO2 HFs2 HsM2 HgM2 hgW2
  have y0:¬9223372036854775807<tH2.size+2:=by omega
  have hN14:=srcN g o c cp aM2 z 60 wH2 HsH2.out (HC.out.grown HgH2.out (Nat.le_refl _)) (by omega) hl (by omega) (by omega)
  go_wp2_with fail
  refine hN14.mono ?_
  rintro e w9 ⟨v8,rfl,hv8,hs12,hg13⟩
  have Hs10:=mkHid hs12
  have Hg11:=mkHid (gr_trans HgH2.out hg13)
  clear hN14 hs12 hg13 HsH2 HgH2
  have hN22:=srcBytes g o c cp (aM2+1) z v8 w9 Hs10.out (HC.out.grown Hg11.out (Nat.le_refl _)) (by omega) hl (by omega)
  go_wp2_with fail
  refine hN22.mono ?_
  rintro e w17 ⟨tB15,aB16,rfl,hztB15,haB16,hs20,hg21⟩
  have Hs18:=mkHid hs20
  have Hg19:=mkHid (gr_trans Hg11.out hg21)
  clear hN22 hs20 hg21 Hs10 Hg11
  have y1:¬9223372036854775807<tH2.size+2+tB15.size:=by omega
  go_wp2
  go_ret
  exact⟨_,_,rfl,by simp only[ByteArray.size_append];show tH2.size+2+tB15.size≤_;omega,.inl (by simp only[ByteArray.size_append];show tH2.size+2+tB15.size≤_;omega),by omega,Hs18.out,Hg19.out⟩
 ·have b0:((v1:Int)==0)=false:=beq_eq_false_iff_ne.2 (by omega)
  have b1:((v1:Int)==1)=true:=by rw[hv];rfl
  clear hv
  have hM3:=mkHid (srcMail g o c cp (aE+1) z w2 Hs3.out (HC.out.grown Hg4.out (Nat.le_refl _)) (by omega) hl hz)
  have hgW3:g<w2.heap.size:=Hs3.out.lt
  go_wp2_with fail
  refine hM3.out.mono ?_
  rintro e wM3 ⟨vM3,FM3,aM3,rfl,hFl3,hFs3,hO3,haM3,hsM3,hgM3⟩
  have HsM3:=mkHid hsM3
  have HgM3:=mkHid (gr_trans Hg4.out hgM3)
  have HO3:=mkHid hO3
  have HFs3:=mkHid hFs3
  clear hM3 hsM3 hgM3 hO3 hFs3 Hs3 Hg4
  have cH3:=mkHid (wHeadAny _ vM3 FM3 wM3 HO3.out (by omega) HFs3.out)
  go_wp2_with fail
  refine cH3.out.mono ?_
  rintro e wH3 ⟨tH3,rfl,hzH3,hbH3⟩
  have HsH3:=mkHid (HsM3.out.below hbH3)
  have HgH3:=mkHid (gr_trans HgM3.out (gr_below hbH3))
  clear cH3 hbH3 HO3 HFs3 HsM3 HgM3 hgW3
  have y0:¬9223372036854775807<tH3.size+32:=by omega
  have y1:¬9223372036854775807<tH3.size+32+tM.size:=by omega
  go_wp2
  go_ret
  exact⟨_,_,rfl,by simp only[ByteArray.size_append];show tH3.size+32+tM.size≤_;omega,(by
   rcases HEM.out with h|h
   ·refine .inl ?_
    simp only[ByteArray.size_append]
    show tH3.size+32+tM.size≤_
    omega
   ·exact .inr (endD.app _ _ h)),by omega,HsH3.out,HgH3.out⟩
 ·have b0:((v1:Int)==0)=false:=beq_eq_false_iff_ne.2 (by omega)
  have b1:((v1:Int)==1)=false:=beq_eq_false_iff_ne.2 (by omega)
  have b2:((v1:Int)==2)=true:=by rw[hv];rfl
  clear hv
  have hM4:=mkHid (srcMail g o c cp (aE+1) z w2 Hs3.out (HC.out.grown Hg4.out (Nat.le_refl _)) (by omega) hl hz)
  have hgW4:g<w2.heap.size:=Hs3.out.lt
  go_wp2_with fail
  refine hM4.out.mono ?_
  rintro e wM4 ⟨vM4,FM4,aM4,rfl,hFl4,hFs4,hO4,haM4,hsM4,hgM4⟩
  have HsM4:=mkHid hsM4
  have HgM4:=mkHid (gr_trans Hg4.out hgM4)
  have HO4:=mkHid hO4
  have HFs4:=mkHid hFs4
  clear hM4 hsM4 hgM4 hO4 hFs4 Hs3 Hg4
  have cH4:=mkHid (wHeadAny _ vM4 FM4 wM4 HO4.out (by omega) HFs4.out)
  go_wp2_with fail
  refine cH4.out.mono ?_
  rintro e wH4 ⟨tH4,rfl,hzH4,hbH4⟩
  have HsH4:=mkHid (HsM4.out.below hbH4)
  have HgH4:=mkHid (gr_trans HgM4.out (gr_below hbH4))
  clear cH4 hbH4 HO4 HFs4 HsM4 HgM4 hgW4
  have y0:¬9223372036854775807<tH4.size+2:=by omega
  have hN14:=srcN g o c cp aM4 z 30 wH4 HsH4.out (HC.out.grown HgH4.out (Nat.le_refl _)) (by omega) hl (by omega) (by omega)
  go_wp2_with fail
  refine hN14.mono ?_
  rintro e w9 ⟨v8,rfl,hv8,hs12,hg13⟩
  have Hs10:=mkHid hs12
  have Hg11:=mkHid (gr_trans HgH4.out hg13)
  clear hN14 hs12 hg13 HsH4 HgH4
  have hN22:=srcBytes g o c cp (aM4+1) z v8 w9 Hs10.out (HC.out.grown Hg11.out (Nat.le_refl _)) (by omega) hl (by omega)
  go_wp2_with fail
  refine hN22.mono ?_
  rintro e w17 ⟨tB15,aB16,rfl,hztB15,haB16,hs20,hg21⟩
  have Hs18:=mkHid hs20
  have Hg19:=mkHid (gr_trans Hg11.out hg21)
  clear hN22 hs20 hg21 Hs10 Hg11
  have y1:¬9223372036854775807<tH4.size+2+tB15.size:=by omega
  obtain⟨tI,htI⟩:∃x:ByteArray,x=tH4++⟨#[13,10]⟩++tB15:=⟨_,rfl⟩
  have hzI:tI.size≤32000:=by rw[htI];simp only[ByteArray.size_append];show tH4.size+2+tB15.size≤_;omega
  have HtI:=mkHid htI
  clear htI
  have hM5:=mkHid (srcMail g o c cp aB16 z w17 Hs18.out (HC.out.grown Hg19.out (Nat.le_refl _)) (by omega) hl hz)
  have hgW5:g<w17.heap.size:=Hs18.out.lt
  go_wp2_with fail
  refine hM5.out.mono ?_
  rintro e wM5 ⟨vM5,FM5,aM5,rfl,hFl5,hFs5,hO5,haM5,hsM5,hgM5⟩
  have HsM5:=mkHid hsM5
  have HgM5:=mkHid (gr_trans Hg19.out hgM5)
  have HO5:=mkHid hO5
  have HFs5:=mkHid hFs5
  clear hM5 hsM5 hgM5 hO5 hFs5 Hs18 Hg19
  have cH5:=mkHid (wHeadAny _ vM5 FM5 wM5 HO5.out (by omega) HFs5.out)
  go_wp2_with fail
  refine cH5.out.mono ?_
  rintro e wH5 ⟨tH5,rfl,hzH5,hbH5⟩
  have HsH5:=mkHid (HsM5.out.below hbH5)
  have HgH5:=mkHid (gr_trans HgM5.out (gr_below hbH5))
  clear cH5 hbH5 HO5 HFs5 HsM5 HgM5 hgW5
  rw[← HtI.out]
  clear HtI y0 y1
  have x0:¬9223372036854775807<tH5.size+85:=by omega
  have x1:¬9223372036854775807<tH5.size+85+tI.size:=by omega
  have x2:¬9223372036854775807<tH5.size+85+tI.size+16:=by omega
  have hb29:∀cs,Below wH5.heap.size wH5 (wH5.alloc (.cells cs 9)):=fun cs=>(Below.refl _ _).alloc (Nat.le_refl _) _
  have hN28:=fun cs=>srcN g o c cp aM5 z 7 (wH5.alloc (.cells cs 9)) (HsH5.out.below (hb29 cs)) (HC.out.grown (gr_trans HgH5.out (gr_below (hb29 cs))) (Nat.le_refl _)) (by omega) hl (by omega) (by omega)
  have hl32:g<wH5.heap.size:=HsH5.out.lt
  go_wp2_with fail
  refine(hN28 _).mono ?_
  rintro e w23 ⟨v26,rfl,hv26,hs30,hg31⟩
  obtain⟨t27,hct27,hzt27⟩:=table_at (M:=30) hg31 hl32 (show v26<7 by omega) (by decide)
  have hlv26:v26<7:=by omega
  have hgg33:=gr_trans (gr_below (hb29 _)) hg31
  have Hs24:=mkHid hs30
  have Hg25:=mkHid (gr_trans HgH5.out hgg33)
  clear hN28 hs30 hg31 hb29 hl32 hgg33 HsH5 HgH5
  have x9:¬9223372036854775807<tH5.size+85+tI.size+16+t27.size:=by omega
  go_wp2
  go_ret
  exact⟨_,_,rfl,by simp only[ByteArray.size_append];show tH5.size+85+tI.size+16+t27.size≤_;omega,.inl (by simp only[ByteArray.size_append];show tH5.size+85+tI.size+16+t27.size≤_;omega),by omega,Hs24.out,Hg25.out⟩
 ·have b0:((v1:Int)==0)=false:=beq_eq_false_iff_ne.2 (by omega)
  have b1:((v1:Int)==1)=false:=beq_eq_false_iff_ne.2 (by omega)
  have b2:((v1:Int)==2)=false:=beq_eq_false_iff_ne.2 (by omega)
  clear hv
  go_wp2
  go_ret
  exact⟨_,_,rfl,by omega,(HEM.out.imp (fun h=>by omega) id),by omega,Hs3.out,Hg4.out⟩
end Bm
open Go.RowKit Go.Lib
def upd (x:Nat→Value)(d:Nat)(v:Value)(j:Nat):Value:=if j=d then v else x j
abbrev skAct (r g:Nat)(x:Nat→Value):Act:={ tmps:=#[.pointer (some ⟨g,0,none⟩),undef,.pointer (some ⟨r,0,none⟩),x 3,x 4,x 5,x 6,x 7,x 8,x 9,x 10,x 11,x 12,x 13,x 14,x 15,x 16,x 17,x 18,x 19,x 20,undef,undef,undef,undef,undef,undef,undef,undef,undef],defers:=[] }
def skDst (j:Nat):Nat:=if j=17 then 3 else j+4
abbrev key0:Obj:=.cells #[.string ⟨#[]⟩,.string ⟨#[]⟩,.int .i64 0,.int .i64 0] 24
def tabAt (B n:Nat)(v:Value)(w:World):Prop:=∃b,v=.slice (some ⟨b,0,none⟩) n n∧B≤b∧∀k,k<n→∃t:ByteArray,w.cell? ⟨b,k,none⟩=some (.string t)∧t.size≤20
def ptrAt (B:Nat)(v:Value)(w:World):Prop:=∃(b k:Nat)(t:ByteArray),v=.pointer (some ⟨b,k,none⟩)∧B≤b∧w.cell? ⟨b,k,none⟩=some (.string t)∧t.size≤20
def txtAt (v:Value):Prop:=∃t:ByteArray,v=.string t∧t.size≤20
def numAt (lo hi:Nat)(v:Value):Prop:=∃k:Nat,v=.int .i64 k∧lo≤k∧k<hi
def keyAt (v:Value):Prop:=∃(d s:ByteArray)(A B:Nat),v=.agg #[.string d,.string s,.int .i64 A,.int .i64 B]∧d.size≤20∧s.size≤20∧2≤A∧A<1000002∧3≤B∧B<2000000003
def newAt (B:Nat)(v:Value)(w:World):Prop:=∃b,v=.pointer (some ⟨b,0,none⟩)∧B≤b∧w.heap[b]?=some key0
def finAt (B:Nat)(v:Value)(w:World):Prop:=∃(b:Nat)(d s:ByteArray)(A C:Nat),v=.pointer (some ⟨b,0,none⟩)∧B≤b∧w.heap[b]?=some (.cells #[.string d,.string s,.int .i64 A,.int .i64 C] 24)∧d.size≤20∧s.size≤20∧2≤A∧A<1000002∧3≤C∧C<2000000003
def skFact (g B:Nat)(j:Nat)(v:Value)(w:World):Prop:=
 match j with
 | 0=>tabAt B 3 v w
 | 1=>v=.pointer (some ⟨g,0,none⟩)
 | 2=>numAt 0 3 v
 | 3=>ptrAt B v w
 | 4=>txtAt v
 | 5=>tabAt B 2 v w
 | 6=>v=.pointer (some ⟨g,0,none⟩)
 | 7=>numAt 0 2 v
 | 8=>ptrAt B v w
 | 9=>txtAt v
 | 10=>v=.pointer (some ⟨g,0,none⟩)
 | 11=>numAt 0 1000000 v
 | 12=>numAt 2 1000002 v
 | 13=>v=.pointer (some ⟨g,0,none⟩)
 | 14=>numAt 0 2000000000 v
 | 15=>numAt 3 2000000003 v
 | 16=>keyAt v
 | 17=>newAt B v w
 | _=>True
theorem tabAt.gr {B n g:Nat} {v:Value} {w w':World} (h:tabAt B n v w)(hg:w.grownBy w' (some g))(hB:g<B):tabAt B n v w':=by
 obtain⟨b,rfl,hb,hc⟩:=h
 refine⟨b,rfl,hb,fun k hk=>?_⟩
 obtain⟨t,h1,h2⟩:=hc k hk
 exact⟨t,gr_cell hg (show b≠g by omega) h1,h2⟩
theorem ptrAt.gr {B g:Nat} {v:Value} {w w':World} (h:ptrAt B v w)(hg:w.grownBy w' (some g))(hB:g<B):ptrAt B v w':=by
 obtain⟨b,k,t,rfl,hb,h1,h2⟩:=h
 exact⟨b,k,t,rfl,hb,gr_cell hg (show b≠g by omega) h1,h2⟩
theorem newAt.gr {B g:Nat} {v:Value} {w w':World} (h:newAt B v w)(hg:w.grownBy w' (some g))(hB:g<B):newAt B v w':=by
 obtain⟨b,rfl,hb,h1⟩:=h
 exact⟨b,rfl,hb,by rw[hg.block b (hp_lt h1) (by intro e;have:=Option.some.inj e;omega)];exact h1⟩
theorem skFact.gr {g B j:Nat} {v:Value} {w w':World} (h:skFact g B j v w)(hg:w.grownBy w' (some g))(hB:g<B):skFact g B j v w':=by
 unfold skFact at h ⊢
 split
 all_goals first
  | exact tabAt.gr h hg hB
  | exact ptrAt.gr h hg hB
  | exact newAt.gr h hg hB
  | exact h
  | trivial
structure SkS (W:World)(r g:Nat)(o:Option Addr)(cl cp a0 z n:Nat)(L:Array Bool)(a:Act)(w:World):Prop where
 size:L.size=19
 left:left L=n
 src:∃a',a'+n≤a0+19∧Src w g o cl cp a' z
 gr:W.grownBy w (some g)
 last:L.getD 18 false=true→n=0
 val:∃x,a=skAct r g x∧(∀j,j<18→L.getD j false=true→¬L.getD 18 false=true→skFact g W.heap.size j (x (skDst j)) w)∧(L.getD 18 false=true→finAt W.heap.size (x 3) w)
theorem skDst_ne {i j:Nat} (hi:i<18)(hj:j<18)(h:j≠i):skDst j≠skDst i:=by
 unfold skDst
 split<;>split<;>omega
theorem SkS.step {W:World} {r g:Nat} {o:Option Addr} {cl cp a0 z n:Nat} {L:Array Bool} {x:Nat→Value} {w:World} (hs:L.size=19)(hl:Go.Proofs.YtacaoiedcfelcaaGreatDoor.left L=n+1)(hg:W.grownBy w (some g))(hf:∀j,j<18→L.getD j false=true→¬L.getD 18 false=true→skFact g W.heap.size j (x (skDst j)) w)
  (hgB:g<W.heap.size) (i:Nat) (hi:i<18) (hL:L.getD i true=false) (hn18:¬L.getD 18 false=true) (v:Value) (w':World) (hv:skFact g W.heap.size i v w') (hw:w.grownBy w' (some g)) (hsrc:∃a',a'+n≤a0+19∧Src w' g o cl cp a' z) {act:Act} (hact:act=skAct r g (upd x (skDst i) v)) :
  SkS W r g o cl cp a0 z n (L.setIfInBounds i true) act w':=by
 subst hact
 refine⟨by simpa using hs,left_set hL hl,hsrc,gr_trans hg hw,fun h=>absurd (by rw[done_set (by omega)] at h;exact h) hn18,upd x (skDst i) v,rfl,?_,?_⟩
 ·intro j hj hd h18
  by_cases hji:j=i
  ·subst hji
   unfold upd
   rw[if_pos rfl]
   exact hv
  ·rw[done_set hji] at hd
   unfold upd
   rw[if_neg (skDst_ne hi hj hji)]
   exact(hf j hj hd hn18).gr hw hgB
 ·intro h
  rw[done_set (by omega)] at h
  exact absurd h hn18
theorem SkS.undone {W:World} {r g:Nat} {o:Option Addr} {cl cp a0 z n:Nat} {L:Array Bool} {a:Act} {w:World} (h:SkS W r g o cl cp a0 z (n+1) L a w) :
  L.size=19∧Go.Proofs.YtacaoiedcfelcaaGreatDoor.left L=n+1∧(∃a',a'+(n+1)≤a0+19∧Src w g o cl cp a' z)∧W.grownBy w (some g)∧¬L.getD 18 false=true∧∃x,a=skAct r g x∧∀j,j<18→L.getD j false=true→¬L.getD 18 false=true→skFact g W.heap.size j (x (skDst j)) w:=by
 obtain⟨x,h1,h2,-⟩:=h.val
 exact⟨h.size,h.left,h.src,h.gr,fun h3=>absurd (h.last h3) (by omega),x,h1,h2⟩
def numOk:Value→Bool
 | .int .i64 q=>decide (-1≤q) && decide (q≤2147483647)
 | _=>false
theorem num_at {w w3:World} {cs:Array Value} {g v:Nat} (hg:(w.alloc (.cells cs 2)).grownBy w3 (some g))(hgl:g<w.heap.size)(hv:v<cs.size)(hcs:cs.toList.all numOk=true) :
  ∃ q:Int,w3.cell? ⟨w.heap.size,v,none⟩=some (.int .i64 q) ∧ -1≤q∧q≤2147483647:=by
 have hm:numOk cs[v]=true:=List.all_eq_true.1 hcs _ (Array.mem_toList_iff.2 (Array.getElem_mem hv))
 have hc:(w.alloc (.cells cs 2)).cell? ⟨w.heap.size,v,none⟩=some cs[v]:=by simp[hv]
 have h3:=gr_cell hg (show w.heap.size≠g by omega) hc
 cases hx:cs[v] with
 | int k q=>
  rw[hx] at h3 hm
  cases k
  case i64=>exact⟨q,h3,by simpa [numOk] using hm⟩
  all_goals cases hm
 | _=>rw[hx] at hm;cases hm
theorem keySrc {w:World} {g n cp a z k:Nat} {o:Option Addr} {cs:Array Value} (h:Src w g o n cp a z)(hk:k≠g):Src (w.setRow k cs) g o n cp a z:=⟨by rw[setRow_other w k g cs (fun e=>hk e.symm)];exact h.blk⟩
theorem keyGr {w0 w:World} {g:Nat} {cs:Array Value} (h:w0.grownBy w (some g)):w0.grownBy (w.setRow w0.heap.size cs) (some g):=
 ⟨h.os,h.tape,h.output,by simpa using h.size,fun i hi hr=>(setRow_other w _ i cs (by omega)).trans (h.block i hi hr)⟩
theorem wr64 (x:Int)(h0:-9223372036854775808≤x)(h1:x≤9223372036854775807):IntKind.i64.wrap x=x:=by
 unfold IntKind.wrap
 simp[IntKind.bits,IntKind.signed]
 omega
theorem left_all {L:Array Bool} (h:∀j,j<L.size→L.getD j false=true):Go.Proofs.YtacaoiedcfelcaaGreatDoor.left L=0:=by
 unfold Go.Proofs.YtacaoiedcfelcaaGreatDoor.left
 rw[List.count_eq_zero]
 intro hm
 obtain⟨j,hj,he⟩:=List.getElem_of_mem hm
 have hj2:j<L.size:=by simpa using hj
 have:=h j hj2
 simp[Array.getD,hj2] at this
 simp[this] at he
theorem tab_get {w:World} {cs:Array Value} {k:Nat} (hk:k<cs.size)(hcs:cs.toList.all (strOk 20)=true):∃t:ByteArray,(w.alloc (.cells cs 9)).cell? ⟨w.heap.size,k,none⟩=some (.string t)∧t.size≤20:=by
 have hm:strOk 20 cs[k]=true:=List.all_eq_true.1 hcs _ (Array.mem_toList_iff.2 (Array.getElem_mem hk))
 have hc:(w.alloc (.cells cs 9)).cell? ⟨w.heap.size,k,none⟩=some cs[k]:=by simp[hk]
 cases hx:cs[k] with
 | string t=>
  rw[hx] at hc hm
  exact⟨t,hc,by simpa [strOk] using hm⟩
 | _=>rw[hx] at hm;cases hm
theorem srcKey (g:Nat)(o:Option Addr)(c:List UInt8)(cp a z:Nat)(w:World)(h:Src w g o c.length cp a z)(hc:Code g w o c)(ha:a≤900000000000)(hl:c.length≤1048576) :
  Calls Tryz.prog 46 #[.pointer (some ⟨g,0,none⟩)] w fun e w'=>∃ (d s:ByteArray) (A C:Int) (a':Nat),e=.returned (.agg #[.string d,.string s,.int .i64 A,.int .i64 C])∧d.size≤20∧s.size≤20 ∧ -1≤A∧A≤2147483647∧3≤C∧C≤2000000002∧a'≤a+30∧Src w' g o c.length cp a' z∧w.grownBy w' (some g):=by
 have hgl:=h.lt
 have HC:Hid (Code g w o c):=hc
 have hbA:Below w.heap.size w (w.alloc key0):=(Below.refl _ _).alloc (Nat.le_refl _) _
 have Hs0:Hid (Src (w.alloc key0) g o c.length cp a z):=h.below hbA
 have Hg0:Hid (w.grownBy (w.alloc key0) (some g)):=gr_below hbA
 have HR0:Hid ((w.alloc key0).heap[w.heap.size]?=some key0):=hp_alloc w key0
 have hWs:(w.alloc key0).heap.size=w.heap.size+1:=by simp
 clear h hc hbA
 go_enter Tryz.func46,Tryz.ntmps46
 go_wp2
 obtain⟨W,hW⟩:∃W,W=w.alloc key0:=⟨_,rfl⟩
 rw[← hW] at Hs0 Hg0 HR0 hWs ⊢
 have hgW:g<W.heap.size:=by omega
 have HCW:Hid (Code g W o c):=HC.out.grown Hg0.out (Nat.le_refl _)
 clear hW
 refine wp_region_any (by kernel_rfl) ?_
 refine wpAny_by (SkS W w.heap.size g o c.length cp a z) (by kernel_rfl) ?hS ?hend ?hstep _ _ _ _ ?start
 case hS=>intro n L a w h;exact⟨h.size,h.left⟩
 case start=>
  refine⟨rfl,rfl,⟨a,Nat.le_refl _,⟨Hs0.out.blk⟩⟩,⟨rfl,rfl,rfl,Nat.le_refl _,fun _ _ _=>rfl⟩,?_,fun _=>undef,rfl,?_,?_⟩
  ·intro hd
   exfalso
   revert hd
   rw[Array.getD_eq_getD_getElem?]
   simp
  ·intro j hj hd
   exfalso
   revert hd
   rw[Array.getD_eq_getD_getElem?]
   simp[show j<19 by omega]
  ·intro hd
   exfalso
   revert hd
   rw[Array.getD_eq_getD_getElem?]
   simp
 case hstep=>
  intro n L act wr hS i hi
  obtain⟨hsz,hleft,⟨a1,ha1,hs1⟩,hgr,h18,x,rfl,hf⟩:=hS.undone
  obtain⟨hlt,hL⟩:=mem_ready hi
  have hlt:i<19:=hlt
  clear hS Hs0 Hg0 HR0
  rcases (show i=0∨i=1∨i=2∨i=3∨i=4∨i=5∨i=6∨i=7∨i=8∨i=9∨i=10∨i=11∨i=12∨i=13∨i=14∨i=15∨i=16∨i=17∨i=18 by omega) with rfl|rfl|rfl|rfl|rfl|rfl|rfl|rfl|rfl|rfl|rfl|rfl|rfl|rfl|rfl|rfl|rfl|rfl|rfl
  ·clear hi hlt
   refine wpOp_step rfl (fun K hK=>?_)
   go_simp
   have hbb:∀cs,Below wr.heap.size wr (wr.alloc (.cells cs 9)):=fun cs=>(Below.refl _ _).alloc (Nat.le_refl _) _
   refine hK _ _ (SkS.step hsz hleft hgr hf hgW 0 (by omega) hL h18 (.slice (some ⟨wr.heap.size,0,none⟩) 3 3) _ ⟨_,rfl,hgr.size,?_⟩ (gr_below (hbb _)) ⟨a1,by omega,hs1.below (hbb _)⟩ (by simp[upd,skDst]))
   intro k hk
   exact tab_get (by simpa using hk) (by decide)
  ·clear hi hlt
   refine wpOp_step rfl (fun K hK=>?_)
   go_simp
   exact hK _ _ (SkS.step hsz hleft hgr hf hgW 1 (by omega) hL h18 (.pointer (some ⟨g,0,none⟩)) wr rfl (gr_refl _ _) ⟨a1,by omega,hs1⟩ (by simp[upd,skDst]))
  ·have f1:=hf 1 (by omega) (ready_dep hi rfl 1 (by kernel_rfl)) h18
   clear hi hlt
   have e0:x 5=.pointer (some ⟨g,0,none⟩):=f1
   have hN:=srcN g o c cp a1 z 3 wr hs1 (HCW.out.grown hgr (Nat.le_refl _)) (by omega) hl (by omega) (by omega)
   refine wpOp_step rfl (fun K hK=>?_)
   go_simp
   refine hN.mono ?_
   rintro e w2 ⟨v,rfl,hv,hs2,hg2⟩
   go_simp
   exact hK _ _ (SkS.step hsz hleft hgr hf hgW 2 (by omega) hL h18 (.int .i64 (v:Int)) _ ⟨v,rfl,by omega,by omega⟩ hg2 ⟨a1+1,by omega,hs2⟩ (by simp[upd,skDst,e0]))
  ·have f0:=hf 0 (by omega) (ready_dep hi rfl 0 (by kernel_rfl)) h18
   have f2:=hf 2 (by omega) (ready_dep hi rfl 2 (by kernel_rfl)) h18
   clear hi hlt
   obtain⟨b,e0,hb,ht⟩:=f0
   obtain⟨k,e1,-,hk⟩:=f2
   obtain⟨t,hc,hts⟩:=ht k hk
   have hk3:(k:Int)<3:=by omega
   have e0':x 4=.slice (some ⟨b,0,none⟩) 3 3:=e0
   have e1':x 6=.int .i64 k:=e1
   clear e0 e1 ht
   refine wpOp_step rfl (fun K hK=>?_)
   go_simp
   exact hK _ _ (SkS.step hsz hleft hgr hf hgW 3 (by omega) hL h18 (.pointer (some ⟨b,k,none⟩)) _ ⟨b,k,t,rfl,hb,hc,hts⟩ (gr_refl _ _) ⟨a1,by omega,hs1⟩ (by simp[upd,skDst,e0',e1']))
  ·have f3:=hf 3 (by omega) (ready_dep hi rfl 3 (by kernel_rfl)) h18
   clear hi hlt
   obtain⟨b,k,t,e0,hb,hc,hts⟩:=f3
   have e0':x 7=.pointer (some ⟨b,k,none⟩):=e0
   clear e0
   refine wpOp_step rfl (fun K hK=>?_)
   go_simp
   exact hK _ _ (SkS.step hsz hleft hgr hf hgW 4 (by omega) hL h18 (.string t) _ ⟨t,rfl,hts⟩ (gr_refl _ _) ⟨a1,by omega,hs1⟩ (by simp[upd,skDst,e0']))
  ·clear hi hlt
   refine wpOp_step rfl (fun K hK=>?_)
   go_simp
   have hbb:∀cs,Below wr.heap.size wr (wr.alloc (.cells cs 9)):=fun cs=>(Below.refl _ _).alloc (Nat.le_refl _) _
   refine hK _ _ (SkS.step hsz hleft hgr hf hgW 5 (by omega) hL h18 (.slice (some ⟨wr.heap.size,0,none⟩) 2 2) _ ⟨_,rfl,hgr.size,?_⟩ (gr_below (hbb _)) ⟨a1,by omega,hs1.below (hbb _)⟩ (by simp[upd,skDst]))
   intro k hk
   exact tab_get (by simpa using hk) (by decide)
  ·clear hi hlt
   refine wpOp_step rfl (fun K hK=>?_)
   go_simp
   exact hK _ _ (SkS.step hsz hleft hgr hf hgW 6 (by omega) hL h18 (.pointer (some ⟨g,0,none⟩)) wr rfl (gr_refl _ _) ⟨a1,by omega,hs1⟩ (by simp[upd,skDst]))
  ·have f6:=hf 6 (by omega) (ready_dep hi rfl 6 (by kernel_rfl)) h18
   clear hi hlt
   have e0:x 10=.pointer (some ⟨g,0,none⟩):=f6
   have hN:=srcN g o c cp a1 z 2 wr hs1 (HCW.out.grown hgr (Nat.le_refl _)) (by omega) hl (by omega) (by omega)
   refine wpOp_step rfl (fun K hK=>?_)
   go_simp
   refine hN.mono ?_
   rintro e w2 ⟨v,rfl,hv,hs2,hg2⟩
   go_simp
   exact hK _ _ (SkS.step hsz hleft hgr hf hgW 7 (by omega) hL h18 (.int .i64 (v:Int)) _ ⟨v,rfl,by omega,by omega⟩ hg2 ⟨a1+1,by omega,hs2⟩ (by simp[upd,skDst,e0]))
  ·have f5:=hf 5 (by omega) (ready_dep hi rfl 5 (by kernel_rfl)) h18
   have f7:=hf 7 (by omega) (ready_dep hi rfl 7 (by kernel_rfl)) h18
   clear hi hlt
   obtain⟨b,e0,hb,ht⟩:=f5
   obtain⟨k,e1,-,hk⟩:=f7
   obtain⟨t,hc,hts⟩:=ht k hk
   have hk3:(k:Int)<2:=by omega
   have e0':x 9=.slice (some ⟨b,0,none⟩) 2 2:=e0
   have e1':x 11=.int .i64 k:=e1
   clear e0 e1 ht
   refine wpOp_step rfl (fun K hK=>?_)
   go_simp
   exact hK _ _ (SkS.step hsz hleft hgr hf hgW 8 (by omega) hL h18 (.pointer (some ⟨b,k,none⟩)) _ ⟨b,k,t,rfl,hb,hc,hts⟩ (gr_refl _ _) ⟨a1,by omega,hs1⟩ (by simp[upd,skDst,e0',e1']))
  ·have f8:=hf 8 (by omega) (ready_dep hi rfl 8 (by kernel_rfl)) h18
   clear hi hlt
   obtain⟨b,k,t,e0,hb,hc,hts⟩:=f8
   have e0':x 12=.pointer (some ⟨b,k,none⟩):=e0
   clear e0
   refine wpOp_step rfl (fun K hK=>?_)
   go_simp
   exact hK _ _ (SkS.step hsz hleft hgr hf hgW 9 (by omega) hL h18 (.string t) _ ⟨t,rfl,hts⟩ (gr_refl _ _) ⟨a1,by omega,hs1⟩ (by simp[upd,skDst,e0']))
  ·clear hi hlt
   refine wpOp_step rfl (fun K hK=>?_)
   go_simp
   exact hK _ _ (SkS.step hsz hleft hgr hf hgW 10 (by omega) hL h18 (.pointer (some ⟨g,0,none⟩)) wr rfl (gr_refl _ _) ⟨a1,by omega,hs1⟩ (by simp[upd,skDst]))
  ·have f10:=hf 10 (by omega) (ready_dep hi rfl 10 (by kernel_rfl)) h18
   clear hi hlt
   have e0:x 14=.pointer (some ⟨g,0,none⟩):=f10
   have hN:=srcN g o c cp a1 z 1000000 wr hs1 (HCW.out.grown hgr (Nat.le_refl _)) (by omega) hl (by omega) (by omega)
   refine wpOp_step rfl (fun K hK=>?_)
   go_simp
   refine hN.mono ?_
   rintro e w2 ⟨v,rfl,hv,hs2,hg2⟩
   go_simp
   exact hK _ _ (SkS.step hsz hleft hgr hf hgW 11 (by omega) hL h18 (.int .i64 (v:Int)) _ ⟨v,rfl,by omega,by omega⟩ hg2 ⟨a1+1,by omega,hs2⟩ (by simp[upd,skDst,e0]))
  ·have f11:=hf 11 (by omega) (ready_dep hi rfl 11 (by kernel_rfl)) h18
   clear hi hlt
   obtain⟨k,e0,-,hk⟩:=f11
   have wk:IntKind.i64.wrap (2+(k:Int))=2+(k:Int):=wr64 _ (by omega) (by omega)
   have e0':x 15=.int .i64 k:=e0
   clear e0
   refine wpOp_step rfl (fun K hK=>?_)
   go_simp
   exact hK _ _ (SkS.step hsz hleft hgr hf hgW 12 (by omega) hL h18 (.int .i64 (2+(k:Int))) _ ⟨2+k,by go_num,by omega,by omega⟩ (gr_refl _ _) ⟨a1,by omega,hs1⟩ (by simp[upd,skDst,e0']))
  ·clear hi hlt
   refine wpOp_step rfl (fun K hK=>?_)
   go_simp
   exact hK _ _ (SkS.step hsz hleft hgr hf hgW 13 (by omega) hL h18 (.pointer (some ⟨g,0,none⟩)) wr rfl (gr_refl _ _) ⟨a1,by omega,hs1⟩ (by simp[upd,skDst]))
  ·have f13:=hf 13 (by omega) (ready_dep hi rfl 13 (by kernel_rfl)) h18
   clear hi hlt
   have e0:x 17=.pointer (some ⟨g,0,none⟩):=f13
   have hN:=srcN g o c cp a1 z 2000000000 wr hs1 (HCW.out.grown hgr (Nat.le_refl _)) (by omega) hl (by omega) (by omega)
   refine wpOp_step rfl (fun K hK=>?_)
   go_simp
   refine hN.mono ?_
   rintro e w2 ⟨v,rfl,hv,hs2,hg2⟩
   go_simp
   exact hK _ _ (SkS.step hsz hleft hgr hf hgW 14 (by omega) hL h18 (.int .i64 (v:Int)) _ ⟨v,rfl,by omega,by omega⟩ hg2 ⟨a1+1,by omega,hs2⟩ (by simp[upd,skDst,e0]))
  ·have f14:=hf 14 (by omega) (ready_dep hi rfl 14 (by kernel_rfl)) h18
   clear hi hlt
   obtain⟨k,e0,-,hk⟩:=f14
   have wk:IntKind.i64.wrap (3+(k:Int))=3+(k:Int):=wr64 _ (by omega) (by omega)
   have e0':x 18=.int .i64 k:=e0
   clear e0
   refine wpOp_step rfl (fun K hK=>?_)
   go_simp
   exact hK _ _ (SkS.step hsz hleft hgr hf hgW 15 (by omega) hL h18 (.int .i64 (3+(k:Int))) _ ⟨3+k,by go_num,by omega,by omega⟩ (gr_refl _ _) ⟨a1,by omega,hs1⟩ (by simp[upd,skDst,e0']))
  ·have f4:=hf 4 (by omega) (ready_dep hi rfl 4 (by kernel_rfl)) h18
   have f9:=hf 9 (by omega) (ready_dep hi rfl 9 (by kernel_rfl)) h18
   have f12:=hf 12 (by omega) (ready_dep hi rfl 12 (by kernel_rfl)) h18
   have f15:=hf 15 (by omega) (ready_dep hi rfl 15 (by kernel_rfl)) h18
   clear hi hlt
   obtain⟨t0,e0,ht0⟩:=f4
   obtain⟨t1,e1,ht1⟩:=f9
   obtain⟨k0,e2,hk0⟩:=f12
   obtain⟨k1,e3,hk1⟩:=f15
   have e0':x 8=.string t0:=e0
   have e1':x 13=.string t1:=e1
   have e2':x 16=.int .i64 k0:=e2
   have e3':x 19=.int .i64 k1:=e3
   clear e0 e1 e2 e3
   refine wpOp_step rfl (fun K hK=>?_)
   go_simp
   exact hK _ _ (SkS.step hsz hleft hgr hf hgW 16 (by omega) hL h18 (.agg #[.string t0,.string t1,.int .i64 k0,.int .i64 k1]) _ ⟨t0,t1,k0,k1,rfl,ht0,ht1,hk0.1,hk0.2,hk1.1,hk1.2⟩ (gr_refl _ _) ⟨a1,by omega,hs1⟩ (by simp[upd,skDst,e0',e1',e2',e3']))
  ·clear hi hlt
   refine wpOp_step rfl (fun K hK=>?_)
   go_simp
   have hbb:Below wr.heap.size wr (wr.alloc key0):=(Below.refl _ _).alloc (Nat.le_refl _) _
   exact hK _ _ (SkS.step hsz hleft hgr hf hgW 17 (by omega) hL h18 (.pointer (some ⟨wr.heap.size,0,none⟩)) _ ⟨_,rfl,hgr.size,hp_alloc _ _⟩ (gr_below hbb) ⟨a1,by omega,hs1.below hbb⟩ (by simp[upd,skDst]))
  ·have f17:=hf 17 (by omega) (ready_dep hi rfl 17 (by kernel_rfl)) h18
   have f16:=hf 16 (by omega) (ready_dep hi rfl 16 (by kernel_rfl)) h18
   obtain⟨b,e0,hb,hh⟩:=f17
   obtain⟨d,s,A,C,e1,hd,hsl,hA0,hA,hC0,hC⟩:=f16
   have e0':x 3=.pointer (some ⟨b,0,none⟩):=e0
   have e1':x 20=.agg #[.string d,.string s,.int .i64 A,.int .i64 C]:=e1
   clear e0 e1
   have hoth:∀j,j<18→L.getD j false=true:=fun j hj=>by
    rcases (show j=0∨j=1∨j=2∨j=3∨j=4∨j=5∨j=6∨j=7∨j=8∨j=9∨j=10∨j=11∨j=12∨j=13∨j=14∨j=15∨j=16∨j=17 by omega) with rfl|rfl|rfl|rfl|rfl|rfl|rfl|rfl|rfl|rfl|rfl|rfl|rfl|rfl|rfl|rfl|rfl|rfl
    all_goals exact ready_dep hi rfl _ (by kernel_rfl)
   have hn0:n=0:=by
    rw[← left_set hL hleft]
    refine left_all fun j hj=>?_
    have hj2:j<19:=by simpa [hsz] using hj
    by_cases h:j=18
    ·subst h
     simp[Array.getD,hsz]
    ·rw[done_set h]
     exact hoth j (by omega)
   subst hn0
   have hbg:b≠g:=by omega
   refine wpOp_step rfl (fun K hK=>?_)
   split
   case isFalse hnw=>exact absurd rfl hnw
   refine wp_store_row 24 _ _ rfl b #[.string d,.string s,.int .i64 A,.int .i64 C] e0' e1' 24 _ hh (by kernel_rfl) rfl (by simp[Value.oneCell']) ?_
   refine hK _ _ ⟨by simpa using hsz,left_set hL hleft,⟨a1,by omega,⟨by rw[setRow_other wr b g _ (fun e=>hbg e.symm)];exact hs1.blk⟩⟩,?_,fun _=>rfl,x,rfl,?_,?_⟩
   ·exact⟨hgr.os,hgr.tape,hgr.output,by simpa using hgr.size,fun i hi hr=>(setRow_other wr b i _ (by omega)).trans (hgr.block i hi hr)⟩
   ·intro j hj hd h
    exact absurd (by simp[Array.getD,hsz]) h
   ·intro _
    exact⟨b,d,s,A,C,e0',hb,setRow_heap _ _ _ _ _ _ hh,hd,hsl,hA0,hA,hC0,hC⟩
 case hend=>
  intro n L act wr hS hall
  obtain⟨x,rfl,-,hfin⟩:=hS.val
  obtain⟨a1,ha1,hs1⟩:=hS.src
  have hgr:=hS.gr
  obtain⟨b,d,s,A,C,e0,hb,hh,hd,hsl,hA0,hA,hC0,hC⟩:=hfin (hall 18 (by decide))
  have hR:=(hgr.block w.heap.size (by omega) (by intro e;have:=Option.some.inj e;omega)).trans HR0.out
  clear hS hall hfin HR0
  have hO:=srcOne g o c cp a1 z 12 wr hs1 (HCW.out.grown hgr (Nat.le_refl _)) (by omega) hl (by omega) (by omega)
  show Exit.then _ _ Exit.normal { tmps:=#[.pointer (some ⟨g,0,none⟩),undef,.pointer (some ⟨w.heap.size,0,none⟩),x 3,x 4,x 5,x 6,x 7,x 8,x 9,x 10,x 11,x 12,x 13,x 14,x 15,x 16,x 17,x 18,x 19,x 20,undef,undef,undef,undef,undef,undef,undef,undef,undef],defers:=[] } wr
  rw[e0]
  generalize x 4=y4
  generalize x 5=y5
  generalize x 6=y6
  generalize x 7=y7
  generalize x 8=y8
  generalize x 9=y9
  generalize x 10=y10
  generalize x 11=y11
  generalize x 12=y12
  generalize x 13=y13
  generalize x 14=y14
  generalize x 15=y15
  generalize x 16=y16
  generalize x 17=y17
  generalize x 18=y18
  generalize x 19=y19
  generalize x 20=y20
  clear e0 x
  go_wp2_with fail
  refine hO.mono ?_
  rintro e w2 ⟨b2,rfl,hs2,hg2⟩
  have hbg:b≠g:=by omega
  have hh2:w2.heap[b]?=some (.cells #[.string d,.string s,.int .i64 A,.int .i64 C] 24 (0,0)):=(hg2.block b (hp_lt hh) (by intro e;have:=Option.some.inj e;omega)).trans hh
  have hR2:w2.heap[w.heap.size]?=some (.cells #[.string ⟨#[]⟩,.string ⟨#[]⟩,.int .i64 0,.int .i64 0] 24 (0,0)):=(hg2.block _ (hp_lt hR) (by intro e;have:=Option.some.inj e;omega)).trans hR
  have hgw2:=gr_trans Hg0.out (gr_trans hgr hg2)
  have hC2:Code g w2 o c:=HC.out.grown hgw2 (Nat.le_refl _)
  have hbw:b≠w.heap.size:=by omega
  clear hO hh hR hs1 hg2
  cases b2
  ·go_wp2_with (first|(refine wpL_store_row rfl 24 _ _ rfl w.heap.size _ rfl rfl 24 _ hR2 (by kernel_rfl) rfl (by simp[Value.oneCell']) ?_)|(refine wpL_load_row rfl 24 _ rfl b _ 24 (0,0) _ rfl hh2 Tryz.underlying24 rfl (by kernel_rfl) ?_)|go_in)
   refine bodyPost_ret (v:=.agg #[.string d,.string s,.int .i64 A,.int .i64 C]) (results_cell_row Tryz.results46 _ _ w.heap.size 24 _ (0,0) _ rfl (setRow_heap _ _ _ _ _ _ hR2) Tryz.underlying24 rfl (by kernel_rfl)) rfl ?_
   exact⟨d,s,A,C,_,rfl,hd,hsl,by omega,by omega,by omega,by omega,by omega,keySrc hs2 (by omega),keyGr hgw2⟩
  ·have hbA:∀cs,Below w2.heap.size w2 (w2.alloc (.cells cs 2)):=fun cs=>(Below.refl _ _).alloc (Nat.le_refl _) _
   have hN:=fun cs=>srcN g o c cp (a1+1) z 5 (w2.alloc (.cells cs 2)) (hs2.below (hbA cs)) (hC2.grown (gr_below (hbA cs)) (Nat.le_refl _)) (by omega) hl (by omega) (by omega)
   go_wp2_with fail
   refine(hN _).mono ?_
   rintro e w3 ⟨v,rfl,hv,hs3,hg3⟩
   have hv5:v<5:=by omega
   have hg2s:=hs2.lt
   obtain⟨q,hq,hq0,hq1⟩:=num_at hg3 hg2s (show v<5 from hv5) (by decide)
   have hg23:=gr_trans (gr_below (hbA _)) hg3
   have hh3:=(hg23.block b (hp_lt hh2) (by intro e;have:=Option.some.inj e;omega)).trans hh2
   have hR3:=(hg23.block w.heap.size (hp_lt hR2) (by intro e;have:=Option.some.inj e;omega)).trans hR2
   have hgw3:=gr_trans hgw2 hg23
   have hc3:w3.cell? ⟨b,2,none⟩=some (.int .i64 A):=by simp[World.cell?,hh3]
   have hf3:w3.frozen? ⟨b,2,none⟩=false:=by simp[World.frozen?,hh3]
   have hh4:(w3.setCell ⟨b,2,none⟩ (.int .i64 q)).heap[b]?=some (.cells #[.string d,.string s,.int .i64 q,.int .i64 C] 24 (0,0)):=by simp[World.setCell,Array.getElem?_modify,hh3]
   have hR4:(w3.setCell ⟨b,2,none⟩ (.int .i64 q)).heap[w.heap.size]?=some (.cells #[.string ⟨#[]⟩,.string ⟨#[]⟩,.int .i64 0,.int .i64 0] 24 (0,0)):=by simp[World.setCell,Array.getElem?_modify,hR3,hbw]
   have hs4:Src (w3.setCell ⟨b,2,none⟩ (.int .i64 q)) g o c.length cp (a1+1+1) z:=⟨by simp[World.setCell,Array.getElem?_modify,hs3.blk,hbg]⟩
   have hgw4:w.grownBy (w3.setCell ⟨b,2,none⟩ (.int .i64 q)) (some g):=⟨hgw3.os,hgw3.tape,hgw3.output,by simpa [World.setCell] using hgw3.size,fun i hi hr=>by rw[← hgw3.block i hi hr];simp[World.setCell,Array.getElem?_modify,show b≠i by omega]⟩
   clear hN hbA hg3 hg23 hh3 hR3 hgw3 hs3 hs2 hh2 hR2 hgw2 hC2
   go_wp2_with (first|(refine wpL_store_row rfl 24 _ _ rfl w.heap.size _ rfl rfl 24 _ hR4 (by kernel_rfl) rfl (by simp[Value.oneCell']) ?_)|(refine wpL_load_row rfl 24 _ rfl b _ 24 (0,0) _ rfl hh4 Tryz.underlying24 rfl (by kernel_rfl) ?_)|go_in)
   refine bodyPost_ret (v:=.agg #[.string d,.string s,.int .i64 q,.int .i64 C]) (results_cell_row Tryz.results46 _ _ w.heap.size 24 _ (0,0) _ rfl (setRow_heap _ _ _ _ _ _ hR4) Tryz.underlying24 rfl (by kernel_rfl)) rfl ?_
   exact⟨d,s,q,C,_,rfl,hd,hsl,hq0,hq1,by omega,by omega,by omega,keySrc hs4 (by omega),keyGr hgw4⟩
end Go.Proofs.YtacaoiedcfelcaaGreatDoor
