import Derived.Test.YtacaoiedcfelcaaGreatDoorOwnF
import Derived.Test.YtacaoiedcfelcaaGreatDoorScan
import Derived.Test.YtacaoiedcfelcaaGreatDoorSgSpecSign
import Derived.OrdersHeld
import Derived.Lib.SplitLaws
set_option maxRecDepth 20000
set_option maxHeartbeats 16000000
namespace Go.Proofs.YtacaoiedcfelcaaGreatDoor
open Go.RowKit Go.Lib
namespace Sn
structure Sg where
 d:ByteArray
 s:ByteArray
 N:List ByteArray
 h:Int
 b:Int
 x:Int
 y:Int
 p:Int
 q:Int
def fmN (t:ByteArray):Int:=if t=⟨#[114,101,108,97,120,101,100]⟩ then 1 else 0
theorem fm_is (t:ByteArray):fmN t=0∨fmN t=1:=by unfold fmN;split<;>simp
def colon:ByteArray:=⟨#[58]⟩
def dash:ByteArray:=⟨#[45]⟩
def names (t:ByteArray):List ByteArray:=Lib.splitB colon 0 (Lib.countB t colon) t
theorem part_size (sep:ByteArray)(sv:Nat):∀(k:Nat)(s q:ByteArray),q ∈ splitB sep sv k s→q.size≤s.size
 | 0,s,q,h=>by
  rw[splitB_zero,List.mem_singleton] at h
  rw[h];exact Nat.le_refl _
 | k+1,s,q,h=>by
  unfold splitB at h
  split at h
  ·rw[List.mem_singleton] at h
   rw[h];exact Nat.le_refl _
  ·rcases List.mem_cons.1 h with h|h
   ·rw[h,ByteArray.size_extract];omega
   ·have:=part_size sep sv k _ q h
    rw[ByteArray.size_extract] at this
    omega
theorem count_le (s:ByteArray):Lib.countB s ⟨#[58]⟩≤s.size:=Lib.countB_le ⟨#[58]⟩ (by decide) s.size s (Nat.le_refl _)
def mk (d s nm hf bf b1 b2:ByteArray):Sg:=⟨d,s,names nm,fmN hf,fmN bf,numW (cutA b1 dash).data.toList,numW (cutR b1 dash).data.toList,numW (cutA b2 dash).data.toList,numW (cutR b2 dash).data.toList⟩
def t0 (v:ByteArray):ByteArray:=⟨(Lib.trimPrefix v.data.toList [32,100,61]).toArray⟩
def mS:ByteArray:=⟨#[59,32,115,61]⟩
def mC:ByteArray:=⟨#[59,32,99,61]⟩
def mSl:ByteArray:=⟨#[47]⟩
def mH:ByteArray:=⟨#[59,32,104,61]⟩
def mB:ByteArray:=⟨#[59,32,98,61]⟩
def mX:ByteArray:=⟨#[59,32,120,61]⟩
def r1 (v:ByteArray):ByteArray:=cutR (t0 v) mS
def r2 (v:ByteArray):ByteArray:=cutR (r1 v) mC
def r3 (v:ByteArray):ByteArray:=cutR (r2 v) mSl
def r4 (v:ByteArray):ByteArray:=cutR (r3 v) mH
def r5 (v:ByteArray):ByteArray:=cutR (r4 v) mB
def readS (v:ByteArray):Sg:=mk (cutA (t0 v) mS) (cutA (r1 v) mC) (cutA (r4 v) mB) (cutA (r2 v) mSl) (cutA (r3 v) mH) (cutA (r5 v) mX) (cutR (r5 v) mX)
def says (d s:ByteArray)(N:List ByteArray)(h b:Int):Bool:=Pl.domOk d.data.toList && (Pl.selOk s.data.toList && (decide (h=0∨h=1) && (decide (b=0∨b=1) && (decide (1≤N.length) && (decide (N.length≤30) && N.all nameB)))))
def valueOf (S:Sg):ByteArray:=frontT S.d S.s S.N S.h S.b S.x.toNat S.y.toNat++sumT S.p.toNat S.q.toNat
def right (S:Sg)(v:ByteArray):Bool:=says S.d S.s S.N S.h S.b && (sumR S.x S.y && (sumR S.p S.q && ((valueOf S).toList==v.toList)))
end Sn
abbrev sgCells (d s:ByteArray)(A B:Int)(n:Value)(h b x y p q:Int):Array Value:=#[.string d,.string s,.int .i64 A,.int .i64 B,n,.int .i64 h,.int .i64 b,.int .i64 x,.int .i64 y,.int .i64 p,.int .i64 q]
theorem cells11 {w:World} {g:Nat} {c0 c1 c2 c3 c4 c5 c6 c7 c8 c9 c10:Value} {t:TypeId} (h:w.heap[g]?=some (.cells #[c0,c1,c2,c3,c4,c5,c6,c7,c8,c9,c10] t (0,0))) :
  w.cell? ⟨g,0,none⟩=some c0∧w.cell? ⟨g,1,none⟩=some c1∧w.cell? ⟨g,2,none⟩=some c2∧w.cell? ⟨g,3,none⟩=some c3∧w.cell? ⟨g,4,none⟩=some c4∧w.cell? ⟨g,5,none⟩=some c5∧w.cell? ⟨g,6,none⟩=some c6∧w.cell? ⟨g,7,none⟩=some c7∧w.cell? ⟨g,8,none⟩=some c8∧w.cell? ⟨g,9,none⟩=some c9∧w.cell? ⟨g,10,none⟩=some c10:=by
 refine⟨?_,?_,?_,?_,?_,?_,?_,?_,?_,?_,?_⟩<;>simp[World.cell?,h]
theorem frozen11 {w:World} {g:Nat} {cs:Array Value} {t:TypeId} (h:w.heap[g]?=some (.cells cs t (0,0)))(j:Nat):w.frozen? ⟨g,j,none⟩=false:=by simp[World.frozen?,h]
theorem Sn.sg_parts (d s:ByteArray)(A B:Int)(M:List ByteArray)(h b:Int)(hok:signerOk d s A B M h b=true) :
  d.size≤255∧s.size≤60∧True∧True∧(h=0∨h=1)∧(b=0∨b=1)∧M.length≤30∧∀t ∈ M,t.size≤70:=by
 obtain⟨u1,u2,-,-,u3,u4,u5,u6⟩:=signer_parts d s A B M h b hok
 exact⟨u1,u2,trivial,trivial,u3,u4,u5,u6⟩
theorem Sn.below_sameRow {X W:World} {g:Nat} {cs:Array Value} {t:TypeId} (h:Below X.heap.size X W)(hr:W.heap[g]?=some (.cells cs t (0,0))):Below X.heap.size X (W.setRow g cs):=by
 have e:∀k,(W.setRow g cs).heap[k]?=W.heap[k]?:=fun k=>by
  by_cases hk:k=g
  ·subst hk
   rw[hr]
   exact setRow_heap W k cs cs t (0,0) hr
  ·exact setRow_other W g k cs hk
 exact⟨h.os,h.tape,h.output,by rw[size_setRow];exact h.size,fun k hk=>(e k).trans (h.block k hk)⟩
theorem Sn.saysC (d s:ByteArray)(h b m:Int)(gN:Nat)(P:List ByteArray)(PL:Nat)(W:World)(hPL:P.length=PL)(hd:d.size≤1048576)(hs:s.size≤1048576)(hT:Tx W.heap.size W (some ⟨gN,0,none⟩) P)(hl:P.length≤1048576)(hz:∀t ∈ P,t.size≤1048576)(hm:W.cell? ⟨0,0,none⟩=some (.int .i64 m)) :
  Calls Tryz.prog 54 #[sgV d s 0 0 (.slice (some ⟨gN,0,none⟩) PL PL) h b] W fun e w'=>e=.returned (.bool (Sn.says d s P h b))∧Below W.heap.size W w':=by
 subst hPL
 unfold Sn.says
 exact implSays d s 0 0 h b m (some ⟨gN,0,none⟩) P P.length W hd hs hT hl hz hm
theorem Sn.valueC (d s:ByteArray)(h b x y p q:Int)(gN:Nat)(P:List ByteArray)(PL:Nat)(W:World)(hPL:P.length=PL)(g1:Sn.says d s P h b=true)(g2:Sn.sumR x y=true)(g3:Sn.sumR p q=true)(hc:∀(j:Nat) t,P[j]?=some t→W.cell? ⟨gN,j,none⟩=some (.string t))(hg:gN<W.heap.size)(hP:PTab W) :
  Calls Tryz.prog 20 #[.agg (sgCells d s 0 0 (.slice (some ⟨gN,0,none⟩) PL PL) h b x y p q)] W fun e w'=>e=.returned (.string (Sn.valueOf ⟨d,s,P,h,b,x,y,p,q⟩))∧Below W.heap.size W w':=by
 subst hPL
 have hso:signerOk d s 1 1 P h b=true:=by
  unfold signerOk
  unfold Sn.says at g1
  simp only[Bool.and_eq_true] at g1 ⊢
  exact⟨g1.1,g1.2.1,by decide,g1.2.2⟩
 obtain⟨u1,u2,-,-,u3,u4,u5,u6⟩:=Sn.sg_parts d s 1 1 P h b hso
 unfold Sn.sumR at g2 g3
 simp only[Bool.and_eq_true,decide_eq_true_eq] at g2 g3
 obtain⟨X,rfl⟩:∃X:Nat,x=X:=⟨x.toNat,by omega⟩
 obtain⟨Y,rfl⟩:∃X:Nat,y=X:=⟨y.toNat,by omega⟩
 obtain⟨Z,rfl⟩:∃X:Nat,p=X:=⟨p.toNat,by omega⟩
 obtain⟨V,rfl⟩:∃X:Nat,q=X:=⟨q.toNat,by omega⟩
 unfold Sn.valueOf
 simp only[Int.toNat_natCast]
 exact implValueT d s 0 0 h b gN 0 P P.length X Y Z V W (by omega) (by omega) (fun j t hj=>by rw[Nat.zero_add];exact hc j t hj) hg u5 (Nat.le_refl _) u6 u3 u4 (by omega) (by omega) (by omega) (by omega) hP
set_option maxRecDepth 40000 in
theorem implReadSig (v:ByteArray)(w:World)(hv:v.size≤100000)(hW:CkW w) :
  Calls Tryz.prog 78 #[.string v] w fun e w'=>∃ gN,e=.returned (.tuple #[.agg (sgCells (Sn.readS v).d (Sn.readS v).s 0 0 (.slice (some ⟨gN,0,none⟩) (Sn.readS v).N.length (Sn.readS v).N.length) (Sn.readS v).h (Sn.readS v).b (Sn.readS v).x (Sn.readS v).y (Sn.readS v).p (Sn.readS v).q),.bool (Sn.right (Sn.readS v) v)])∧Tx w'.heap.size w' (some ⟨gN,0,none⟩) (Sn.readS v).N∧Below w.heap.size w w':=by
 obtain⟨W0,hW0⟩:∃W,W=w.alloc (.cells (sgCells ⟨#[]⟩ ⟨#[]⟩ 0 0 (.slice none 0 0) 0 0 0 0 0 0) 54):=⟨_,rfl⟩
 have hb0:Below w.heap.size w W0:=by rw[hW0];exact(Below.refl _ _).alloc (Nat.le_refl _) _
 have hs0:W0.heap.size=w.heap.size+1:=by rw[hW0];simp
 have hlt0:w.heap.size<W0.heap.size:=by omega
 have hrow0:W0.heap[w.heap.size]?=some (.cells (sgCells ⟨#[]⟩ ⟨#[]⟩ 0 0 (.slice none 0 0) 0 0 0 0 0 0) 54 (0,0)):=by rw[hW0];exact heap_alloc_at _ _
 have HW0:=mkHid hW0
 have HK0:=mkHid (hW.below hb0)
 have HB0:=mkHid hb0
 have HR0:=mkHid hrow0
 have HWk:=mkHid hW
 clear hW0 hb0 hrow0 hs0 hW
 have cT:=mkHid (fun W=>Tryz.strings_TrimPrefix v ⟨#[32,100,61]⟩ W)
 have z0:(Sn.t0 v).size≤v.size:=by
  unfold Sn.t0 Lib.trimPrefix
  have hl:v.data.toList.length=v.size:=by simp
  split
  ·show((v.data.toList.drop _).toArray).size≤_
   simp
  ·exact Nat.le_refl _
 obtain⟨zd,z1⟩:=Sn.cut_sizes (Sn.t0 v) Sn.mS
 obtain⟨zs,z2⟩:=Sn.cut_sizes (Sn.r1 v) Sn.mC
 obtain⟨zh,z3⟩:=Sn.cut_sizes (Sn.r2 v) Sn.mSl
 obtain⟨zb,z4⟩:=Sn.cut_sizes (Sn.r3 v) Sn.mH
 obtain⟨zn,z5⟩:=Sn.cut_sizes (Sn.r4 v) Sn.mB
 obtain⟨zp,zq⟩:=Sn.cut_sizes (Sn.r5 v) Sn.mX
 have c1:=fun W (hW:CkW W)=>libCutAny (Sn.t0 v) Sn.mS W (by omega) hW
 have e1:Sn.cutR (Sn.t0 v) Sn.mS=Sn.r1 v:=rfl
 have e2:Sn.cutR (Sn.r1 v) Sn.mC=Sn.r2 v:=rfl
 have e3:Sn.cutR (Sn.r2 v) Sn.mSl=Sn.r3 v:=rfl
 have e4:Sn.cutR (Sn.r3 v) Sn.mH=Sn.r4 v:=rfl
 have e5:Sn.cutR (Sn.r4 v) Sn.mB=Sn.r5 v:=rfl
 rw[e1] at z1
 rw[e2] at z2
 rw[e3] at z3
 rw[e4] at z4
 rw[e5] at z5
 have c2:=fun W (hW:CkW W)=>libCutAny (Sn.r1 v) Sn.mC W (by omega) hW
 have c3:=fun W (hW:CkW W)=>libCutAny (Sn.r2 v) Sn.mSl W (by omega) hW
 have c4:=fun W (hW:CkW W)=>libCutAny (Sn.r3 v) Sn.mH W (by omega) hW
 have c5:=fun W (hW:CkW W)=>libCutAny (Sn.r4 v) Sn.mB W (by omega) hW
 have c6:=fun W (hW:CkW W)=>libCutAny (Sn.r5 v) Sn.mX W (by omega) hW
 rw[e1] at c1
 rw[e2] at c2
 rw[e3] at c3
 rw[e4] at c4
 rw[e5] at c5
 have et:(⟨(Lib.trimPrefix v.data.toList (⟨#[32,100,61]⟩:ByteArray).data.toList).toArray⟩:ByteArray)=Sn.t0 v:=rfl
 have cT2:Hid (∀W,Calls Tryz.prog 116 #[.string v,.string ⟨#[32,100,61]⟩] W fun e w'=>e=.returned (.string (Sn.t0 v))∧w'=W):=cT.out
 have hM:Sn.readS v=Sn.mk (Sn.cutA (Sn.t0 v) Sn.mS) (Sn.cutA (Sn.r1 v) Sn.mC) (Sn.cutA (Sn.r4 v) Sn.mB) (Sn.cutA (Sn.r2 v) Sn.mSl) (Sn.cutA (Sn.r3 v) Sn.mH) (Sn.cutA (Sn.r5 v) Sn.mX) (Sn.cutR (Sn.r5 v) Sn.mX):=rfl
 rw[hM]
 clear hM e1 e2 e3 e4 e5 et cT
 generalize Sn.cutA (Sn.t0 v) Sn.mS=d at *
 generalize Sn.cutF (Sn.t0 v) Sn.mS=f1 at *
 generalize Sn.cutA (Sn.r1 v) Sn.mC=s at *
 generalize Sn.cutF (Sn.r1 v) Sn.mC=f2 at *
 generalize Sn.cutA (Sn.r2 v) Sn.mSl=hf at *
 generalize Sn.cutF (Sn.r2 v) Sn.mSl=f3 at *
 generalize Sn.cutA (Sn.r3 v) Sn.mH=bf at *
 generalize Sn.cutF (Sn.r3 v) Sn.mH=f4 at *
 generalize Sn.cutA (Sn.r4 v) Sn.mB=nm at *
 generalize Sn.cutF (Sn.r4 v) Sn.mB=f5 at *
 generalize Sn.cutA (Sn.r5 v) Sn.mX=b1 at *
 generalize Sn.cutR (Sn.r5 v) Sn.mX=b2 at *
 generalize Sn.cutF (Sn.r5 v) Sn.mX=f6 at *
 generalize Sn.t0 v=q0 at *
 generalize Sn.r1 v=q1 at *
 generalize Sn.r2 v=q2 at *
 generalize Sn.r3 v=q3 at *
 generalize Sn.r4 v=q4 at *
 generalize Sn.r5 v=q5 at *
 have C1:=mkHid c1
 have C2:=mkHid c2
 have C3:=mkHid c3
 have C4:=mkHid c4
 have C5:=mkHid c5
 have C6:=mkHid c6
 clear c1 c2 c3 c4 c5 c6
 go_enter Tryz.func78,Tryz.ntmps78
 go_wp2_with fail
 rw[← HW0.out]
 refine(cT2.out _).mono ?_
 rintro e w1 ⟨rfl,rfl⟩
 go_wp2_with fail
 refine(C1.out _ HK0.out).mono ?_
 rintro e w1 ⟨rfl,hb1⟩
 have HK1:=mkHid (HK0.out.below hb1)
 have Hb1:=mkHid hb1
 clear hb1 HW0 C1 cT2
 go_wp2_with fail
 refine(C2.out _ HK1.out).mono ?_
 rintro e w2 ⟨rfl,hb2⟩
 have HK2:=mkHid (HK1.out.below hb2)
 have Hb2:=mkHid (Hb1.out.trans (hb2.mono Hb1.out.size))
 clear hb2 C2 Hb1 HK1
 go_wp2_with fail
 refine(C3.out _ HK2.out).mono ?_
 rintro e w3 ⟨rfl,hb3⟩
 have HK3:=mkHid (HK2.out.below hb3)
 have Hb3:=mkHid (Hb2.out.trans (hb3.mono Hb2.out.size))
 clear hb3 C3 Hb2 HK2
 go_wp2_with fail
 refine(C4.out _ HK3.out).mono ?_
 rintro e w4 ⟨rfl,hb4⟩
 have HK4:=mkHid (HK3.out.below hb4)
 have Hb4:=mkHid (Hb3.out.trans (hb4.mono Hb3.out.size))
 clear hb4 C4 Hb3 HK3
 go_wp2_with fail
 refine(C5.out _ HK4.out).mono ?_
 rintro e w5 ⟨rfl,hb5⟩
 have HK5:=mkHid (HK4.out.below hb5)
 have Hb5:=mkHid (Hb4.out.trans (hb5.mono Hb4.out.size))
 clear hb5 C5 Hb4 HK4
 go_wp2_with fail
 refine(C6.out _ HK5.out).mono ?_
 rintro e w6 ⟨rfl,hb6⟩
 have HK6:=mkHid (HK5.out.below hb6)
 have Hb6:=mkHid (Hb5.out.trans (hb6.mono Hb5.out.size))
 clear hb6 C6 Hb5 HK5
 obtain⟨m,hm⟩:=HK6.out.most
 have cS:=mkHid (Tryz.strings_Split nm ⟨#[58]⟩ m w6 (by omega) hm (by decide))
 have hnl:(Sn.names nm).length=Lib.countB nm ⟨#[58]⟩+1:=Lib.splitB_all Sn.colon (by decide) 0 _ nm rfl
 have hns:∀t ∈ Sn.names nm,t.size≤nm.size:=fun t ht=>Sn.part_size _ _ _ _ _ ht
 have hnc:Lib.countB nm ⟨#[58]⟩≤nm.size:=Sn.count_le nm
 have hrow6:=(Hb6.out.block _ hlt0).trans HR0.out
 have Hrow6:=mkHid hrow6
 clear hm hrow6
 obtain⟨W7,hW7⟩:∃W,W=w6.alloc (.cells ((Sn.names nm).map Value.string).toArray 9):=⟨_,rfl⟩
 have cS2:Hid (Calls Tryz.prog 117 #[.string nm,.string ⟨#[58]⟩] w6 fun e w'=>e=.returned (.slice (some ⟨w6.heap.size,0,none⟩) (Sn.names nm).length (Sn.names nm).length)∧w'=W7):=by
  show Calls _ _ _ _ _
  rw[hW7,hnl]
  exact cS.out
 have hb67:Below w6.heap.size w6 W7:=by rw[hW7];exact(Below.refl _ _).alloc (Nat.le_refl _) _
 have hnm:∀(j:Nat) t,(Sn.names nm)[j]?=some t→W7.cell? ⟨w6.heap.size,j,none⟩=some (.string t):=by
  intro j t hj
  have hh:W7.heap[w6.heap.size]?=some (.cells ((Sn.names nm).map Value.string).toArray 9 (0,0)):=by rw[hW7];exact heap_alloc_at _ _
  simp[World.cell?,hh,hj]
 have hs7:W7.heap.size=w6.heap.size+1:=by rw[hW7];simp
 have hz6:=Hb6.out.size
 have HK7:=mkHid (HK6.out.below hb67)
 have Hb7:=mkHid (Hb6.out.trans (hb67.mono hz6))
 have Hrow7:=mkHid ((hb67.block _ (show w.heap.size<w6.heap.size by omega)).trans Hrow6.out)
 have Hnm:=mkHid hnm
 have hPn:(Sn.names nm).length≤100001:=by rw[hnl];omega
 have Hns:=mkHid (show ∀t ∈ Sn.names nm,t.size≤100000 from fun t ht=>by have:=hns t ht;omega)
 obtain⟨gN,hgN⟩:∃g,g=w6.heap.size:=⟨_,rfl⟩
 have hgl:w.heap.size<gN:=by omega
 have hg7:gN<W7.heap.size:=by omega
 rw[← hgN] at cS2 Hnm
 have hFm:Sn.mk d s nm hf bf b1 b2=⟨d,s,Sn.names nm,Sn.fmN hf,Sn.fmN bf,Sn.numW (Sn.cutA b1 Sn.dash).data.toList,Sn.numW (Sn.cutR b1 Sn.dash).data.toList,Sn.numW (Sn.cutA b2 Sn.dash).data.toList,Sn.numW (Sn.cutR b2 Sn.dash).data.toList⟩:=rfl
 have HFm:=mkHid hFm
 clear hb67 hnm hs7 hW7 hnl hns hnc hgN hz6 Hrow6 HK6 Hb6 cS hFm
 generalize Sn.names nm=P at *
 have cF1:=mkHid (fun W=>implFormNamed hf W)
 have cF2:=mkHid (fun W=>implFormNamed bf W)
 have e1:(if hf=⟨#[114,101,108,97,120,101,100]⟩ then (1:Int) else 0)=Sn.fmN hf:=rfl
 have e2:(if bf=⟨#[114,101,108,97,120,101,100]⟩ then (1:Int) else 0)=Sn.fmN bf:=rfl
 rw[e1] at cF1
 rw[e2] at cF2
 have Hh:=mkHid (Sn.fm_is hf)
 have Hb:=mkHid (Sn.fm_is bf)
 clear e1 e2
 generalize Sn.fmN hf=h at *
 generalize Sn.fmN bf=b at *
 generalize hPL:P.length=PL at *
 have HPL:=mkHid hPL
 clear hPL
 obtain⟨k0,k1,k2,k3,k4,k5,k6,k7,k8,k9,k10⟩:=cells11 Hrow7.out
 have f0:=frozen11 Hrow7.out 0
 have f1':=frozen11 Hrow7.out 1
 have f2':=frozen11 Hrow7.out 2
 have f3':=frozen11 Hrow7.out 3
 have f4':=frozen11 Hrow7.out 4
 have f5':=frozen11 Hrow7.out 5
 have f6':=frozen11 Hrow7.out 6
 go_wp2_with fail
 refine cS2.out.mono ?_
 rintro e w7 ⟨rfl,rfl⟩
 go_wp2_with fail
 refine(cF1.out _).mono ?_
 rintro e w8 ⟨rfl,rfl⟩
 go_wp2_with fail
 refine(cF2.out _).mono ?_
 rintro e w8 ⟨rfl,rfl⟩
 go_wp2_with fail
 obtain⟨W8,hW8⟩:∃W,W=(((((((w7.setCell ⟨w.heap.size,0,none⟩ (.string d)).setCell ⟨w.heap.size,1,none⟩ (.string s)).setCell ⟨w.heap.size,2,none⟩ (.int .i64 0)).setCell ⟨w.heap.size,3,none⟩ (.int .i64 0)).setCell ⟨w.heap.size,4,none⟩ (.slice (some ⟨gN,0,none⟩) PL PL)).setCell ⟨w.heap.size,5,none⟩ (.int .i64 h)).setCell ⟨w.heap.size,6,none⟩ (.int .i64 b)):=⟨_,rfl⟩
 have hrow8:W8.heap[w.heap.size]?=some (.cells (sgCells d s 0 0 (.slice (some ⟨gN,0,none⟩) PL PL) h b 0 0 0 0) 54 (0,0)):=by
  have h1:=heap_setCell_same _ _ 0 _ _ (.string d) Hrow7.out
  have h2:=heap_setCell_same _ _ 1 _ _ (.string s) h1
  have h3:=heap_setCell_same _ _ 2 _ _ (.int .i64 0) h2
  have h4:=heap_setCell_same _ _ 3 _ _ (.int .i64 0) h3
  have h5:=heap_setCell_same _ _ 4 _ _ (.slice (some ⟨gN,0,none⟩) PL PL) h4
  have h6:=heap_setCell_same _ _ 5 _ _ (.int .i64 h) h5
  have h7:=heap_setCell_same _ _ 6 _ _ (.int .i64 b) h6
  rw[hW8]
  exact h7
 have hbw8:Below w.heap.size w W8:=by
  rw[hW8]
  exact(((((((HB0.out.trans (Hb7.out.mono (by omega))).setCell (Nat.le_refl _) _).setCell (Nat.le_refl _) _).setCell (Nat.le_refl _) _).setCell (Nat.le_refl _) _).setCell (Nat.le_refl _) _).setCell (Nat.le_refl _) _).setCell (Nat.le_refl _) _
 have hgo:gN≠w.heap.size:=by omega
 have hblk8:W8.heap[gN]?=w7.heap[gN]?:=by
  rw[hW8]
  iterate 7 rw[heap_setCell_other _ _ _ _ hgo]
 have hs8:w7.heap.size≤W8.heap.size:=by
  rw[hW8];simp
 have hnm8:∀(j:Nat) t,P[j]?=some t→W8.cell? ⟨gN,j,none⟩=some (.string t):=fun j t hj=>(World.cell?_of_block hblk8).trans (Hnm.out j t hj)
 have Hnm8:=mkHid hnm8
 have Hrow8:=mkHid hrow8
 have Hbw8:=mkHid hbw8
 have hg8:gN<W8.heap.size:=by omega
 have cS1:=implSumShown b1 W8 (by omega) (HWk.out.below hbw8)
 obtain⟨x,hx⟩:∃x,x=Sn.numW (Sn.cutA b1 Sn.dash).data.toList:=⟨_,rfl⟩
 obtain⟨y,hy⟩:∃x,x=Sn.numW (Sn.cutR b1 Sn.dash).data.toList:=⟨_,rfl⟩
 obtain⟨p,hp⟩:∃x,x=Sn.numW (Sn.cutA b2 Sn.dash).data.toList:=⟨_,rfl⟩
 obtain⟨q,hq⟩:∃x,x=Sn.numW (Sn.cutR b2 Sn.dash).data.toList:=⟨_,rfl⟩
 have hx2:Sn.numW (Sn.cutA b1 ⟨#[45]⟩).data.toList=x:=hx.symm
 have hy2:Sn.numW (Sn.cutR b1 ⟨#[45]⟩).data.toList=y:=hy.symm
 rw[hx2,hy2] at cS1
 have cS2:=fun W (hb:Below w.heap.size w W)=>implSumShown b2 W (by omega) (HWk.out.below hb)
 have hp2:Sn.numW (Sn.cutA b2 ⟨#[45]⟩).data.toList=p:=hp.symm
 have hq2:Sn.numW (Sn.cutR b2 ⟨#[45]⟩).data.toList=q:=hq.symm
 rw[hp2,hq2] at cS2
 have CS1:=mkHid cS1
 have CS2:=mkHid cS2
 have Hx:=mkHid hx
 have Hy:=mkHid hy
 have Hp:=mkHid hp
 have Hq:=mkHid hq
 have HW8:=mkHid hW8
 clear hx hy hp hq hx2 hy2 hp2 hq2 cS1 hnm8 hrow8 hbw8 hW8 hblk8 hs8 k0 k1 k2 k3 k4 k5 k6 k7 k8 k9 k10 f0 f1' f2' f3' f4' f5' f6' Hrow7 Hnm cF1 cF2 hg7
 rw[← HW8.out]
 refine CS1.out.mono ?_
 rintro e w9 ⟨rfl,hb9⟩
 have Hbw9:=mkHid (Hbw8.out.trans (hb9.mono Hbw8.out.size))
 have Hrow9:=mkHid ((hb9.block _ (show w.heap.size<W8.heap.size by omega)).trans Hrow8.out)
 have Hnm9:Hid (∀(j:Nat) t,P[j]?=some t→w9.cell? ⟨gN,j,none⟩=some (.string t)):=fun j t hj=>(hb9.cell (p:=⟨gN,j,none⟩) hg8).trans (Hnm8.out j t hj)
 have hg9:gN<w9.heap.size:=Nat.lt_of_lt_of_le hg8 hb9.size
 clear hb9 HW8 CS1 Hrow8 Hnm8 hg8 Hbw8
 go_wp2_with fail
 refine(CS2.out w9 Hbw9.out).mono ?_
 rintro e w10 ⟨rfl,hb10⟩
 have Hbw10:=mkHid (Hbw9.out.trans (hb10.mono Hbw9.out.size))
 have Hrow10:=mkHid ((hb10.block _ (show w.heap.size<w9.heap.size by omega)).trans Hrow9.out)
 have Hnm10:Hid (∀(j:Nat) t,P[j]?=some t→w10.cell? ⟨gN,j,none⟩=some (.string t)):=fun j t hj=>(hb10.cell (p:=⟨gN,j,none⟩) hg9).trans (Hnm9.out j t hj)
 have hg10:gN<w10.heap.size:=Nat.lt_of_lt_of_le hg9 hb10.size
 clear hb10 CS2 Hrow9 Hnm9 hg9 Hbw9
 obtain⟨k0,k1,k2,k3,k4,k5,k6,k7,k8,k9,k10⟩:=cells11 Hrow10.out
 have f7:=frozen11 Hrow10.out 7
 have f8:=frozen11 Hrow10.out 8
 have f9:=frozen11 Hrow10.out 9
 have f10:=frozen11 Hrow10.out 10
 go_wp2_with fail
 obtain⟨W11,hW11⟩:∃W,W=(((w10.setCell ⟨w.heap.size,7,none⟩ (.int .i64 x)).setCell ⟨w.heap.size,8,none⟩ (.int .i64 y)).setCell ⟨w.heap.size,9,none⟩ (.int .i64 p)).setCell ⟨w.heap.size,10,none⟩ (.int .i64 q):=⟨_,rfl⟩
 have hrow11:W11.heap[w.heap.size]?=some (.cells (sgCells d s 0 0 (.slice (some ⟨gN,0,none⟩) PL PL) h b x y p q) 54 (0,0)):=by
  have h1:=heap_setCell_same _ _ 7 _ _ (.int .i64 x) Hrow10.out
  have h2:=heap_setCell_same _ _ 8 _ _ (.int .i64 y) h1
  have h3:=heap_setCell_same _ _ 9 _ _ (.int .i64 p) h2
  have h4:=heap_setCell_same _ _ 10 _ _ (.int .i64 q) h3
  rw[hW11]
  exact h4
 have hbw11:Below w.heap.size w W11:=by
  rw[hW11]
  exact(((Hbw10.out.setCell (Nat.le_refl _) _).setCell (Nat.le_refl _) _).setCell (Nat.le_refl _) _).setCell (Nat.le_refl _) _
 have hblk11:W11.heap[gN]?=w10.heap[gN]?:=by
  rw[hW11]
  iterate 4 rw[heap_setCell_other _ _ _ _ hgo]
 have hs11:W11.heap.size=w10.heap.size:=by rw[hW11];simp
 have hnm11:∀(j:Nat) t,P[j]?=some t→W11.cell? ⟨gN,j,none⟩=some (.string t):=fun j t hj=>(World.cell?_of_block hblk11).trans (Hnm10.out j t hj)
 have hg11:gN<W11.heap.size:=by omega
 have hl11:w.heap.size<W11.heap.size:=by omega
 rw[← hW11]
 have Hrow11:=mkHid hrow11
 have Hbw11:=mkHid hbw11
 have Hnm11:=mkHid hnm11
 have hTx:∀W,Below W11.heap.size W11 W→Tx W.heap.size W (some ⟨gN,0,none⟩) P:=fun W hW k hk=>by
  refine⟨_,rfl,Nat.lt_of_lt_of_le hg11 hW.size,?_⟩
  rw[Addr.add_lit,Nat.zero_add]
  exact(hW.cell (p:=⟨gN,k,none⟩) hg11).trans (Hnm11.out k _ (List.getElem?_eq_getElem hk))
 have HTx:=mkHid hTx
 have hPl2:P.length≤1048576:=by rw[HPL.out];omega
 have cA0:∀W,Below W11.heap.size W11 W→Calls Tryz.prog 54 #[sgV d s 0 0 (.slice (some ⟨gN,0,none⟩) PL PL) h b] W fun e w'=>e=.returned (.bool (Sn.says d s P h b))∧Below W.heap.size W w':=fun W hW=>by
  obtain⟨m,hm⟩:=(HWk.out.below (Hbw11.out.trans (hW.mono (by have:=Hbw11.out.size;omega)))).most
  exact Sn.saysC d s h b m gN P PL W HPL.out (by omega) (by omega) (HTx.out W hW) hPl2 (fun t ht=>by have:=Hns.out t ht;omega) hm
 have cA:=mkHid cA0
 have cB:=mkHid (fun W=>implIsSum x y W)
 have cC:=mkHid (fun W=>implIsSum p q W)
 have cV0:Sn.says d s P h b=true→Sn.sumR x y=true→Sn.sumR p q=true→∀W,Below W11.heap.size W11 W→Calls Tryz.prog 20 #[.agg (sgCells d s 0 0 (.slice (some ⟨gN,0,none⟩) PL PL) h b x y p q)] W fun e w'=>e=.returned (.string (Sn.valueOf ⟨d,s,P,h,b,x,y,p,q⟩))∧Below W.heap.size W w':=fun g1 g2 g3 W hW=>
  Sn.valueC d s h b x y p q gN P PL W HPL.out g1 g2 g3 (fun j t hj=>(hW.cell (p:=⟨gN,j,none⟩) hg11).trans (Hnm11.out j t hj)) (Nat.lt_of_lt_of_le hg11 hW.size) (HWk.out.below (Hbw11.out.trans (hW.mono (by have:=Hbw11.out.size;omega)))).tab
 have cV:=mkHid cV0
 have hR:Hid (Sn.right ⟨d,s,P,h,b,x,y,p,q⟩ v=(Sn.says d s P h b && (Sn.sumR x y && (Sn.sumR p q && ((Sn.valueOf ⟨d,s,P,h,b,x,y,p,q⟩).toList==v.toList))))):=rfl
 have hEnd:Hid (∀W bb,Below W11.heap.size W11 W→bb=Sn.right ⟨d,s,P,h,b,x,y,p,q⟩ v→∃gN',Ending.returned (.tuple #[.agg (sgCells d s 0 0 (.slice (some ⟨gN,0,none⟩) PL PL) h b x y p q),.bool bb])=Ending.returned (.tuple #[.agg (sgCells (Sn.mk d s nm hf bf b1 b2).d (Sn.mk d s nm hf bf b1 b2).s 0 0 (.slice (some ⟨gN',0,none⟩) (Sn.mk d s nm hf bf b1 b2).N.length (Sn.mk d s nm hf bf b1 b2).N.length) (Sn.mk d s nm hf bf b1 b2).h (Sn.mk d s nm hf bf b1 b2).b (Sn.mk d s nm hf bf b1 b2).x (Sn.mk d s nm hf bf b1 b2).y (Sn.mk d s nm hf bf b1 b2).p (Sn.mk d s nm hf bf b1 b2).q),.bool (Sn.right (Sn.mk d s nm hf bf b1 b2) v)])∧Tx W.heap.size W (some ⟨gN',0,none⟩) (Sn.mk d s nm hf bf b1 b2).N∧Below w.heap.size w W):=fun W bb hW hbb=>by
  refine⟨gN,?_,?_,?_⟩
  ·rw[HFm.out,← Hx.out,← Hy.out,← Hp.out,← Hq.out,hbb]
   simp only[HPL.out]
  ·rw[HFm.out]
   exact HTx.out W hW
  ·exact Hbw11.out.trans (hW.mono (by have:=Hbw11.out.size;omega))
 clear hW11 hrow11 hbw11 hblk11 hnm11 hTx cA0 cV0 k0 k1 k2 k3 k4 k5 k6 k7 k8 k9 k10 f7 f8 f9 f10 Hrow10 Hnm10 hg10 Hbw10 hs11 hPl2 HFm Hx Hy Hp Hq HPL HTx Hnm11 Hns Hbw11 HWk
 have hbS:Below W11.heap.size W11 W11.drew:=(Below.refl _ _).drew
 have HS:Hid (∀W,Below W11.heap.size W11 W→W.heap[w.heap.size]?=some (.cells (sgCells d s 0 0 (.slice (some ⟨gN,0,none⟩) PL PL) h b x y p q) 54 (0,0))):=fun W hW=>(hW.block _ hl11).trans Hrow11.out
 generalize hvl:Sn.valueOf ⟨d,s,P,h,b,x,y,p,q⟩=vl at *
 clear hvl
 cases hsb:Sn.says d s P h b
 ·have hbb:Hid (false=Sn.right ⟨d,s,P,h,b,x,y,p,q⟩ v):=by show _=_;rw[hR.out,hsb];rfl
  rw[hsb] at cA
  clear cB cC cV hR hsb
  refine wp_region_held (S:=fun W=>Below W11.heap.size W11 W) (by kernel_rfl) ?_
  refine tk 0 (.agg (sgCells d s 0 0 (.slice (some ⟨gN,0,none⟩) PL PL) h b x y p q)) hbS ?_ ?_
  ·intro W s0
   obtain⟨k0,k1,k2,k3,k4,k5,k6,k7,k8,k9,k10⟩:=cells11 (HS.out W s0)
   clear s0
   go_simp
  go_simp
  refine tk 1 (.pointer (some ⟨w.heap.size,0,none⟩)) hbS ?_ ?_
  ·intro W s0
   obtain⟨k0,k1,k2,k3,k4,k5,k6,k7,k8,k9,k10⟩:=cells11 (HS.out W s0)
   clear s0
   go_simp
  go_simp
  refine tk 2 (.agg #[.string d,.string s,.int .i64 0,.int .i64 0,.slice (some ⟨gN,0,none⟩) PL PL,.int .i64 h,.int .i64 b]) hbS ?_ ?_
  ·intro W s0
   obtain⟨k0,k1,k2,k3,k4,k5,k6,k7,k8,k9,k10⟩:=cells11 (HS.out W s0)
   clear s0
   go_simp
  go_simp
  refine wpAnyH_all (rs:=[3]) (by kernel_rfl) (by simp) ?_
  intro j hj
  simp only[List.mem_cons,List.not_mem_nil,or_false] at hj
  subst hj
  refine wpOp_step rfl (fun K hK=>?_)
  go_simp
  refine(cA.out _ hbS).mono ?_
  rintro e v1 ⟨rfl,hc1⟩
  have hb21:Below W11.heap.size W11 v1:=hbS.trans (hc1.mono hbS.size)
  clear hc1
  refine hK _ _ ⟨hb21,?_⟩
  clear hK K
  go_simp
  refine tk 4 (.bool false) hb21 ?_ ?_
  ·intro W s0
   obtain⟨k0,k1,k2,k3,k4,k5,k6,k7,k8,k9,k10⟩:=cells11 (HS.out W s0)
   clear s0
   go_simp
  go_simp
  refine tn 5 hb21 ?_
  go_simp
  refine tn 6 hb21 ?_
  go_simp
  refine tn 7 hb21 ?_
  go_simp
  refine tk 8 (.bool false) hb21 ?_ ?_
  ·intro W s0
   obtain⟨k0,k1,k2,k3,k4,k5,k6,k7,k8,k9,k10⟩:=cells11 (HS.out W s0)
   clear s0
   go_simp
  go_simp
  refine tk 9 (.bool false) hb21 ?_ ?_
  ·intro W s0
   obtain⟨k0,k1,k2,k3,k4,k5,k6,k7,k8,k9,k10⟩:=cells11 (HS.out W s0)
   clear s0
   go_simp
  go_simp
  refine tn 10 hb21 ?_
  go_simp
  refine tn 11 hb21 ?_
  go_simp
  refine tn 12 hb21 ?_
  go_simp
  refine tk 13 (.bool false) hb21 ?_ ?_
  ·intro W s0
   obtain⟨k0,k1,k2,k3,k4,k5,k6,k7,k8,k9,k10⟩:=cells11 (HS.out W s0)
   clear s0
   go_simp
  go_simp
  refine tk 14 (.bool false) hb21 ?_ ?_
  ·intro W s0
   obtain⟨k0,k1,k2,k3,k4,k5,k6,k7,k8,k9,k10⟩:=cells11 (HS.out W s0)
   clear s0
   go_simp
  go_simp
  refine tn 15 hb21 ?_
  go_simp
  refine tn 16 hb21 ?_
  go_simp
  refine tn 17 hb21 ?_
  go_simp
  refine tn 18 hb21 ?_
  go_simp
  refine tk 19 (.bool false) hb21 ?_ ?_
  ·intro W s0
   obtain⟨k0,k1,k2,k3,k4,k5,k6,k7,k8,k9,k10⟩:=cells11 (HS.out W s0)
   clear s0
   go_simp
  go_simp
  refine wpAnyH_all (rs:=[20]) (by kernel_rfl) (by simp) ?_
  intro j hj
  simp only[List.mem_cons,List.not_mem_nil,or_false] at hj
  subst hj
  refine wpOp_step rfl (fun K hK=>?_)
  have hrw:=HS.out _ hb21
  refine wp_store_row 54 _ _ rfl w.heap.size (sgCells d s 0 0 (.slice (some ⟨gN,0,none⟩) PL PL) h b x y p q) rfl rfl 54 _ hrw (by kernel_rfl) rfl (by simp[Value.oneCell']) ?_
  have hz:=Sn.below_sameRow hb21 hrw
  refine hK _ _ ⟨hz,?_⟩
  clear hK K
  go_simp
  generalize (v1).setRow w.heap.size (sgCells d s 0 0 (.slice (some ⟨gN,0,none⟩) PL PL) h b x y p q)=Z at hz ⊢
  refine tk 21 (.bool false) hz ?_ ?_
  ·intro W s0
   obtain⟨k0,k1,k2,k3,k4,k5,k6,k7,k8,k9,k10⟩:=cells11 (HS.out W s0)
   clear s0
   go_simp
  go_simp
  refine wpAnyH_done (by kernel_rfl) ?_ _
  obtain⟨k0,k1,k2,k3,k4,k5,k6,k7,k8,k9,k10⟩:=cells11 (HS.out Z hz)
  have hfin:=hEnd.out Z false hz hbb.out
  clear hEnd HS hbb
  go_wp2_with fail
  refine bodyPost_ret (v:=.tuple #[.agg (sgCells d s 0 0 (.slice (some ⟨gN,0,none⟩) PL PL) h b x y p q),.bool false]) (by simp[results,Tryz.results78,go_sem,k0,k1,k2,k3,k4,k5,k6,k7,k8,k9,k10]) rfl hfin
 ·rw[hsb] at cA
  cases hr1:Sn.sumR x y
  ·have hbb:Hid (false=Sn.right ⟨d,s,P,h,b,x,y,p,q⟩ v):=by show _=_;rw[hR.out,hsb,hr1];rfl
   rw[hr1] at cB
   clear cC cV hR hsb hr1
   refine wp_region_held (S:=fun W=>Below W11.heap.size W11 W) (by kernel_rfl) ?_
   refine tk 0 (.agg (sgCells d s 0 0 (.slice (some ⟨gN,0,none⟩) PL PL) h b x y p q)) hbS ?_ ?_
   ·intro W s0
    obtain⟨k0,k1,k2,k3,k4,k5,k6,k7,k8,k9,k10⟩:=cells11 (HS.out W s0)
    clear s0
    go_simp
   go_simp
   refine tk 1 (.pointer (some ⟨w.heap.size,0,none⟩)) hbS ?_ ?_
   ·intro W s0
    obtain⟨k0,k1,k2,k3,k4,k5,k6,k7,k8,k9,k10⟩:=cells11 (HS.out W s0)
    clear s0
    go_simp
   go_simp
   refine tk 2 (.agg #[.string d,.string s,.int .i64 0,.int .i64 0,.slice (some ⟨gN,0,none⟩) PL PL,.int .i64 h,.int .i64 b]) hbS ?_ ?_
   ·intro W s0
    obtain⟨k0,k1,k2,k3,k4,k5,k6,k7,k8,k9,k10⟩:=cells11 (HS.out W s0)
    clear s0
    go_simp
   go_simp
   refine wpAnyH_all (rs:=[3]) (by kernel_rfl) (by simp) ?_
   intro j hj
   simp only[List.mem_cons,List.not_mem_nil,or_false] at hj
   subst hj
   refine wpOp_step rfl (fun K hK=>?_)
   go_simp
   refine(cA.out _ hbS).mono ?_
   rintro e v1 ⟨rfl,hc1⟩
   have hb21:Below W11.heap.size W11 v1:=hbS.trans (hc1.mono hbS.size)
   clear hc1
   refine hK _ _ ⟨hb21,?_⟩
   clear hK K
   go_simp
   refine tk 4 (.bool true) hb21 ?_ ?_
   ·intro W s0
    obtain⟨k0,k1,k2,k3,k4,k5,k6,k7,k8,k9,k10⟩:=cells11 (HS.out W s0)
    clear s0
    go_simp
   go_simp
   refine tk 5 (.pointer (some ⟨w.heap.size,7,none⟩)) hb21 ?_ ?_
   ·intro W s0
    obtain⟨k0,k1,k2,k3,k4,k5,k6,k7,k8,k9,k10⟩:=cells11 (HS.out W s0)
    clear s0
    go_simp
   go_simp
   refine tk 6 (.agg #[.int .i64 x,.int .i64 y]) hb21 ?_ ?_
   ·intro W s0
    obtain⟨k0,k1,k2,k3,k4,k5,k6,k7,k8,k9,k10⟩:=cells11 (HS.out W s0)
    clear s0
    go_simp
   go_simp
   refine wpAnyH_all (rs:=[7]) (by kernel_rfl) (by simp) ?_
   intro j hj
   simp only[List.mem_cons,List.not_mem_nil,or_false] at hj
   subst hj
   refine wpOp_step rfl (fun K hK=>?_)
   go_simp
   refine(cB.out _).mono ?_
   rintro e v2 ⟨rfl,hc2⟩
   have hb22:Below W11.heap.size W11 v2:=hb21.trans (hc2.mono hb21.size)
   clear hc2
   refine hK _ _ ⟨hb22,?_⟩
   clear hK K
   go_simp
   refine tk 8 (.bool false) hb22 ?_ ?_
   ·intro W s0
    obtain⟨k0,k1,k2,k3,k4,k5,k6,k7,k8,k9,k10⟩:=cells11 (HS.out W s0)
    clear s0
    go_simp
   go_simp
   refine tk 9 (.bool false) hb22 ?_ ?_
   ·intro W s0
    obtain⟨k0,k1,k2,k3,k4,k5,k6,k7,k8,k9,k10⟩:=cells11 (HS.out W s0)
    clear s0
    go_simp
   go_simp
   refine tn 10 hb22 ?_
   go_simp
   refine tn 11 hb22 ?_
   go_simp
   refine tn 12 hb22 ?_
   go_simp
   refine tk 13 (.bool false) hb22 ?_ ?_
   ·intro W s0
    obtain⟨k0,k1,k2,k3,k4,k5,k6,k7,k8,k9,k10⟩:=cells11 (HS.out W s0)
    clear s0
    go_simp
   go_simp
   refine tk 14 (.bool false) hb22 ?_ ?_
   ·intro W s0
    obtain⟨k0,k1,k2,k3,k4,k5,k6,k7,k8,k9,k10⟩:=cells11 (HS.out W s0)
    clear s0
    go_simp
   go_simp
   refine tn 15 hb22 ?_
   go_simp
   refine tn 16 hb22 ?_
   go_simp
   refine tn 17 hb22 ?_
   go_simp
   refine tn 18 hb22 ?_
   go_simp
   refine tk 19 (.bool false) hb22 ?_ ?_
   ·intro W s0
    obtain⟨k0,k1,k2,k3,k4,k5,k6,k7,k8,k9,k10⟩:=cells11 (HS.out W s0)
    clear s0
    go_simp
   go_simp
   refine wpAnyH_all (rs:=[20]) (by kernel_rfl) (by simp) ?_
   intro j hj
   simp only[List.mem_cons,List.not_mem_nil,or_false] at hj
   subst hj
   refine wpOp_step rfl (fun K hK=>?_)
   have hrw:=HS.out _ hb22
   refine wp_store_row 54 _ _ rfl w.heap.size (sgCells d s 0 0 (.slice (some ⟨gN,0,none⟩) PL PL) h b x y p q) rfl rfl 54 _ hrw (by kernel_rfl) rfl (by simp[Value.oneCell']) ?_
   have hz:=Sn.below_sameRow hb22 hrw
   refine hK _ _ ⟨hz,?_⟩
   clear hK K
   go_simp
   generalize (v2).setRow w.heap.size (sgCells d s 0 0 (.slice (some ⟨gN,0,none⟩) PL PL) h b x y p q)=Z at hz ⊢
   refine tk 21 (.bool false) hz ?_ ?_
   ·intro W s0
    obtain⟨k0,k1,k2,k3,k4,k5,k6,k7,k8,k9,k10⟩:=cells11 (HS.out W s0)
    clear s0
    go_simp
   go_simp
   refine wpAnyH_done (by kernel_rfl) ?_ _
   obtain⟨k0,k1,k2,k3,k4,k5,k6,k7,k8,k9,k10⟩:=cells11 (HS.out Z hz)
   have hfin:=hEnd.out Z false hz hbb.out
   clear hEnd HS hbb
   go_wp2_with fail
   refine bodyPost_ret (v:=.tuple #[.agg (sgCells d s 0 0 (.slice (some ⟨gN,0,none⟩) PL PL) h b x y p q),.bool false]) (by simp[results,Tryz.results78,go_sem,k0,k1,k2,k3,k4,k5,k6,k7,k8,k9,k10]) rfl hfin
  ·rw[hr1] at cB
   cases hr2:Sn.sumR p q
   ·have hbb:Hid (false=Sn.right ⟨d,s,P,h,b,x,y,p,q⟩ v):=by show _=_;rw[hR.out,hsb,hr1,hr2];rfl
    rw[hr2] at cC
    clear cV hR hsb hr1 hr2
    refine wp_region_held (S:=fun W=>Below W11.heap.size W11 W) (by kernel_rfl) ?_
    refine tk 0 (.agg (sgCells d s 0 0 (.slice (some ⟨gN,0,none⟩) PL PL) h b x y p q)) hbS ?_ ?_
    ·intro W s0
     obtain⟨k0,k1,k2,k3,k4,k5,k6,k7,k8,k9,k10⟩:=cells11 (HS.out W s0)
     clear s0
     go_simp
    go_simp
    refine tk 1 (.pointer (some ⟨w.heap.size,0,none⟩)) hbS ?_ ?_
    ·intro W s0
     obtain⟨k0,k1,k2,k3,k4,k5,k6,k7,k8,k9,k10⟩:=cells11 (HS.out W s0)
     clear s0
     go_simp
    go_simp
    refine tk 2 (.agg #[.string d,.string s,.int .i64 0,.int .i64 0,.slice (some ⟨gN,0,none⟩) PL PL,.int .i64 h,.int .i64 b]) hbS ?_ ?_
    ·intro W s0
     obtain⟨k0,k1,k2,k3,k4,k5,k6,k7,k8,k9,k10⟩:=cells11 (HS.out W s0)
     clear s0
     go_simp
    go_simp
    refine wpAnyH_all (rs:=[3]) (by kernel_rfl) (by simp) ?_
    intro j hj
    simp only[List.mem_cons,List.not_mem_nil,or_false] at hj
    subst hj
    refine wpOp_step rfl (fun K hK=>?_)
    go_simp
    refine(cA.out _ hbS).mono ?_
    rintro e v1 ⟨rfl,hc1⟩
    have hb21:Below W11.heap.size W11 v1:=hbS.trans (hc1.mono hbS.size)
    clear hc1
    refine hK _ _ ⟨hb21,?_⟩
    clear hK K
    go_simp
    refine tk 4 (.bool true) hb21 ?_ ?_
    ·intro W s0
     obtain⟨k0,k1,k2,k3,k4,k5,k6,k7,k8,k9,k10⟩:=cells11 (HS.out W s0)
     clear s0
     go_simp
    go_simp
    refine tk 5 (.pointer (some ⟨w.heap.size,7,none⟩)) hb21 ?_ ?_
    ·intro W s0
     obtain⟨k0,k1,k2,k3,k4,k5,k6,k7,k8,k9,k10⟩:=cells11 (HS.out W s0)
     clear s0
     go_simp
    go_simp
    refine tk 6 (.agg #[.int .i64 x,.int .i64 y]) hb21 ?_ ?_
    ·intro W s0
     obtain⟨k0,k1,k2,k3,k4,k5,k6,k7,k8,k9,k10⟩:=cells11 (HS.out W s0)
     clear s0
     go_simp
    go_simp
    refine wpAnyH_all (rs:=[7]) (by kernel_rfl) (by simp) ?_
    intro j hj
    simp only[List.mem_cons,List.not_mem_nil,or_false] at hj
    subst hj
    refine wpOp_step rfl (fun K hK=>?_)
    go_simp
    refine(cB.out _).mono ?_
    rintro e v2 ⟨rfl,hc2⟩
    have hb22:Below W11.heap.size W11 v2:=hb21.trans (hc2.mono hb21.size)
    clear hc2
    refine hK _ _ ⟨hb22,?_⟩
    clear hK K
    go_simp
    refine tk 8 (.bool true) hb22 ?_ ?_
    ·intro W s0
     obtain⟨k0,k1,k2,k3,k4,k5,k6,k7,k8,k9,k10⟩:=cells11 (HS.out W s0)
     clear s0
     go_simp
    go_simp
    refine tk 9 (.bool true) hb22 ?_ ?_
    ·intro W s0
     obtain⟨k0,k1,k2,k3,k4,k5,k6,k7,k8,k9,k10⟩:=cells11 (HS.out W s0)
     clear s0
     go_simp
    go_simp
    refine tk 10 (.pointer (some ⟨w.heap.size,9,none⟩)) hb22 ?_ ?_
    ·intro W s0
     obtain⟨k0,k1,k2,k3,k4,k5,k6,k7,k8,k9,k10⟩:=cells11 (HS.out W s0)
     clear s0
     go_simp
    go_simp
    refine tk 11 (.agg #[.int .i64 p,.int .i64 q]) hb22 ?_ ?_
    ·intro W s0
     obtain⟨k0,k1,k2,k3,k4,k5,k6,k7,k8,k9,k10⟩:=cells11 (HS.out W s0)
     clear s0
     go_simp
    go_simp
    refine wpAnyH_all (rs:=[12]) (by kernel_rfl) (by simp) ?_
    intro j hj
    simp only[List.mem_cons,List.not_mem_nil,or_false] at hj
    subst hj
    refine wpOp_step rfl (fun K hK=>?_)
    go_simp
    refine(cC.out _).mono ?_
    rintro e v3 ⟨rfl,hc3⟩
    have hb23:Below W11.heap.size W11 v3:=hb22.trans (hc3.mono hb22.size)
    clear hc3
    refine hK _ _ ⟨hb23,?_⟩
    clear hK K
    go_simp
    refine tk 13 (.bool false) hb23 ?_ ?_
    ·intro W s0
     obtain⟨k0,k1,k2,k3,k4,k5,k6,k7,k8,k9,k10⟩:=cells11 (HS.out W s0)
     clear s0
     go_simp
    go_simp
    refine tk 14 (.bool false) hb23 ?_ ?_
    ·intro W s0
     obtain⟨k0,k1,k2,k3,k4,k5,k6,k7,k8,k9,k10⟩:=cells11 (HS.out W s0)
     clear s0
     go_simp
    go_simp
    refine tn 15 hb23 ?_
    go_simp
    refine tn 16 hb23 ?_
    go_simp
    refine tn 17 hb23 ?_
    go_simp
    refine tn 18 hb23 ?_
    go_simp
    refine tk 19 (.bool false) hb23 ?_ ?_
    ·intro W s0
     obtain⟨k0,k1,k2,k3,k4,k5,k6,k7,k8,k9,k10⟩:=cells11 (HS.out W s0)
     clear s0
     go_simp
    go_simp
    refine wpAnyH_all (rs:=[20]) (by kernel_rfl) (by simp) ?_
    intro j hj
    simp only[List.mem_cons,List.not_mem_nil,or_false] at hj
    subst hj
    refine wpOp_step rfl (fun K hK=>?_)
    have hrw:=HS.out _ hb23
    refine wp_store_row 54 _ _ rfl w.heap.size (sgCells d s 0 0 (.slice (some ⟨gN,0,none⟩) PL PL) h b x y p q) rfl rfl 54 _ hrw (by kernel_rfl) rfl (by simp[Value.oneCell']) ?_
    have hz:=Sn.below_sameRow hb23 hrw
    refine hK _ _ ⟨hz,?_⟩
    clear hK K
    go_simp
    generalize (v3).setRow w.heap.size (sgCells d s 0 0 (.slice (some ⟨gN,0,none⟩) PL PL) h b x y p q)=Z at hz ⊢
    refine tk 21 (.bool false) hz ?_ ?_
    ·intro W s0
     obtain⟨k0,k1,k2,k3,k4,k5,k6,k7,k8,k9,k10⟩:=cells11 (HS.out W s0)
     clear s0
     go_simp
    go_simp
    refine wpAnyH_done (by kernel_rfl) ?_ _
    obtain⟨k0,k1,k2,k3,k4,k5,k6,k7,k8,k9,k10⟩:=cells11 (HS.out Z hz)
    have hfin:=hEnd.out Z false hz hbb.out
    clear hEnd HS hbb
    go_wp2_with fail
    refine bodyPost_ret (v:=.tuple #[.agg (sgCells d s 0 0 (.slice (some ⟨gN,0,none⟩) PL PL) h b x y p q),.bool false]) (by simp[results,Tryz.results78,go_sem,k0,k1,k2,k3,k4,k5,k6,k7,k8,k9,k10]) rfl hfin
   ·rw[hr2] at cC
    have cV2:=mkHid (cV.out hsb hr1 hr2)
    obtain⟨bq,hbq⟩:∃bq,(vl.toList==v.toList)=bq:=⟨_,rfl⟩
    have hbb:Hid (bq=Sn.right ⟨d,s,P,h,b,x,y,p,q⟩ v):=by show _=_;rw[hR.out,hsb,hr1,hr2,hbq];rfl
    clear cV hR hsb hr1 hr2
    refine wp_region_held (S:=fun W=>Below W11.heap.size W11 W) (by kernel_rfl) ?_
    refine tk 0 (.agg (sgCells d s 0 0 (.slice (some ⟨gN,0,none⟩) PL PL) h b x y p q)) hbS ?_ ?_
    ·intro W s0
     obtain⟨k0,k1,k2,k3,k4,k5,k6,k7,k8,k9,k10⟩:=cells11 (HS.out W s0)
     clear s0
     go_simp
    go_simp
    refine tk 1 (.pointer (some ⟨w.heap.size,0,none⟩)) hbS ?_ ?_
    ·intro W s0
     obtain⟨k0,k1,k2,k3,k4,k5,k6,k7,k8,k9,k10⟩:=cells11 (HS.out W s0)
     clear s0
     go_simp
    go_simp
    refine tk 2 (.agg #[.string d,.string s,.int .i64 0,.int .i64 0,.slice (some ⟨gN,0,none⟩) PL PL,.int .i64 h,.int .i64 b]) hbS ?_ ?_
    ·intro W s0
     obtain⟨k0,k1,k2,k3,k4,k5,k6,k7,k8,k9,k10⟩:=cells11 (HS.out W s0)
     clear s0
     go_simp
    go_simp
    refine wpAnyH_all (rs:=[3]) (by kernel_rfl) (by simp) ?_
    intro j hj
    simp only[List.mem_cons,List.not_mem_nil,or_false] at hj
    subst hj
    refine wpOp_step rfl (fun K hK=>?_)
    go_simp
    refine(cA.out _ hbS).mono ?_
    rintro e v1 ⟨rfl,hc1⟩
    have hb21:Below W11.heap.size W11 v1:=hbS.trans (hc1.mono hbS.size)
    clear hc1
    refine hK _ _ ⟨hb21,?_⟩
    clear hK K
    go_simp
    refine tk 4 (.bool true) hb21 ?_ ?_
    ·intro W s0
     obtain⟨k0,k1,k2,k3,k4,k5,k6,k7,k8,k9,k10⟩:=cells11 (HS.out W s0)
     clear s0
     go_simp
    go_simp
    refine tk 5 (.pointer (some ⟨w.heap.size,7,none⟩)) hb21 ?_ ?_
    ·intro W s0
     obtain⟨k0,k1,k2,k3,k4,k5,k6,k7,k8,k9,k10⟩:=cells11 (HS.out W s0)
     clear s0
     go_simp
    go_simp
    refine tk 6 (.agg #[.int .i64 x,.int .i64 y]) hb21 ?_ ?_
    ·intro W s0
     obtain⟨k0,k1,k2,k3,k4,k5,k6,k7,k8,k9,k10⟩:=cells11 (HS.out W s0)
     clear s0
     go_simp
    go_simp
    refine wpAnyH_all (rs:=[7]) (by kernel_rfl) (by simp) ?_
    intro j hj
    simp only[List.mem_cons,List.not_mem_nil,or_false] at hj
    subst hj
    refine wpOp_step rfl (fun K hK=>?_)
    go_simp
    refine(cB.out _).mono ?_
    rintro e v2 ⟨rfl,hc2⟩
    have hb22:Below W11.heap.size W11 v2:=hb21.trans (hc2.mono hb21.size)
    clear hc2
    refine hK _ _ ⟨hb22,?_⟩
    clear hK K
    go_simp
    refine tk 8 (.bool true) hb22 ?_ ?_
    ·intro W s0
     obtain⟨k0,k1,k2,k3,k4,k5,k6,k7,k8,k9,k10⟩:=cells11 (HS.out W s0)
     clear s0
     go_simp
    go_simp
    refine tk 9 (.bool true) hb22 ?_ ?_
    ·intro W s0
     obtain⟨k0,k1,k2,k3,k4,k5,k6,k7,k8,k9,k10⟩:=cells11 (HS.out W s0)
     clear s0
     go_simp
    go_simp
    refine tk 10 (.pointer (some ⟨w.heap.size,9,none⟩)) hb22 ?_ ?_
    ·intro W s0
     obtain⟨k0,k1,k2,k3,k4,k5,k6,k7,k8,k9,k10⟩:=cells11 (HS.out W s0)
     clear s0
     go_simp
    go_simp
    refine tk 11 (.agg #[.int .i64 p,.int .i64 q]) hb22 ?_ ?_
    ·intro W s0
     obtain⟨k0,k1,k2,k3,k4,k5,k6,k7,k8,k9,k10⟩:=cells11 (HS.out W s0)
     clear s0
     go_simp
    go_simp
    refine wpAnyH_all (rs:=[12]) (by kernel_rfl) (by simp) ?_
    intro j hj
    simp only[List.mem_cons,List.not_mem_nil,or_false] at hj
    subst hj
    refine wpOp_step rfl (fun K hK=>?_)
    go_simp
    refine(cC.out _).mono ?_
    rintro e v3 ⟨rfl,hc3⟩
    have hb23:Below W11.heap.size W11 v3:=hb22.trans (hc3.mono hb22.size)
    clear hc3
    refine hK _ _ ⟨hb23,?_⟩
    clear hK K
    go_simp
    refine tk 13 (.bool true) hb23 ?_ ?_
    ·intro W s0
     obtain⟨k0,k1,k2,k3,k4,k5,k6,k7,k8,k9,k10⟩:=cells11 (HS.out W s0)
     clear s0
     go_simp
    go_simp
    refine tk 14 (.bool true) hb23 ?_ ?_
    ·intro W s0
     obtain⟨k0,k1,k2,k3,k4,k5,k6,k7,k8,k9,k10⟩:=cells11 (HS.out W s0)
     clear s0
     go_simp
    go_simp
    refine tk 15 (.agg (sgCells d s 0 0 (.slice (some ⟨gN,0,none⟩) PL PL) h b x y p q)) hb23 ?_ ?_
    ·intro W s0
     obtain⟨k0,k1,k2,k3,k4,k5,k6,k7,k8,k9,k10⟩:=cells11 (HS.out W s0)
     clear s0
     go_simp
    go_simp
    refine tk 17 (.string v) hb23 ?_ ?_
    ·intro W s0
     obtain⟨k0,k1,k2,k3,k4,k5,k6,k7,k8,k9,k10⟩:=cells11 (HS.out W s0)
     clear s0
     go_simp
    go_simp
    refine wpAnyH_all (rs:=[16]) (by kernel_rfl) (by simp) ?_
    intro j hj
    simp only[List.mem_cons,List.not_mem_nil,or_false] at hj
    subst hj
    refine wpOp_step rfl (fun K hK=>?_)
    go_simp
    refine(cV2.out _ hb23).mono ?_
    rintro e v4 ⟨rfl,hc4⟩
    have hb24:Below W11.heap.size W11 v4:=hb23.trans (hc4.mono hb23.size)
    clear hc4
    refine hK _ _ ⟨hb24,?_⟩
    clear hK K
    go_simp
    refine tk 18 (.bool bq) hb24 ?_ ?_
    ·intro W s0
     obtain⟨k0,k1,k2,k3,k4,k5,k6,k7,k8,k9,k10⟩:=cells11 (HS.out W s0)
     clear s0
     go_simp
    go_simp
    refine tk 19 (.bool bq) hb24 ?_ ?_
    ·intro W s0
     obtain⟨k0,k1,k2,k3,k4,k5,k6,k7,k8,k9,k10⟩:=cells11 (HS.out W s0)
     clear s0
     go_simp
    go_simp
    refine wpAnyH_all (rs:=[20]) (by kernel_rfl) (by simp) ?_
    intro j hj
    simp only[List.mem_cons,List.not_mem_nil,or_false] at hj
    subst hj
    refine wpOp_step rfl (fun K hK=>?_)
    have hrw:=HS.out _ hb24
    refine wp_store_row 54 _ _ rfl w.heap.size (sgCells d s 0 0 (.slice (some ⟨gN,0,none⟩) PL PL) h b x y p q) rfl rfl 54 _ hrw (by kernel_rfl) rfl (by simp[Value.oneCell']) ?_
    have hz:=Sn.below_sameRow hb24 hrw
    refine hK _ _ ⟨hz,?_⟩
    clear hK K
    go_simp
    generalize (v4).setRow w.heap.size (sgCells d s 0 0 (.slice (some ⟨gN,0,none⟩) PL PL) h b x y p q)=Z at hz ⊢
    refine tk 21 (.bool bq) hz ?_ ?_
    ·intro W s0
     obtain⟨k0,k1,k2,k3,k4,k5,k6,k7,k8,k9,k10⟩:=cells11 (HS.out W s0)
     clear s0
     go_simp
    go_simp
    refine wpAnyH_done (by kernel_rfl) ?_ _
    obtain⟨k0,k1,k2,k3,k4,k5,k6,k7,k8,k9,k10⟩:=cells11 (HS.out Z hz)
    have hfin:=hEnd.out Z bq hz hbb.out
    clear hEnd HS hbb
    go_wp2_with fail
    refine bodyPost_ret (v:=.tuple #[.agg (sgCells d s 0 0 (.slice (some ⟨gN,0,none⟩) PL PL) h b x y p q),.bool bq]) (by simp[results,Tryz.results78,go_sem,k0,k1,k2,k3,k4,k5,k6,k7,k8,k9,k10]) rfl hfin
namespace Sn
structure Ky where
 d:ByteArray
 s:ByteArray
 A:Int
 B:Int
abbrev kyV (k:Ky):Value:=.agg #[.string k.d,.string k.s,.int .i64 k.A,.int .i64 k.B]
def KyL (b:Nat)(w:World)(K:List Ky):Prop:=b<w.heap.size∧∀k (h:k<K.length),w.cell? ⟨b,k*4,none⟩=some (.string K[k].d)∧w.cell? ⟨b,k*4+1,none⟩=some (.string K[k].s)∧w.cell? ⟨b,k*4+2,none⟩=some (.int .i64 K[k].A)∧w.cell? ⟨b,k*4+3,none⟩=some (.int .i64 K[k].B)
theorem KyL.below {b:Nat} {w w':World} {K:List Ky} (h:KyL b w K)(hb:Below w.heap.size w w'):KyL b w' K:=
 ⟨Nat.lt_of_lt_of_le h.1 hb.size,fun k hk=>by
  obtain⟨h0,h1,h2,h3⟩:=h.2 k hk
  exact⟨(hb.cell (p:=⟨b,k*4,none⟩) h.1).trans h0,(hb.cell (p:=⟨b,k*4+1,none⟩) h.1).trans h1,(hb.cell (p:=⟨b,k*4+2,none⟩) h.1).trans h2,(hb.cell (p:=⟨b,k*4+3,none⟩) h.1).trans h3⟩⟩
def noKy:Ky:=⟨⟨#[]⟩,⟨#[]⟩,0,0⟩
def findK (d s:ByteArray):List Ky→Ky
 | []=>noKy
 | k::r=>if (k.d.toList==d.toList) && (k.s.toList==s.toList) then k else findK d s r
end Sn
theorem implKeyNamed (vf:Value)(body d s:ByteArray)(b c:Nat)(K:List Sn.Ky)(w:World)(hK:Sn.KyL b w K)(hl:K.length≤100) :
  Calls Tryz.prog 121 #[.agg #[vf,.string body,.slice (some ⟨b,0,none⟩) K.length c],Sn.kyV ⟨d,s,0,0⟩] w fun e w'=>e=.returned (Sn.kyV (Sn.findK d s K))∧Below w.heap.size w w':=by
 obtain⟨W0,hW0⟩:∃W,W=((w.alloc (.cells #[vf,.string body,.slice (some ⟨b,0,none⟩) K.length c] 62)).alloc (.cells #[.string d,.string s,.int .i64 0,.int .i64 0] 24)).alloc (.cells #[.string ⟨#[]⟩,.string ⟨#[]⟩,.int .i64 0,.int .i64 0] 24):=⟨_,rfl⟩
 have hb0:Below w.heap.size w W0:=by rw[hW0];exact(((Below.refl _ _).alloc (Nat.le_refl _) _).alloc (by simp) _).alloc (by simp;omega) _
 obtain⟨W1,hW1⟩:∃W,W=w.alloc (.cells #[vf,.string body,.slice (some ⟨b,0,none⟩) K.length c] 62):=⟨_,rfl⟩
 obtain⟨W2,hW2⟩:∃W,W=W1.alloc (.cells #[.string d,.string s,.int .i64 0,.int .i64 0] 24):=⟨_,rfl⟩
 have e0:W0=W2.alloc (.cells #[.string ⟨#[]⟩,.string ⟨#[]⟩,.int .i64 0,.int .i64 0] 24):=by rw[hW2,hW1];exact hW0
 have hs1:W1.heap.size=w.heap.size+1:=by rw[hW1];simp
 have hs2:W2.heap.size=w.heap.size+2:=by rw[hW2];simp[hs1]
 have hs0:W0.heap.size=w.heap.size+3:=by rw[e0];simp[hs2]
 have b12:Below W1.heap.size W1 W2:=by rw[hW2];exact(Below.refl _ _).alloc (Nat.le_refl _) _
 have b20:Below W2.heap.size W2 W0:=by rw[e0];exact(Below.refl _ _).alloc (Nat.le_refl _) _
 have r1:W1.heap[w.heap.size]?=some (.cells #[vf,.string body,.slice (some ⟨b,0,none⟩) K.length c] 62 (0,0)):=by rw[hW1];exact heap_alloc_at _ _
 have r2:W2.heap[w.heap.size+1]?=some (.cells #[.string d,.string s,.int .i64 0,.int .i64 0] 24 (0,0)):=by rw[← hs1,hW2];exact heap_alloc_at _ _
 have hz:W0.heap[w.heap.size+2]?=some (.cells #[.string ⟨#[]⟩,.string ⟨#[]⟩,.int .i64 0,.int .i64 0] 24 (0,0)):=by rw[← hs2,e0];exact heap_alloc_at _ _
 have r1':=(b20.block _ (show w.heap.size<W2.heap.size by omega)).trans ((b12.block _ (show w.heap.size<W1.heap.size by omega)).trans r1)
 have r2':=(b20.block _ (show w.heap.size+1<W2.heap.size by omega)).trans r2
 have q2:W0.cell? ⟨w.heap.size,2,none⟩=some (.slice (some ⟨b,0,none⟩) K.length c):=by simp[World.cell?,r1']
 have n0:W0.cell? ⟨w.heap.size+1,0,none⟩=some (.string d):=by simp[World.cell?,r2']
 have n1:W0.cell? ⟨w.heap.size+1,1,none⟩=some (.string s):=by simp[World.cell?,r2']
 have n2:W0.cell? ⟨w.heap.size+1,2,none⟩=some (.int .i64 0):=by simp[World.cell?,r2']
 have n3:W0.cell? ⟨w.heap.size+1,3,none⟩=some (.int .i64 0):=by simp[World.cell?,r2']
 have hK0:=hK.below hb0
 obtain⟨R,hR⟩:∃R,Sn.findK d s K=R:=⟨_,rfl⟩
 have HR:Hid (Sn.findK d s (K.drop 0)=R):=hR
 rw[hR]
 have HK:=mkHid hK0
 have HW0:=mkHid hW0
 have HB0:=mkHid hb0
 have HZ:=mkHid hz
 have HN:=mkHid (And.intro n0 (And.intro n1 (And.intro n2 n3)))
 have hl1:w.heap.size<W0.heap.size:=by omega
 have hl2:w.heap.size+1<W0.heap.size:=by omega
 have hl3:w.heap.size+2<W0.heap.size:=by omega
 clear hW0 hb0 hs0 hz hK0 hR hK n0 n1 n2 n3 hs1 hs2 b12 b20 r1 r2 r1' r2' e0 hW1 hW2
 clear W1 W2
 go_enter Tryz.func121,Tryz.ntmps121
 go_wp2_with fail
 rw[← HW0.out]
 go_loopw [10] (fun i wr=>∃ k:Nat,k≤K.length∧i=.int .i64 k∧Hid (Sn.findK d s (K.drop k)=R)∧Below W0.heap.size W0 wr) (fun i _=>K.length-(Lib.intOf i).toNat)
 case atStart=>exact⟨0,Nat.zero_le _,rfl,HR,Below.refl _ _⟩
 case round=>
  obtain⟨k,hk,rfl,hf,hb⟩:=hrel
  clear HR HW0 q2
  have HKr:=HK.out.below hb
  have Hb:=mkHid hb
  have zr:=(hb.block _ hl3).trans HZ.out
  obtain⟨n0,n1,n2,n3⟩:=HN.out
  have m0:=(hb.cell (p:=⟨w.heap.size+1,0,none⟩) hl2).trans n0
  have m1:=(hb.cell (p:=⟨w.heap.size+1,1,none⟩) hl2).trans n1
  have m2:=(hb.cell (p:=⟨w.heap.size+1,2,none⟩) hl2).trans n2
  have m3:=(hb.cell (p:=⟨w.heap.size+1,3,none⟩) hl2).trans n3
  clear n0 n1 n2 n3 hb
  by_cases hlt:k<K.length
  ·obtain⟨c0,c1,c2,c3⟩:=HKr.2 k hlt
   have hst:Hid (Sn.findK d s (K.drop k)=if (K[k].d.toList==d.toList) && (K[k].s.toList==s.toList) then K[k] else Sn.findK d s (K.drop (k+1))):=by
    show _=_
    rw[List.drop_eq_getElem_cons hlt]
    rfl
   generalize K[k]=ky at *
   obtain⟨V,hV⟩:∃V,V=wr.alloc (.cells #[.string ky.d,.string ky.s,.int .i64 ky.A,.int .i64 ky.B] 24):=⟨_,rfl⟩
   have bV:Below wr.heap.size wr V:=by rw[hV];exact(Below.refl _ _).alloc (Nat.le_refl _) _
   have hwz:=Hb.out.size
   have p0:=(bV.cell (p:=⟨w.heap.size+1,0,none⟩) (show w.heap.size+1<wr.heap.size by omega)).trans m0
   have p1:=(bV.cell (p:=⟨w.heap.size+1,1,none⟩) (show w.heap.size+1<wr.heap.size by omega)).trans m1
   have p2:=(bV.cell (p:=⟨w.heap.size+1,2,none⟩) (show w.heap.size+1<wr.heap.size by omega)).trans m2
   have p3:=(bV.cell (p:=⟨w.heap.size+1,3,none⟩) (show w.heap.size+1<wr.heap.size by omega)).trans m3
   have zV:=(bV.block _ (show w.heap.size+2<wr.heap.size by omega)).trans zr
   have HbV:=mkHid (Hb.out.trans (bV.mono hwz))
   rw[hV] at p0 p1 p2 p3 zV
   have HV:=mkHid hV
   clear m0 m1 m2 m3 zr bV hV hwz
   cases hd:(ky.d.toList==d.toList)
   ·have hf2:Hid (Sn.findK d s (K.drop (k+1))=R):=by
     show _=_
     rw[← hf.out,hst.out,hd]
     rfl
    clear hst hf
    go_wp2
    go_roundw
    case rel=>exact⟨k+1,by omega,by go_num,hf2,by rw[← HV.out];exact HbV.out⟩
    case measure=>simp[Lib.intOf];omega
   ·cases hs:(ky.s.toList==s.toList)
    ·have hf2:Hid (Sn.findK d s (K.drop (k+1))=R):=by
      show _=_
      rw[← hf.out,hst.out,hd,hs]
      rfl
     clear hst hf
     go_wp2
     go_roundw
     case rel=>exact⟨k+1,by omega,by go_num,hf2,by rw[← HV.out];exact HbV.out⟩
     case measure=>simp[Lib.intOf];omega
    ·have hf2:Hid (ky=R):=by
      show _=_
      rw[← hf.out,hst.out,hd,hs]
      rfl
     clear hst hf
     go_wp2_with (refine wpL_store_row rfl 24 _ _ rfl (w.heap.size+1+1) #[.string ky.d,.string ky.s,.int .i64 ky.A,.int .i64 ky.B] rfl rfl 24 _ zV (by kernel_rfl) rfl (by simp[Value.oneCell']) ?_)
     refine bodyPost_ret (v:=Sn.kyV ky) (results_cell_row Tryz.results121 _ _ (w.heap.size+1+1) 24 _ (0,0) _ rfl (setRow_heap _ _ _ _ _ _ zV) Tryz.underlying24 rfl (by kernel_rfl)) rfl ⟨by rw[hf2.out],?_⟩
     rw[← HV.out]
     have hq:=HB0.out.trans (HbV.out.mono HB0.out.size)
     exact hq.grown (grown_setRow _ _ _) hq.size (fun j hj=>by cases hj;omega)
  ·have hf2:Hid (Sn.noKy=R):=by
    show _=_
    rw[← hf.out,List.drop_eq_nil_of_le (by omega)]
    rfl
   clear hf
   go_wp2_with (refine wpL_store_row rfl 24 _ _ rfl (w.heap.size+1+1) #[.string ⟨#[]⟩,.string ⟨#[]⟩,.int .i64 0,.int .i64 0] rfl rfl 24 _ zr (by kernel_rfl) rfl (by simp[Value.oneCell']) ?_)
   refine bodyPost_ret (v:=Sn.kyV Sn.noKy) (results_cell_row Tryz.results121 _ _ (w.heap.size+1+1) 24 _ (0,0) _ rfl (setRow_heap _ _ _ _ _ _ zr) Tryz.underlying24 rfl (by kernel_rfl)) rfl ⟨by rw[hf2.out],?_⟩
   have hq:=HB0.out.trans (Hb.out.mono HB0.out.size)
   exact hq.grown (grown_setRow _ _ _) hq.size (fun j hj=>by cases hj;omega)
end Go.Proofs.YtacaoiedcfelcaaGreatDoor
