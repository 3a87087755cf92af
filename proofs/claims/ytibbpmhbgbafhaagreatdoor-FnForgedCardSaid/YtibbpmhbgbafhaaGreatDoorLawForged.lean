import Derived.Test.YtibbpmhbgbafhaaGreatDoorDraw
import Derived.Test.YtibbpmhbgbafhaaGreatDoorSgSpecSign
import Derived.Test.YtibbpmhbgbafhaaGreatDoorDrawKey
import Derived.Test.YtibbpmhbgbafhaaGreatDoorCanonFieldSpec
set_option maxRecDepth 20000
namespace Go.Proofs.YtibbpmhbgbafhaaGreatDoor
open Go.RowKit Go.Lib
theorem lawAtF (o:Option Addr)(c:List UInt8)(cp k:Nat)(w:World)(hc:Code w.heap.size w o c)(hk:k≤10) :
  Calls Tryz.prog 7 #[.slice o c.length cp,.int .i64 k] w fun e w'=>∃ v:Nat,e=.returned (.int .i64 v)∧v<256∧w=w':=by
 by_cases h:k<c.length
 ·obtain⟨a,rfl,ha,hcell⟩:=hc k h
  have h8:c[k].toNat<256:=UInt8.toNat_lt _
  generalize c[k].toNat=x at *
  go_enter Tryz.func7,Tryz.ntmps7
  go_wp2
  go_ret
  exact⟨x,rfl,h8,rfl⟩
 ·go_enter Tryz.func7,Tryz.ntmps7
  go_wp2
  go_ret
  exact⟨(k*61+29) % 256,by first|rfl|(congr 1),Nat.mod_lt _ (by omega),rfl⟩
theorem fieldH3 (a b c d:Value)(w:World):Sem.run Tryz.prog (Instr.field 33 (.agg #[a,b,c,d]) 3) w=.ok d w:=by kernel_rfl
def SgDrawn (W:World)(e:Ending)(w':World):Prop:=∃(msg d s:ByteArray)(A B h b:Int)(on:Option Addr)(M:List ByteArray)(mc:Nat),e=.returned (.tuple #[.string msg,.agg #[.string d,.string s,.int .i64 A,.int .i64 B,.slice on M.length mc,.int .i64 h,.int .i64 b]])∧msg.size≤1048576∧d.size≤1048576∧s.size≤1048576∧M.length≤1048576∧(∀t ∈ M,t.size≤1048576)∧Tx w'.heap.size w' on M∧Below W.heap.size W w'
theorem ba_back (v:ByteArray):(⟨v.data.toList.toArray⟩:ByteArray)=v:=Sn.ba_eq (by simp)
theorem checkForged (msg d s:ByteArray)(A B:Int)(M:List ByteArray)(h:Int)(T:ByteArray)(hT:T=plSign msg d s A B M h 0)(hne:T≠⟨#[]⟩)(k:Nat)(hk1:(RH T).body≤k)(hk2:k<T.data.toList.length)(e:UInt8)(hc:Pl.odd T.data.toList[k])(he:Pl.odd e)(hce:T.data.toList[k]≠e)
  (b c:Nat) (w:World) (hK:Sn.KyL b w [⟨d,s,A,B⟩]) (hW:CkW w) :
  Calls Tryz.prog 8 #[.string ⟨(T.data.toList.set k e).toArray⟩,.slice (some ⟨b,0,none⟩) 1 c] w fun e w'=>∃ (g cap n:Nat),e=.returned (.slice (some ⟨g,0,none⟩) (n+1) cap)∧w'.cell? ⟨g,0,none⟩=some (.string d)∧w'.cell? ⟨g,1,none⟩=some (.int .i64 3)∧Below w.heap.size w w':=by
 obtain⟨v,F,f1,f2,f3⟩:=Sn.forged_at msg d s A B M h T hT hne k hk1 hk2 e hc he hce
 obtain⟨g1,-,-,-,-,-,g7⟩:=Sn.sign_form msg d s A B M h 0 (hT ▸ hne)
 obtain⟨u1,u2,-⟩:=signer_parts d s A B M h 0 g1
 have hz:(⟨(T.data.toList.set k e).toArray⟩:ByteArray).size≤1048576:=by
  show(T.data.toList.set k e).toArray.size≤_
  rw[← hT] at g7
  have:T.data.toList.length=T.size:=by simp
  rw[List.size_toArray,List.length_set]
  omega
 refine(implCheckSigns _ b c [⟨d,s,A,B⟩] w hz f1 _ F f2 (by simp[namedB]) hK (by simp) (fun x hx=>?_) hW).mono ?_
 ·rw[List.mem_singleton] at hx
  subst hx
  exact⟨by show d.size≤_;omega,by show s.size≤_;omega⟩
 ·rintro e' w' ⟨g,cap,C,rfl,hA,hb⟩
  rw[ba_back,ba_back,f3] at hA
  have c0:=World.ownsRow.cells hA (g:=g) rfl 0 (.string d) rfl
  have c1:=World.ownsRow.cells hA (g:=g) rfl 1 (.int .i64 3) rfl
  rw[add_off] at c0 c1
  exact⟨g,cap,C.length,rfl,c0,c1,hb⟩
set_option maxRecDepth 40000 in
set_option maxHeartbeats 16000000 in
theorem walkForged (o1 o2:Option Addr)(c d:List UInt8)(cp1 cp2:Nat)(w:World)(hc:c.length≤1048576)(hd:d.length≤1048576)(hD:Code w.heap.size w o2 d)(hW:CkW w)
  (hDraw:Calls Tryz.prog 4 #[.slice o1 c.length cp1] w (SgDrawn w)) :
  Calls Tryz.prog 3 #[.slice o1 c.length cp1,.slice o2 d.length cp2] w fun e w'=>e=.returned (.bool true)∧Below w.heap.size w w':=by
 have HD:=mkHid hD
 have HW:=mkHid hW
 clear hD hW
 go_enter Tryz.func3,Tryz.ntmps3
 go_wp2_with fail
 refine hDraw.mono ?_
 rintro e w1 ⟨msg,dm,s,A,B,h,b0,on,M,mc,rfl,z1,z2,z3,z4,z5,hT,hb1⟩
 clear hDraw
 obtain⟨W2,hW2⟩:∃W,W=w1.alloc (.cells #[.string dm,.string s,.int .i64 A,.int .i64 B,.slice on M.length mc,.int .i64 h,.int .i64 0] 27):=⟨_,rfl⟩
 have hs1:w.heap.size≤w1.heap.size:=hb1.size
 have b12:Below w1.heap.size w1 W2:=by rw[hW2];exact(Below.refl _ _).alloc (Nat.le_refl _) _
 have hs2:W2.heap.size=w1.heap.size+1:=by rw[hW2];simp
 have r2:W2.heap[w1.heap.size]?=some (.cells #[.string dm,.string s,.int .i64 A,.int .i64 B,.slice on M.length mc,.int .i64 h,.int .i64 0] 27 (0,0)):=by rw[hW2];exact heap_alloc_at _ _
 have hT2:Tx W2.heap.size W2 on M:=fun k hk=>by
  obtain⟨a,ha,hal,hac⟩:=(hT.below b12) k hk
  exact⟨a,ha,by omega,hac⟩
 have cS:=mkHid (specSign msg dm s A B h 0 on M mc W2 z1 z2 z3 hT2 z4 z5)
 have HB2:=mkHid (hb1.trans (b12.mono hs1))
 have HR2:=mkHid r2
 have HW2:=mkHid hW2
 clear hT hT2 b12 r2 hW2 hb1 z2 z3 z4 z5
 go_wp2_with fail
 rw[← HW2.out]
 refine cS.out.mono ?_
 rintro e w3 ⟨rfl,hb3⟩
 clear cS HW2
 have hs3:=hb3.size
 have HB3:=mkHid (HB2.out.trans (hb3.mono (by omega)))
 have HR3:=mkHid ((hb3.block _ (show w1.heap.size<W2.heap.size by omega)).trans HR2.out)
 clear HB2 HR2 hb3
 have HG:=mkHid (fun hne=>Sn.sign_form msg dm s A B M h 0 hne)
 obtain⟨T,hTe⟩:∃T,T=plSign msg dm s A B M h 0:=⟨_,rfl⟩
 rw[← hTe] at HG ⊢
 have HTe:=mkHid hTe
 clear hTe
 by_cases hT0:T=⟨#[]⟩
 ·subst hT0
  clear HG
  go_wp2
  go_ret
  exact⟨rfl,HB3.out⟩
 have hT1:T.toList.isEmpty=false:=by
  rw[ByteArray.toList_eq,List.isEmpty_eq_false_iff]
  exact fun e=>hT0 (Sn.ba_eq e)
 obtain⟨-,-,-,-,-,-,hTz⟩:=HG.out hT0
 have cH:=mkHid (fun W=>specRH T W (by omega))
 go_wp2_with fail
 refine(cH.out _).mono ?_
 rintro e w4 ⟨oh,ch,rfl,-,hb4⟩
 clear cH
 have hs4:=hb4.size
 have HB4:=mkHid (HB3.out.trans (hb4.mono (by omega)))
 have HR4:=mkHid ((hb4.block _ (heap_lt HR3.out)).trans HR3.out)
 have hRb:=RH_body T
 obtain⟨Bd,hBd⟩:∃n,n=(RH T).body:=⟨_,rfl⟩
 unfold hdV
 rw[← hBd] at hRb ⊢
 have HBd:=mkHid hBd
 clear hBd hb4 HB3 HR3 hT1
 go_wp2_with fail
 rw[fieldH3]
 obtain⟨N,hN⟩:∃N,T.size=Bd+N:=⟨T.size-Bd,by omega⟩
 have hsub:(T.size:Int)-(Bd:Int)=(N:Int):=by omega
 have hN1:Bd+N≤T.size:=by omega
 have hN2:T.size≤Bd+N:=by omega
 clear hN
 by_cases hn1:N<1
 ·have hn1':(N:Int)<1:=by omega
  clear HG
  go_wp2
  go_ret
  exact⟨rfl,HB4.out⟩
 have hn1':¬(N:Int)<1:=by omega
 have hN0:¬(N:Int)=0:=by omega
 have hL0:=mkHid (fun W (hW:Below w.heap.size w W)=>lawAtF o2 d cp2 0 W ((HD.out.below hW).mono hW.size) (by omega))
 have hL1:=mkHid (fun W (hW:Below w.heap.size w W)=>lawAtF o2 d cp2 1 W ((HD.out.below hW).mono hW.size) (by omega))
 have hL2:=mkHid (fun W (hW:Below w.heap.size w W)=>lawAtF o2 d cp2 2 W ((HD.out.below hW).mono hW.size) (by omega))
 obtain⟨cap,W,hcv,hh,hbW⟩:=bytesOf (P:=Tryz.prog) 9 22 Tryz.underlying9 Tryz.underlying22 Tryz.underlying5 T w4
 obtain⟨gb,hgb⟩:∃gb,w4.heap.size=gb:=⟨_,rfl⟩
 rw[hgb] at hcv hh
 have Hh:=mkHid hh
 have HW6:=mkHid (HB4.out.trans (hbW.mono (by omega)))
 have HR6:=mkHid ((hbW.block _ (heap_lt HR4.out)).trans HR4.out)
 have hwg:w1.heap.size<gb:=by rw[← hgb];exact heap_lt HR4.out
 have hs6:=hbW.size
 clear hh hbW hgb HR4
 go_wp2_with fail
 refine(hL0.out _ HB4.out).mono ?_
 rintro e w5 ⟨m0,rfl,hm0,rfl⟩
 go_wp2_with fail
 refine(hL1.out _ HB4.out).mono ?_
 rintro e w5 ⟨m1,rfl,hm1,rfl⟩
 obtain⟨j,hj⟩:∃j,(m0*256+m1) % N=j:=⟨_,rfl⟩
 have hjl:j<N:=by rw[← hj];exact Nat.mod_lt _ (by omega)
 have hjI:((m0:Int)*256+(m1:Int)) % (N:Int)=(j:Int):=by rw[← hj];rfl
 obtain⟨k,hk⟩:∃k,k=Bd+j:=⟨_,rfl⟩
 have hkI:(Bd:Int)+(j:Int)=(k:Int):=by omega
 have hkT:k<T.data.toList.length:=by
  have e:T.data.toList.length=T.size:=by simp
  omega
 have hkI2:(k:Int)<(T.size:Int):=by omega
 have hk1:k≤Bd+j:=by omega
 have hk2:Bd+j≤k:=by omega
 clear hj hk hL0 hL1 hn1' HB4
 obtain⟨hcb,hfb⟩:=Hh.out k hkT
 have h8:(T.data.toList[k]).toNat<256:=UInt8.toNat_lt _
 generalize hbq:T.data.toList[k]=bq at *
 by_cases h32:(bq.toNat:Int)<32
 ·clear HG
  go_wp2
  go_ret
  exact⟨rfl,HW6.out⟩
 go_wp2_with fail
 refine(hL2.out _ HW6.out).mono ?_
 rintro e w5 ⟨m2,rfl,hm2,rfl⟩
 clear hL2
 obtain⟨q,hq⟩:∃q,q=(bq.toNat+62+m2 % 93) % 94:=⟨_,rfl⟩
 have hqI:((bq.toNat:Int)-33+1+(m2:Int) % 93) % 94=(q:Int):=by omega
 have hq94:q<94:=by rw[hq];exact Nat.mod_lt _ (by decide)
 have hqn:bq.toNat≤126→33+q≠bq.toNat:=by omega
 obtain⟨r,hr⟩:∃r:UInt8,r=UInt8.ofNat (33+q):=⟨_,rfl⟩
 have hrn:r.toNat=33+q:=by rw[hr];simp;omega
 have hrI:(33:Int)+(q:Int)=(r.toNat:Int):=by omega
 have hq0:¬r.toNat=13∧¬r.toNat=10:=by omega
 have hrb:bq.toNat≤126→¬(r.toNat:Int)=(bq.toNat:Int):=by omega
 have h32':32≤bq.toNat:=by omega
 have hodd:Pl.odd bq:=⟨fun e=>by rw[e] at h32';exact absurd h32' (by decide),fun e=>by rw[e] at h32';exact absurd h32' (by decide)⟩
 have HkB:Hid ((RH T).body≤k):=by show _≤_;rw[← HBd.out];omega
 have HkT:=mkHid hkT
 have Hbq:=mkHid hbq
 have Hodd:=mkHid hodd
 have Hro:Hid (Pl.odd r):=⟨fun e=>hq0.1 (by rw[e];rfl),fun e=>hq0.2 (by rw[e];rfl)⟩
 have hTl:T.data.toList.length=T.size:=by simp
 have HTl:=mkHid hTl
 clear hq hr hrn hqn hq94 h32 hq0 hodd hbq hTl
 by_cases h126:bq.toNat≤126
 ·have h126':¬126<(bq.toNat:Int):=by omega
  have hrb':=hrb h126
  clear hrb
  go_wp2_with fail
  have hX:Hid (HoldsB gb (T.data.toList.set k r) (W.setCell ⟨gb,k,none⟩ (.int .u8 (r.toNat:Int)))):=HoldsB.set Hh.out k HkT.out r
  have hback:=HoldsB.back (P:=Tryz.prog) (cap:=cap) hX.out 22 9 Tryz.underlying22 Tryz.underlying5 Tryz.underlying9
  rw[List.length_set,HTl.out] at hback
  have hr7:(W.setCell ⟨gb,k,none⟩ (.int .u8 (r.toNat:Int))).heap[w1.heap.size]?=some (.cells #[.string dm,.string s,.int .i64 A,.int .i64 B,.slice on M.length mc,.int .i64 h,.int .i64 0] 27 (0,0)):=(heap_setCell_other _ _ _ _ (by show w1.heap.size≠gb;omega)).trans HR6.out
  have hbX:Below w.heap.size w (W.setCell ⟨gb,k,none⟩ (.int .u8 (r.toNat:Int))):=HW6.out.grown (grown_set _ gb k _) HW6.out.size (fun j hj=>by cases hj;omega)
  have hck:=mkHid (checkForged msg dm s A B M h T HTe.out hT0 k HkB.out HkT.out r (Hbq.out ▸ Hodd.out) Hro.out (by rw[Hbq.out];exact(fun e=>hrb' (by rw[e]))))
  generalize (⟨(T.data.toList.set k r).toArray⟩:ByteArray)=t9 at *
  generalize W.setCell ⟨gb,k,none⟩ (.int .u8 (r.toNat:Int))=X at *
  have HB7:=mkHid hbX
  have HR7:=mkHid hr7
  have k0:X.cell? ⟨w1.heap.size,0,none⟩=some (.string dm):=by simp[World.cell?,hr7]
  have k1:X.cell? ⟨w1.heap.size,1,none⟩=some (.string s):=by simp[World.cell?,hr7]
  have k2:X.cell? ⟨w1.heap.size,2,none⟩=some (.int .i64 A):=by simp[World.cell?,hr7]
  have k3:X.cell? ⟨w1.heap.size,3,none⟩=some (.int .i64 B):=by simp[World.cell?,hr7]
  obtain⟨V,hV⟩:∃V,V=X.alloc (.cells #[.string dm,.string s,.int .i64 A,.int .i64 B] 24):=⟨_,rfl⟩
  have bV:Below X.heap.size X V:=by rw[hV];exact(Below.refl _ _).alloc (Nat.le_refl _) _
  have rV:V.heap[X.heap.size]?=some (.cells #[.string dm,.string s,.int .i64 A,.int .i64 B] 24 (0,0)):=by rw[hV];exact heap_alloc_at _ _
  have hKy:Sn.KyL X.heap.size V [⟨dm,s,A,B⟩]:=⟨heap_lt rV,fun j hj=>by
   have h0:j=0:=by simpa using hj
   subst h0
   refine⟨?_,?_,?_,?_⟩<;>simp[World.cell?,rV]⟩
  have hBV:Below w.heap.size w V:=hbX.trans (bV.mono hbX.size)
  have HBV:=mkHid hBV
  have HRV:=mkHid ((bV.block _ (heap_lt hr7)).trans hr7)
  have cK:=mkHid (hck.out X.heap.size 1 V hKy (HW.out.below hBV))
  have HV:=mkHid hV
  clear hck hX hr7 hbX bV rV hKy hBV hV
  rw[hback]
  go_wp2_with fail
  rw[← HV.out]
  refine cK.out.mono ?_
  rintro e' w9 ⟨g9,cap9,n9,rfl,e0,e1,hb9⟩
  have hr9:=(hb9.block _ (heap_lt HRV.out)).trans HRV.out
  have y0:w9.cell? ⟨w1.heap.size,0,none⟩=some (.string dm):=by simp[World.cell?,hr9]
  have hdd:(dm.toList==dm.toList)=true:=by simp
  have hn9:(0:Int)<(n9:Int)+1:=by omega
  have HB9:=mkHid (HBV.out.trans (hb9.mono HBV.out.size))
  clear cK HV hb9 hr9 k0 k1 k2 k3 hback
  go_wp2_with fail
  have hS9:w9.drew.cell? ⟨g9,0,none⟩=some (.string dm)∧w9.drew.cell? ⟨g9,1,none⟩=some (.int .i64 3)∧w9.drew.cell? ⟨w1.heap.size,0,none⟩=some (.string dm):=⟨e0,e1,y0⟩
  refine wp_region_held (S:=(fun W=>W.cell? ⟨g9,0,none⟩=some (.string dm)∧W.cell? ⟨g9,1,none⟩=some (.int .i64 3)∧W.cell? ⟨w1.heap.size,0,none⟩=some (.string dm))) (by kernel_rfl) ?_
  refine wpAnyH_take (S:=(fun W=>W.cell? ⟨g9,0,none⟩=some (.string dm)∧W.cell? ⟨g9,1,none⟩=some (.int .i64 3)∧W.cell? ⟨w1.heap.size,0,none⟩=some (.string dm))) (i:=0) (v:=.slice (some ⟨g9,0,none⟩) (n9+1) cap9) rfl (by kernel_rfl) (by kernel_rfl) (by kernel_rfl) (fun _ _ _ h=>h) (Or.inl ⟨by rfl,?_⟩) hS9 ?_
  ·rintro W9 ⟨s0,s1,s2⟩
   go_simp
  go_simp
  refine wpAnyH_take (S:=(fun W=>W.cell? ⟨g9,0,none⟩=some (.string dm)∧W.cell? ⟨g9,1,none⟩=some (.int .i64 3)∧W.cell? ⟨w1.heap.size,0,none⟩=some (.string dm))) (i:=1) (v:=.int .i64 ((n9:Int)+1)) rfl (by kernel_rfl) (by kernel_rfl) (by kernel_rfl) (fun _ _ _ h=>h) (Or.inl ⟨by rfl,?_⟩) hS9 ?_
  ·rintro W9 ⟨s0,s1,s2⟩
   go_simp
  go_simp
  refine wpAnyH_take (S:=(fun W=>W.cell? ⟨g9,0,none⟩=some (.string dm)∧W.cell? ⟨g9,1,none⟩=some (.int .i64 3)∧W.cell? ⟨w1.heap.size,0,none⟩=some (.string dm))) (i:=2) (v:=.bool true) rfl (by kernel_rfl) (by kernel_rfl) (by kernel_rfl) (fun _ _ _ h=>h) (Or.inl ⟨by rfl,?_⟩) hS9 ?_
  ·rintro W9 ⟨s0,s1,s2⟩
   go_simp
  go_simp
  refine wpAnyH_take (S:=(fun W=>W.cell? ⟨g9,0,none⟩=some (.string dm)∧W.cell? ⟨g9,1,none⟩=some (.int .i64 3)∧W.cell? ⟨w1.heap.size,0,none⟩=some (.string dm))) (i:=3) (v:=.bool true) rfl (by kernel_rfl) (by kernel_rfl) (by kernel_rfl) (fun _ _ _ h=>h) (Or.inl ⟨by rfl,?_⟩) hS9 ?_
  ·rintro W9 ⟨s0,s1,s2⟩
   go_simp
  go_simp
  refine wpAnyH_take (S:=(fun W=>W.cell? ⟨g9,0,none⟩=some (.string dm)∧W.cell? ⟨g9,1,none⟩=some (.int .i64 3)∧W.cell? ⟨w1.heap.size,0,none⟩=some (.string dm))) (i:=4) (v:=.slice (some ⟨g9,0,none⟩) (n9+1) cap9) rfl (by kernel_rfl) (by kernel_rfl) (by kernel_rfl) (fun _ _ _ h=>h) (Or.inl ⟨by rfl,?_⟩) hS9 ?_
  ·rintro W9 ⟨s0,s1,s2⟩
   go_simp
  go_simp
  refine wpAnyH_take (S:=(fun W=>W.cell? ⟨g9,0,none⟩=some (.string dm)∧W.cell? ⟨g9,1,none⟩=some (.int .i64 3)∧W.cell? ⟨w1.heap.size,0,none⟩=some (.string dm))) (i:=5) (v:=.pointer (some ⟨g9,0,none⟩)) rfl (by kernel_rfl) (by kernel_rfl) (by kernel_rfl) (fun _ _ _ h=>h) (Or.inl ⟨by rfl,?_⟩) hS9 ?_
  ·rintro W9 ⟨s0,s1,s2⟩
   go_simp
  go_simp
  refine wpAnyH_take (S:=(fun W=>W.cell? ⟨g9,0,none⟩=some (.string dm)∧W.cell? ⟨g9,1,none⟩=some (.int .i64 3)∧W.cell? ⟨w1.heap.size,0,none⟩=some (.string dm))) (i:=6) (v:=.pointer (some ⟨g9,1,none⟩)) rfl (by kernel_rfl) (by kernel_rfl) (by kernel_rfl) (fun _ _ _ h=>h) (Or.inl ⟨by rfl,?_⟩) hS9 ?_
  ·rintro W9 ⟨s0,s1,s2⟩
   go_simp
  go_simp
  refine wpAnyH_take (S:=(fun W=>W.cell? ⟨g9,0,none⟩=some (.string dm)∧W.cell? ⟨g9,1,none⟩=some (.int .i64 3)∧W.cell? ⟨w1.heap.size,0,none⟩=some (.string dm))) (i:=7) (v:=.int .i64 3) rfl (by kernel_rfl) (by kernel_rfl) (by kernel_rfl) (fun _ _ _ h=>h) (Or.inl ⟨by rfl,?_⟩) hS9 ?_
  ·rintro W9 ⟨s0,s1,s2⟩
   go_simp
  go_simp
  refine wpAnyH_take (S:=(fun W=>W.cell? ⟨g9,0,none⟩=some (.string dm)∧W.cell? ⟨g9,1,none⟩=some (.int .i64 3)∧W.cell? ⟨w1.heap.size,0,none⟩=some (.string dm))) (i:=8) (v:=.bool true) rfl (by kernel_rfl) (by kernel_rfl) (by kernel_rfl) (fun _ _ _ h=>h) (Or.inl ⟨by rfl,?_⟩) hS9 ?_
  ·rintro W9 ⟨s0,s1,s2⟩
   go_simp
  go_simp
  refine wpAnyH_take (S:=(fun W=>W.cell? ⟨g9,0,none⟩=some (.string dm)∧W.cell? ⟨g9,1,none⟩=some (.int .i64 3)∧W.cell? ⟨w1.heap.size,0,none⟩=some (.string dm))) (i:=9) (v:=.bool true) rfl (by kernel_rfl) (by kernel_rfl) (by kernel_rfl) (fun _ _ _ h=>h) (Or.inl ⟨by rfl,?_⟩) hS9 ?_
  ·rintro W9 ⟨s0,s1,s2⟩
   go_simp
  go_simp
  refine wpAnyH_take (S:=(fun W=>W.cell? ⟨g9,0,none⟩=some (.string dm)∧W.cell? ⟨g9,1,none⟩=some (.int .i64 3)∧W.cell? ⟨w1.heap.size,0,none⟩=some (.string dm))) (i:=10) (v:=.bool true) rfl (by kernel_rfl) (by kernel_rfl) (by kernel_rfl) (fun _ _ _ h=>h) (Or.inl ⟨by rfl,?_⟩) hS9 ?_
  ·rintro W9 ⟨s0,s1,s2⟩
   go_simp
  go_simp
  refine wpAnyH_take (S:=(fun W=>W.cell? ⟨g9,0,none⟩=some (.string dm)∧W.cell? ⟨g9,1,none⟩=some (.int .i64 3)∧W.cell? ⟨w1.heap.size,0,none⟩=some (.string dm))) (i:=11) (v:=.slice (some ⟨g9,0,none⟩) (n9+1) cap9) rfl (by kernel_rfl) (by kernel_rfl) (by kernel_rfl) (fun _ _ _ h=>h) (Or.inl ⟨by rfl,?_⟩) hS9 ?_
  ·rintro W9 ⟨s0,s1,s2⟩
   go_simp
  go_simp
  refine wpAnyH_take (S:=(fun W=>W.cell? ⟨g9,0,none⟩=some (.string dm)∧W.cell? ⟨g9,1,none⟩=some (.int .i64 3)∧W.cell? ⟨w1.heap.size,0,none⟩=some (.string dm))) (i:=12) (v:=.pointer (some ⟨g9,0,none⟩)) rfl (by kernel_rfl) (by kernel_rfl) (by kernel_rfl) (fun _ _ _ h=>h) (Or.inl ⟨by rfl,?_⟩) hS9 ?_
  ·rintro W9 ⟨s0,s1,s2⟩
   go_simp
  go_simp
  refine wpAnyH_take (S:=(fun W=>W.cell? ⟨g9,0,none⟩=some (.string dm)∧W.cell? ⟨g9,1,none⟩=some (.int .i64 3)∧W.cell? ⟨w1.heap.size,0,none⟩=some (.string dm))) (i:=13) (v:=.pointer (some ⟨g9,0,none⟩)) rfl (by kernel_rfl) (by kernel_rfl) (by kernel_rfl) (fun _ _ _ h=>h) (Or.inl ⟨by rfl,?_⟩) hS9 ?_
  ·rintro W9 ⟨s0,s1,s2⟩
   go_simp
  go_simp
  refine wpAnyH_take (S:=(fun W=>W.cell? ⟨g9,0,none⟩=some (.string dm)∧W.cell? ⟨g9,1,none⟩=some (.int .i64 3)∧W.cell? ⟨w1.heap.size,0,none⟩=some (.string dm))) (i:=14) (v:=.string dm) rfl (by kernel_rfl) (by kernel_rfl) (by kernel_rfl) (fun _ _ _ h=>h) (Or.inl ⟨by rfl,?_⟩) hS9 ?_
  ·rintro W9 ⟨s0,s1,s2⟩
   go_simp
  go_simp
  refine wpAnyH_take (S:=(fun W=>W.cell? ⟨g9,0,none⟩=some (.string dm)∧W.cell? ⟨g9,1,none⟩=some (.int .i64 3)∧W.cell? ⟨w1.heap.size,0,none⟩=some (.string dm))) (i:=15) (v:=.pointer (some ⟨w1.heap.size,0,none⟩)) rfl (by kernel_rfl) (by kernel_rfl) (by kernel_rfl) (fun _ _ _ h=>h) (Or.inl ⟨by rfl,?_⟩) hS9 ?_
  ·rintro W9 ⟨s0,s1,s2⟩
   go_simp
  go_simp
  refine wpAnyH_take (S:=(fun W=>W.cell? ⟨g9,0,none⟩=some (.string dm)∧W.cell? ⟨g9,1,none⟩=some (.int .i64 3)∧W.cell? ⟨w1.heap.size,0,none⟩=some (.string dm))) (i:=16) (v:=.pointer (some ⟨w1.heap.size,0,none⟩)) rfl (by kernel_rfl) (by kernel_rfl) (by kernel_rfl) (fun _ _ _ h=>h) (Or.inl ⟨by rfl,?_⟩) hS9 ?_
  ·rintro W9 ⟨s0,s1,s2⟩
   go_simp
  go_simp
  refine wpAnyH_take (S:=(fun W=>W.cell? ⟨g9,0,none⟩=some (.string dm)∧W.cell? ⟨g9,1,none⟩=some (.int .i64 3)∧W.cell? ⟨w1.heap.size,0,none⟩=some (.string dm))) (i:=17) (v:=.string dm) rfl (by kernel_rfl) (by kernel_rfl) (by kernel_rfl) (fun _ _ _ h=>h) (Or.inl ⟨by rfl,?_⟩) hS9 ?_
  ·rintro W9 ⟨s0,s1,s2⟩
   go_simp
  go_simp
  refine wpAnyH_take (S:=(fun W=>W.cell? ⟨g9,0,none⟩=some (.string dm)∧W.cell? ⟨g9,1,none⟩=some (.int .i64 3)∧W.cell? ⟨w1.heap.size,0,none⟩=some (.string dm))) (i:=18) (v:=.bool true) rfl (by kernel_rfl) (by kernel_rfl) (by kernel_rfl) (fun _ _ _ h=>h) (Or.inl ⟨by rfl,?_⟩) hS9 ?_
  ·rintro W9 ⟨s0,s1,s2⟩
   go_simp
  go_simp
  refine wpAnyH_take (S:=(fun W=>W.cell? ⟨g9,0,none⟩=some (.string dm)∧W.cell? ⟨g9,1,none⟩=some (.int .i64 3)∧W.cell? ⟨w1.heap.size,0,none⟩=some (.string dm))) (i:=19) (v:=.bool true) rfl (by kernel_rfl) (by kernel_rfl) (by kernel_rfl) (fun _ _ _ h=>h) (Or.inl ⟨by rfl,?_⟩) hS9 ?_
  ·rintro W9 ⟨s0,s1,s2⟩
   go_simp
  go_simp
  refine wpAnyH_take (S:=(fun W=>W.cell? ⟨g9,0,none⟩=some (.string dm)∧W.cell? ⟨g9,1,none⟩=some (.int .i64 3)∧W.cell? ⟨w1.heap.size,0,none⟩=some (.string dm))) (i:=20) (v:=.bool true) rfl (by kernel_rfl) (by kernel_rfl) (by kernel_rfl) (fun _ _ _ h=>h) (Or.inl ⟨by rfl,?_⟩) hS9 ?_
  ·rintro W9 ⟨s0,s1,s2⟩
   go_simp
  go_simp
  refine wpAnyH_done (by kernel_rfl) ?_ _
  go_wp2
  go_ret
  exact⟨rfl,HB9.out.drew⟩
 have h126':126<(bq.toNat:Int):=by omega
 have h120:¬(120:Int)=(bq.toNat:Int):=by omega
 go_wp2_with fail
 ·skip
  have hX:Hid (HoldsB gb (T.data.toList.set k 120) ((W.setCell ⟨gb,k,none⟩ (.int .u8 (r.toNat:Int))).setCell ⟨gb,k,none⟩ (.int .u8 120))):=by
   have h1:=HoldsB.set Hh.out k HkT.out r
   have h2:=HoldsB.set h1 k (by rw[List.length_set];exact HkT.out) 120
   rw[List.set_set] at h2
   exact h2
  have hback:=HoldsB.back (P:=Tryz.prog) (cap:=cap) hX.out 22 9 Tryz.underlying22 Tryz.underlying5 Tryz.underlying9
  rw[List.length_set,HTl.out] at hback
  have hr7:((W.setCell ⟨gb,k,none⟩ (.int .u8 (r.toNat:Int))).setCell ⟨gb,k,none⟩ (.int .u8 120)).heap[w1.heap.size]?=some (.cells #[.string dm,.string s,.int .i64 A,.int .i64 B,.slice on M.length mc,.int .i64 h,.int .i64 0] 27 (0,0)):=(heap_setCell_other _ _ _ _ (by show w1.heap.size≠gb;omega)).trans ((heap_setCell_other _ _ _ _ (by show w1.heap.size≠gb;omega)).trans HR6.out)
  have hbX:Below w.heap.size w ((W.setCell ⟨gb,k,none⟩ (.int .u8 (r.toNat:Int))).setCell ⟨gb,k,none⟩ (.int .u8 120)):=(HW6.out.grown (grown_set _ gb k _) HW6.out.size (fun j hj=>by cases hj;omega)).grown (grown_set _ gb k _) (by simp[World.setCell];exact HW6.out.size) (fun j hj=>by cases hj;omega)
  have hck:=mkHid (checkForged msg dm s A B M h T HTe.out hT0 k HkB.out HkT.out 120 (Hbq.out ▸ Hodd.out) ⟨by decide,by decide⟩ (by rw[Hbq.out];exact(fun e=>h120 (by rw[e];rfl))))
  generalize (⟨(T.data.toList.set k 120).toArray⟩:ByteArray)=t9 at *
  generalize (W.setCell ⟨gb,k,none⟩ (.int .u8 (r.toNat:Int))).setCell ⟨gb,k,none⟩ (.int .u8 120)=X at *
  have HB7:=mkHid hbX
  have HR7:=mkHid hr7
  have k0:X.cell? ⟨w1.heap.size,0,none⟩=some (.string dm):=by simp[World.cell?,hr7]
  have k1:X.cell? ⟨w1.heap.size,1,none⟩=some (.string s):=by simp[World.cell?,hr7]
  have k2:X.cell? ⟨w1.heap.size,2,none⟩=some (.int .i64 A):=by simp[World.cell?,hr7]
  have k3:X.cell? ⟨w1.heap.size,3,none⟩=some (.int .i64 B):=by simp[World.cell?,hr7]
  obtain⟨V,hV⟩:∃V,V=X.alloc (.cells #[.string dm,.string s,.int .i64 A,.int .i64 B] 24):=⟨_,rfl⟩
  have bV:Below X.heap.size X V:=by rw[hV];exact(Below.refl _ _).alloc (Nat.le_refl _) _
  have rV:V.heap[X.heap.size]?=some (.cells #[.string dm,.string s,.int .i64 A,.int .i64 B] 24 (0,0)):=by rw[hV];exact heap_alloc_at _ _
  have hKy:Sn.KyL X.heap.size V [⟨dm,s,A,B⟩]:=⟨heap_lt rV,fun j hj=>by
   have h0:j=0:=by simpa using hj
   subst h0
   refine⟨?_,?_,?_,?_⟩<;>simp[World.cell?,rV]⟩
  have hBV:Below w.heap.size w V:=hbX.trans (bV.mono hbX.size)
  have HBV:=mkHid hBV
  have HRV:=mkHid ((bV.block _ (heap_lt hr7)).trans hr7)
  have cK:=mkHid (hck.out X.heap.size 1 V hKy (HW.out.below hBV))
  have HV:=mkHid hV
  clear hck hX hr7 hbX bV rV hKy hBV hV
  rw[hback]
  go_wp2_with fail
  rw[← HV.out]
  refine cK.out.mono ?_
  rintro e' w9 ⟨g9,cap9,n9,rfl,e0,e1,hb9⟩
  have hr9:=(hb9.block _ (heap_lt HRV.out)).trans HRV.out
  have y0:w9.cell? ⟨w1.heap.size,0,none⟩=some (.string dm):=by simp[World.cell?,hr9]
  have hdd:(dm.toList==dm.toList)=true:=by simp
  have hn9:(0:Int)<(n9:Int)+1:=by omega
  have HB9:=mkHid (HBV.out.trans (hb9.mono HBV.out.size))
  clear cK HV hb9 hr9 k0 k1 k2 k3 hback
  go_wp2_with fail
  have hS9:w9.drew.cell? ⟨g9,0,none⟩=some (.string dm)∧w9.drew.cell? ⟨g9,1,none⟩=some (.int .i64 3)∧w9.drew.cell? ⟨w1.heap.size,0,none⟩=some (.string dm):=⟨e0,e1,y0⟩
  refine wp_region_held (S:=(fun W=>W.cell? ⟨g9,0,none⟩=some (.string dm)∧W.cell? ⟨g9,1,none⟩=some (.int .i64 3)∧W.cell? ⟨w1.heap.size,0,none⟩=some (.string dm))) (by kernel_rfl) ?_
  refine wpAnyH_take (S:=(fun W=>W.cell? ⟨g9,0,none⟩=some (.string dm)∧W.cell? ⟨g9,1,none⟩=some (.int .i64 3)∧W.cell? ⟨w1.heap.size,0,none⟩=some (.string dm))) (i:=0) (v:=.slice (some ⟨g9,0,none⟩) (n9+1) cap9) rfl (by kernel_rfl) (by kernel_rfl) (by kernel_rfl) (fun _ _ _ h=>h) (Or.inl ⟨by rfl,?_⟩) hS9 ?_
  ·rintro W9 ⟨s0,s1,s2⟩
   go_simp
  go_simp
  refine wpAnyH_take (S:=(fun W=>W.cell? ⟨g9,0,none⟩=some (.string dm)∧W.cell? ⟨g9,1,none⟩=some (.int .i64 3)∧W.cell? ⟨w1.heap.size,0,none⟩=some (.string dm))) (i:=1) (v:=.int .i64 ((n9:Int)+1)) rfl (by kernel_rfl) (by kernel_rfl) (by kernel_rfl) (fun _ _ _ h=>h) (Or.inl ⟨by rfl,?_⟩) hS9 ?_
  ·rintro W9 ⟨s0,s1,s2⟩
   go_simp
  go_simp
  refine wpAnyH_take (S:=(fun W=>W.cell? ⟨g9,0,none⟩=some (.string dm)∧W.cell? ⟨g9,1,none⟩=some (.int .i64 3)∧W.cell? ⟨w1.heap.size,0,none⟩=some (.string dm))) (i:=2) (v:=.bool true) rfl (by kernel_rfl) (by kernel_rfl) (by kernel_rfl) (fun _ _ _ h=>h) (Or.inl ⟨by rfl,?_⟩) hS9 ?_
  ·rintro W9 ⟨s0,s1,s2⟩
   go_simp
  go_simp
  refine wpAnyH_take (S:=(fun W=>W.cell? ⟨g9,0,none⟩=some (.string dm)∧W.cell? ⟨g9,1,none⟩=some (.int .i64 3)∧W.cell? ⟨w1.heap.size,0,none⟩=some (.string dm))) (i:=3) (v:=.bool true) rfl (by kernel_rfl) (by kernel_rfl) (by kernel_rfl) (fun _ _ _ h=>h) (Or.inl ⟨by rfl,?_⟩) hS9 ?_
  ·rintro W9 ⟨s0,s1,s2⟩
   go_simp
  go_simp
  refine wpAnyH_take (S:=(fun W=>W.cell? ⟨g9,0,none⟩=some (.string dm)∧W.cell? ⟨g9,1,none⟩=some (.int .i64 3)∧W.cell? ⟨w1.heap.size,0,none⟩=some (.string dm))) (i:=4) (v:=.slice (some ⟨g9,0,none⟩) (n9+1) cap9) rfl (by kernel_rfl) (by kernel_rfl) (by kernel_rfl) (fun _ _ _ h=>h) (Or.inl ⟨by rfl,?_⟩) hS9 ?_
  ·rintro W9 ⟨s0,s1,s2⟩
   go_simp
  go_simp
  refine wpAnyH_take (S:=(fun W=>W.cell? ⟨g9,0,none⟩=some (.string dm)∧W.cell? ⟨g9,1,none⟩=some (.int .i64 3)∧W.cell? ⟨w1.heap.size,0,none⟩=some (.string dm))) (i:=5) (v:=.pointer (some ⟨g9,0,none⟩)) rfl (by kernel_rfl) (by kernel_rfl) (by kernel_rfl) (fun _ _ _ h=>h) (Or.inl ⟨by rfl,?_⟩) hS9 ?_
  ·rintro W9 ⟨s0,s1,s2⟩
   go_simp
  go_simp
  refine wpAnyH_take (S:=(fun W=>W.cell? ⟨g9,0,none⟩=some (.string dm)∧W.cell? ⟨g9,1,none⟩=some (.int .i64 3)∧W.cell? ⟨w1.heap.size,0,none⟩=some (.string dm))) (i:=6) (v:=.pointer (some ⟨g9,1,none⟩)) rfl (by kernel_rfl) (by kernel_rfl) (by kernel_rfl) (fun _ _ _ h=>h) (Or.inl ⟨by rfl,?_⟩) hS9 ?_
  ·rintro W9 ⟨s0,s1,s2⟩
   go_simp
  go_simp
  refine wpAnyH_take (S:=(fun W=>W.cell? ⟨g9,0,none⟩=some (.string dm)∧W.cell? ⟨g9,1,none⟩=some (.int .i64 3)∧W.cell? ⟨w1.heap.size,0,none⟩=some (.string dm))) (i:=7) (v:=.int .i64 3) rfl (by kernel_rfl) (by kernel_rfl) (by kernel_rfl) (fun _ _ _ h=>h) (Or.inl ⟨by rfl,?_⟩) hS9 ?_
  ·rintro W9 ⟨s0,s1,s2⟩
   go_simp
  go_simp
  refine wpAnyH_take (S:=(fun W=>W.cell? ⟨g9,0,none⟩=some (.string dm)∧W.cell? ⟨g9,1,none⟩=some (.int .i64 3)∧W.cell? ⟨w1.heap.size,0,none⟩=some (.string dm))) (i:=8) (v:=.bool true) rfl (by kernel_rfl) (by kernel_rfl) (by kernel_rfl) (fun _ _ _ h=>h) (Or.inl ⟨by rfl,?_⟩) hS9 ?_
  ·rintro W9 ⟨s0,s1,s2⟩
   go_simp
  go_simp
  refine wpAnyH_take (S:=(fun W=>W.cell? ⟨g9,0,none⟩=some (.string dm)∧W.cell? ⟨g9,1,none⟩=some (.int .i64 3)∧W.cell? ⟨w1.heap.size,0,none⟩=some (.string dm))) (i:=9) (v:=.bool true) rfl (by kernel_rfl) (by kernel_rfl) (by kernel_rfl) (fun _ _ _ h=>h) (Or.inl ⟨by rfl,?_⟩) hS9 ?_
  ·rintro W9 ⟨s0,s1,s2⟩
   go_simp
  go_simp
  refine wpAnyH_take (S:=(fun W=>W.cell? ⟨g9,0,none⟩=some (.string dm)∧W.cell? ⟨g9,1,none⟩=some (.int .i64 3)∧W.cell? ⟨w1.heap.size,0,none⟩=some (.string dm))) (i:=10) (v:=.bool true) rfl (by kernel_rfl) (by kernel_rfl) (by kernel_rfl) (fun _ _ _ h=>h) (Or.inl ⟨by rfl,?_⟩) hS9 ?_
  ·rintro W9 ⟨s0,s1,s2⟩
   go_simp
  go_simp
  refine wpAnyH_take (S:=(fun W=>W.cell? ⟨g9,0,none⟩=some (.string dm)∧W.cell? ⟨g9,1,none⟩=some (.int .i64 3)∧W.cell? ⟨w1.heap.size,0,none⟩=some (.string dm))) (i:=11) (v:=.slice (some ⟨g9,0,none⟩) (n9+1) cap9) rfl (by kernel_rfl) (by kernel_rfl) (by kernel_rfl) (fun _ _ _ h=>h) (Or.inl ⟨by rfl,?_⟩) hS9 ?_
  ·rintro W9 ⟨s0,s1,s2⟩
   go_simp
  go_simp
  refine wpAnyH_take (S:=(fun W=>W.cell? ⟨g9,0,none⟩=some (.string dm)∧W.cell? ⟨g9,1,none⟩=some (.int .i64 3)∧W.cell? ⟨w1.heap.size,0,none⟩=some (.string dm))) (i:=12) (v:=.pointer (some ⟨g9,0,none⟩)) rfl (by kernel_rfl) (by kernel_rfl) (by kernel_rfl) (fun _ _ _ h=>h) (Or.inl ⟨by rfl,?_⟩) hS9 ?_
  ·rintro W9 ⟨s0,s1,s2⟩
   go_simp
  go_simp
  refine wpAnyH_take (S:=(fun W=>W.cell? ⟨g9,0,none⟩=some (.string dm)∧W.cell? ⟨g9,1,none⟩=some (.int .i64 3)∧W.cell? ⟨w1.heap.size,0,none⟩=some (.string dm))) (i:=13) (v:=.pointer (some ⟨g9,0,none⟩)) rfl (by kernel_rfl) (by kernel_rfl) (by kernel_rfl) (fun _ _ _ h=>h) (Or.inl ⟨by rfl,?_⟩) hS9 ?_
  ·rintro W9 ⟨s0,s1,s2⟩
   go_simp
  go_simp
  refine wpAnyH_take (S:=(fun W=>W.cell? ⟨g9,0,none⟩=some (.string dm)∧W.cell? ⟨g9,1,none⟩=some (.int .i64 3)∧W.cell? ⟨w1.heap.size,0,none⟩=some (.string dm))) (i:=14) (v:=.string dm) rfl (by kernel_rfl) (by kernel_rfl) (by kernel_rfl) (fun _ _ _ h=>h) (Or.inl ⟨by rfl,?_⟩) hS9 ?_
  ·rintro W9 ⟨s0,s1,s2⟩
   go_simp
  go_simp
  refine wpAnyH_take (S:=(fun W=>W.cell? ⟨g9,0,none⟩=some (.string dm)∧W.cell? ⟨g9,1,none⟩=some (.int .i64 3)∧W.cell? ⟨w1.heap.size,0,none⟩=some (.string dm))) (i:=15) (v:=.pointer (some ⟨w1.heap.size,0,none⟩)) rfl (by kernel_rfl) (by kernel_rfl) (by kernel_rfl) (fun _ _ _ h=>h) (Or.inl ⟨by rfl,?_⟩) hS9 ?_
  ·rintro W9 ⟨s0,s1,s2⟩
   go_simp
  go_simp
  refine wpAnyH_take (S:=(fun W=>W.cell? ⟨g9,0,none⟩=some (.string dm)∧W.cell? ⟨g9,1,none⟩=some (.int .i64 3)∧W.cell? ⟨w1.heap.size,0,none⟩=some (.string dm))) (i:=16) (v:=.pointer (some ⟨w1.heap.size,0,none⟩)) rfl (by kernel_rfl) (by kernel_rfl) (by kernel_rfl) (fun _ _ _ h=>h) (Or.inl ⟨by rfl,?_⟩) hS9 ?_
  ·rintro W9 ⟨s0,s1,s2⟩
   go_simp
  go_simp
  refine wpAnyH_take (S:=(fun W=>W.cell? ⟨g9,0,none⟩=some (.string dm)∧W.cell? ⟨g9,1,none⟩=some (.int .i64 3)∧W.cell? ⟨w1.heap.size,0,none⟩=some (.string dm))) (i:=17) (v:=.string dm) rfl (by kernel_rfl) (by kernel_rfl) (by kernel_rfl) (fun _ _ _ h=>h) (Or.inl ⟨by rfl,?_⟩) hS9 ?_
  ·rintro W9 ⟨s0,s1,s2⟩
   go_simp
  go_simp
  refine wpAnyH_take (S:=(fun W=>W.cell? ⟨g9,0,none⟩=some (.string dm)∧W.cell? ⟨g9,1,none⟩=some (.int .i64 3)∧W.cell? ⟨w1.heap.size,0,none⟩=some (.string dm))) (i:=18) (v:=.bool true) rfl (by kernel_rfl) (by kernel_rfl) (by kernel_rfl) (fun _ _ _ h=>h) (Or.inl ⟨by rfl,?_⟩) hS9 ?_
  ·rintro W9 ⟨s0,s1,s2⟩
   go_simp
  go_simp
  refine wpAnyH_take (S:=(fun W=>W.cell? ⟨g9,0,none⟩=some (.string dm)∧W.cell? ⟨g9,1,none⟩=some (.int .i64 3)∧W.cell? ⟨w1.heap.size,0,none⟩=some (.string dm))) (i:=19) (v:=.bool true) rfl (by kernel_rfl) (by kernel_rfl) (by kernel_rfl) (fun _ _ _ h=>h) (Or.inl ⟨by rfl,?_⟩) hS9 ?_
  ·rintro W9 ⟨s0,s1,s2⟩
   go_simp
  go_simp
  refine wpAnyH_take (S:=(fun W=>W.cell? ⟨g9,0,none⟩=some (.string dm)∧W.cell? ⟨g9,1,none⟩=some (.int .i64 3)∧W.cell? ⟨w1.heap.size,0,none⟩=some (.string dm))) (i:=20) (v:=.bool true) rfl (by kernel_rfl) (by kernel_rfl) (by kernel_rfl) (fun _ _ _ h=>h) (Or.inl ⟨by rfl,?_⟩) hS9 ?_
  ·rintro W9 ⟨s0,s1,s2⟩
   go_simp
  go_simp
  refine wpAnyH_done (by kernel_rfl) ?_ _
  go_wp2
  go_ret
  exact⟨rfl,HB9.out.drew⟩
end Go.Proofs.YtibbpmhbgbafhaaGreatDoor
