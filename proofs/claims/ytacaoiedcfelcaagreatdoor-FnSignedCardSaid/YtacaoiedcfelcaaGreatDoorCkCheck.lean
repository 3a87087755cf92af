import Derived.Test.YtacaoiedcfelcaaGreatDoorOwnF
import Derived.Test.YtacaoiedcfelcaaGreatDoorCkKey
import Derived.Test.YtacaoiedcfelcaaGreatDoorCanonImpl
set_option maxRecDepth 20000
set_option maxHeartbeats 16000000
namespace Go.Proofs.YtacaoiedcfelcaaGreatDoor
open Go.RowKit Go.Lib
namespace Sn
theorem nb_small (c:UInt8)(h:Pl.nb (small c)=true):Pl.nb c=true:=by
 by_cases hc:65≤c.toNat∧c.toNat≤90
 ·unfold Pl.nb
  simp only[Bool.and_eq_true,decide_eq_true_eq,Bool.not_eq_true',beq_eq_false_iff_ne]
  exact⟨by omega,by omega,fun e=>by rw[e] at hc;exact absurd hc (by decide)⟩
 ·rwa [small_no c hc] at h
theorem named_ok (n:ByteArray)(hn:namedB n sgName=true):Pl.nameOk n.data.toList=true∧n.size=9:=by
 unfold namedB at hn
 have e:=eq_of_beq hn
 have hl:=congrArg List.length e
 simp only[lower,List.length_map] at hl
 have h9:n.data.toList.length=9:=by rw[hl];rfl
 refine⟨?_,by rw[← h9];simp⟩
 unfold Pl.nameOk
 have hall:n.data.toList.all Pl.nb=true:=by
  have h2:(lower n.data.toList).all Pl.nb=true:=by rw[e];decide
  unfold lower at h2
  rw[List.all_map] at h2
  rw[List.all_eq_true] at h2 ⊢
  exact fun c hc=>nb_small c (h2 c hc)
 rw[hall,Bool.and_true,Bool.and_eq_true]
 refine⟨?_,by rw[h9];decide⟩
 cases hq:n.data.toList with
 | nil=>rw[hq] at h9;cases h9
 | cons _ _=>rfl
theorem own_formN (n v:ByteArray)(h:Int)(hn:namedB n sgName=true)(hv:v.data.toList.all Pl.lb=true)(hs:v.size≤4000)(hh:h=0∨h=1) :
  ∃ p:ByteArray,canonF n v h=p++⟨#[13,10]⟩∧p.size≤5000:=by
 obtain⟨hk,h9⟩:=named_ok n hn
 have ok:Pl.okF (n,v)=true:=Pl.okF_mk _ (by show v.size≤100000;omega) hk (Pl.val_same _ hv)
 have hl:=Pl.line_len (n,v)
 have hne:¬Pl.hd [] [(n,v)]=[]:=by
  rw[Pl.hd,if_pos ok,if_neg (by rw[List.nil_append,hl];show ¬100000<n.size+v.size+3;omega)]
  intro hx
  have:Pl.hd ([]++Pl.line (n,v)) []=Pl.line (n,v):=rfl
  rw[this] at hx
  have:=congrArg List.length hx
  rw[hl] at this
  simp at this
 have hc:=canonF_size n v h
 unfold fsz at hc
 have key:∃p:ByteArray,canonF n v h=p++⟨#[13,10]⟩:=by
  unfold canonF
  rw[if_neg hne]
  rcases hh with rfl|rfl
  ·rw[if_pos rfl];exact⟨_,rfl⟩
  ·rw[if_neg (by omega),if_pos rfl];exact⟨_,rfl⟩
 obtain⟨p,hp⟩:=key
 refine⟨p,hp,?_⟩
 rw[hp,ByteArray.size_append] at hc
 simp only at hc
 omega
def headT (n:ByteArray)(N:List ByteArray)(h:Int)(others:List Fd)(v:ByteArray):ByteArray:=⟨(tkL h N others).toArray⟩++(canonF n v h).extract 0 ((canonF n v h).size-2)
def frontOf (S:Sg):ByteArray:=frontT S.d S.s S.N S.h S.b S.x.toNat S.y.toNat
def resOf (k:Ky)(body n:ByteArray)(others:List Fd)(S:Sg):Int:=
 if keyOk k.A k.B=false then 1 else
 if (S.x==(Ps.sm k.A.toNat 1 (canonAny body S.b).data.toList:Int)) && (S.y==(Ps.sm k.B.toNat 1 (canonAny body S.b).data.toList:Int)) then
  (if (S.p==(Ps.sm k.A.toNat 1 (headT n S.N S.h others (frontOf S)).data.toList:Int)) && (S.q==(Ps.sm k.B.toNat 1 (headT n S.N S.h others (frontOf S)).data.toList:Int)) then 0 else 4)
 else 3
theorem findK_size (d s:ByteArray):∀K:List Ky,(∀k ∈ K,k.d.size≤100000∧k.s.size≤100000)→(findK d s K).d.size≤100000∧(findK d s K).s.size≤100000
 | [],_=>⟨Nat.zero_le _,Nat.zero_le _⟩
 | k::r,h=>by
  unfold findK
  split
  ·exact h k (.head _)
  ·exact findK_size d s r fun x hx=>h x (.tail _ hx)
theorem cutV {P:Program} {c:Go.Code} {a:Act} {w:World} {Q:Exit→Act→World→Prop} (R:Act→Act→World→Prop)(h1:c.wp P (fun x a' w'=>x=.normal∧R a a' w') a w)(h2:∀a' w',R a a' w'→Q .normal a' w'):c.wp P Q a w:=
 Code.wp_mono (fun x a' w' h=>by obtain⟨rfl,h⟩:=h;exact h2 a' w' h) h1
theorem cells2 {w:World} {g:Nat} {c0 c1:Value} {t:TypeId} (h:w.heap[g]?=some (.cells #[c0,c1] t (0,0))):w.cell? ⟨g,0,none⟩=some c0∧w.cell? ⟨g,1,none⟩=some c1:=by
 refine⟨?_,?_⟩<;>simp[World.cell?,h]
theorem cells3 {w:World} {g:Nat} {c0 c1 c2:Value} {t:TypeId} (h:w.heap[g]?=some (.cells #[c0,c1,c2] t (0,0))):w.cell? ⟨g,0,none⟩=some c0∧w.cell? ⟨g,1,none⟩=some c1∧w.cell? ⟨g,2,none⟩=some c2:=by
 refine⟨?_,?_,?_⟩<;>simp[World.cell?,h]
theorem cells4 {w:World} {g:Nat} {c0 c1 c2 c3:Value} {t:TypeId} (h:w.heap[g]?=some (.cells #[c0,c1,c2,c3] t (0,0))):w.cell? ⟨g,0,none⟩=some c0∧w.cell? ⟨g,1,none⟩=some c1∧w.cell? ⟨g,2,none⟩=some c2∧w.cell? ⟨g,3,none⟩=some c3:=by
 refine⟨?_,?_,?_,?_⟩<;>simp[World.cell?,h]
theorem sg_ok {d s:ByteArray} {N:List ByteArray} {h b:Int} (g1:says d s N h b=true):signerOk d s 1 1 N h b=true:=by
 unfold signerOk
 unfold Sn.says at g1
 simp only[Bool.and_eq_true] at g1 ⊢
 exact⟨g1.1,g1.2.1,by decide,g1.2.2⟩
end Sn
set_option maxRecDepth 40000 in
theorem implResultOf (Bf:Nat)(vf:Value)(F:List Fl)(body:ByteArray)(b c gN:Nat)(K:List Sn.Ky)(d s:ByteArray)(N:List ByteArray)(h bb:Int)(x y p q:Nat)(i:Nat)(w:World)
  (hF:OwnF Bf vf F w) (hfl:F.length≤200) (hfz:∀f ∈ F,f.1.length≤100000∧f.2.length≤100000) (hfs:fsum (toBA F)≤100002) (hi:i<F.length) (hn:namedB ⟨F[i].1.toArray⟩ sgName=true)
  (hbody:body.size≤100000) (hK:Sn.KyL b w K) (hl:K.length≤100) (hkz:∀k ∈ K,k.d.size≤100000∧k.s.size≤100000)
  (hs:Sn.says d s N h bb=true) (hx:x<2147483647) (hy:y<2147483647)
  (hT:∀(j:Nat) t,N[j]?=some t→w.cell? ⟨gN,j,none⟩=some (.string t)) (hgN:gN<w.heap.size) (hW:CkW w) :
  Calls Tryz.prog 79 #[.agg #[vf,.string body,.slice (some ⟨b,0,none⟩) K.length c],.agg (sgCells d s 0 0 (.slice (some ⟨gN,0,none⟩) N.length N.length) h bb x y p q),.int .i64 i] w fun e w'=>e=.returned (.int .i64 (Sn.resOf (Sn.findK d s K) body ⟨F[i].1.toArray⟩ (toBA (F.eraseIdx i)) ⟨d,s,N,h,bb,x,y,p,q⟩))∧Below w.heap.size w w':=by
 obtain⟨gf,cap,rfl⟩:∃g cap,vf=.slice (some ⟨g,0,none⟩) F.length cap:=by
  rcases hF.form with ⟨-,h0⟩|h0
  ·rw[h0] at hi;exact absurd hi (Nat.not_lt_zero _)
  ·exact h0
 obtain⟨vf,hvf⟩:∃v:Value,v=.slice (some ⟨gf,0,none⟩) F.length cap:=⟨_,rfl⟩
 rw[← hvf] at hF ⊢
 have Hvf:=mkHid hvf
 clear hvf
 obtain⟨W1,hW1⟩:∃W,W=w.alloc (.cells #[vf,.string body,.slice (some ⟨b,0,none⟩) K.length c] 62):=⟨_,rfl⟩
 obtain⟨W2,hW2⟩:∃W,W=W1.alloc (.cells (sgCells d s 0 0 (.slice (some ⟨gN,0,none⟩) N.length N.length) h bb x y p q) 54):=⟨_,rfl⟩
 have hs1:W1.heap.size=w.heap.size+1:=by rw[hW1];simp
 have hs2:W2.heap.size=w.heap.size+2:=by rw[hW2];simp[hs1]
 have b01:Below w.heap.size w W1:=by rw[hW1];exact(Below.refl _ _).alloc (Nat.le_refl _) _
 have b12:Below W1.heap.size W1 W2:=by rw[hW2];exact(Below.refl _ _).alloc (Nat.le_refl _) _
 have b02:Below w.heap.size w W2:=b01.trans (b12.mono (by omega))
 have r1:W1.heap[w.heap.size]?=some (.cells #[vf,.string body,.slice (some ⟨b,0,none⟩) K.length c] 62 (0,0)):=by rw[hW1];exact heap_alloc_at _ _
 have r1':=(b12.block _ (show w.heap.size<W1.heap.size by omega)).trans r1
 have r2:W2.heap[w.heap.size+1]?=some (.cells (sgCells d s 0 0 (.slice (some ⟨gN,0,none⟩) N.length N.length) h bb x y p q) 54 (0,0)):=by rw[← hs1,hW2];exact heap_alloc_at _ _
 have e2:(w.alloc (.cells #[vf,.string body,.slice (some ⟨b,0,none⟩) K.length c] 62)).alloc (.cells (sgCells d s 0 0 (.slice (some ⟨gN,0,none⟩) N.length N.length) h bb x y p q) 54)=W2:=by rw[hW2,hW1]
 have cK:=mkHid (implKeyNamed vf body d s b c K W2 (hK.below b02) hl)
 have hE2:=mkHid e2
 have HR1:=mkHid r1'
 have HR2:=mkHid r2
 have Hb02:=mkHid b02
 obtain⟨m0,m1,m2⟩:W2.cell? ⟨w.heap.size,0,none⟩=some vf∧W2.cell? ⟨w.heap.size,1,none⟩=some (.string body)∧W2.cell? ⟨w.heap.size,2,none⟩=some (.slice (some ⟨b,0,none⟩) K.length c):=by
  refine⟨?_,?_,?_⟩<;>simp[World.cell?,r1']
 obtain⟨k0,k1,k2,k3,k4,k5,k6,k7,k8,k9,k10⟩:=cells11 r2
 have hkyz:(Sn.findK d s K).d.size≤100000∧(Sn.findK d s K).s.size≤100000:=Sn.findK_size d s K hkz
 generalize Sn.findK d s K=ky at *
 clear hW1 hW2 b01 b12 b02 r1 r1' r2 e2
 go_enter Tryz.func79,Tryz.ntmps79
 go_wp2_with fail
 rw[hE2.out]
 refine cK.out.mono ?_
 rintro e w3 ⟨rfl,hb3⟩
 obtain⟨W4,hW4⟩:∃W,W=w3.alloc (.cells #[.string ky.d,.string ky.s,.int .i64 ky.A,.int .i64 ky.B] 24):=⟨_,rfl⟩
 have b34:Below w3.heap.size w3 W4:=by rw[hW4];exact(Below.refl _ _).alloc (Nat.le_refl _) _
 have b24:Below W2.heap.size W2 W4:=hb3.trans (b34.mono hb3.size)
 have hs3:W2.heap.size≤w3.heap.size:=hb3.size
 have hs4:W4.heap.size=w3.heap.size+1:=by rw[hW4];simp
 have r4:W4.heap[w3.heap.size]?=some (.cells #[.string ky.d,.string ky.s,.int .i64 ky.A,.int .i64 ky.B] 24 (0,0)):=by rw[hW4];exact heap_alloc_at _ _
 have HR4:=mkHid r4
 have HB4:=mkHid (Hb02.out.trans (b24.mono Hb02.out.size))
 have HM4:=mkHid ((b24.block _ (show w.heap.size<W2.heap.size by omega)).trans HR1.out)
 have HG4:=mkHid ((b24.block _ (show w.heap.size+1<W2.heap.size by omega)).trans HR2.out)
 have HW4:=mkHid hW4
 have cR:=mkHid (fun W=>implRight ky.d ky.s ky.A ky.B W)
 obtain⟨Rz,hRz⟩:∃R,R=Sn.resOf ky body ⟨F[i].1.toArray⟩ (toBA (F.eraseIdx i)) ⟨d,s,N,h,bb,x,y,p,q⟩:=⟨_,rfl⟩
 have HRz:=mkHid hRz
 have q0:W4.cell? ⟨w3.heap.size,0,none⟩=some (.string ky.d):=by simp[World.cell?,r4]
 have q1:W4.cell? ⟨w3.heap.size,1,none⟩=some (.string ky.s):=by simp[World.cell?,r4]
 have q2:W4.cell? ⟨w3.heap.size,2,none⟩=some (.int .i64 ky.A):=by simp[World.cell?,r4]
 have q3:W4.cell? ⟨w3.heap.size,3,none⟩=some (.int .i64 ky.B):=by simp[World.cell?,r4]
 rw[hW4] at q0 q1 q2 q3
 clear hW4 b34 b24 r4 hb3 m0 m1 m2 k0 k1 k2 k3 k4 k5 k6 k7 k8 k9 k10 cK hE2 HR1 HR2 Hb02 hRz
 go_wp2_with fail
 rw[← HW4.out]
 refine(cR.out _).mono ?_
 rintro e w5 ⟨rfl,hb5⟩
 clear q0 q1 q2 q3 cR HW4
 have hs5:=hb5.size
 have HB5:=mkHid (HB4.out.trans (hb5.mono HB4.out.size))
 have HR5:=mkHid ((hb5.block _ (show w3.heap.size<W4.heap.size by omega)).trans HR4.out)
 have HM5:=mkHid ((hb5.block _ (show w.heap.size<W4.heap.size by omega)).trans HM4.out)
 have HG5:=mkHid ((hb5.block _ (show w.heap.size+1<W4.heap.size by omega)).trans HG4.out)
 clear hb5 HR4 HM4 HG4 HB4
 cases hko:keyOk ky.A ky.B
 ·have hv:Hid (Rz=1):=by
   show _=_
   rw[HRz.out]
   unfold Sn.resOf
   rw[if_pos hko]
  clear hko
  go_wp2
  go_ret
  exact⟨by rw[← HRz.out,hv.out];rfl,HB5.out⟩
 obtain⟨g1,g2,g3,g4⟩:=(keyOk_iff _ _).1 hko
 obtain⟨A,hA⟩:∃A:Nat,ky.A=A:=⟨ky.A.toNat,by omega⟩
 obtain⟨B,hB⟩:∃A:Nat,ky.B=A:=⟨ky.B.toNat,by omega⟩
 rw[hA] at g1 g2
 rw[hB] at g3 g4
 have hAt:ky.A.toNat=A:=by omega
 have hBt:ky.B.toNat=B:=by omega
 obtain⟨cb,hcb⟩:∃t,t=canonAny body bb:=⟨_,rfl⟩
 have hcz:cb.size≤200000:=by
  rw[hcb]
  unfold canonAny
  split
  ·exact Nat.zero_le _
  ·have:=canonB_len body bb
   show(canonB body bb).toArray.size≤_
   simp;omega
 have HRy:Hid (Rz=if ((x:Int)==(Ps.sm A 1 cb.data.toList:Int)) && ((y:Int)==(Ps.sm B 1 cb.data.toList:Int)) then (if ((p:Int)==(Ps.sm A 1 (Sn.headT ⟨F[i].1.toArray⟩ N h (toBA (F.eraseIdx i)) (frontT d s N h bb x y)).data.toList:Int)) && ((q:Int)==(Ps.sm B 1 (Sn.headT ⟨F[i].1.toArray⟩ N h (toBA (F.eraseIdx i)) (frontT d s N h bb x y)).data.toList:Int)) then 0 else 4) else 3):=by
  show _=_
  rw[HRz.out]
  unfold Sn.resOf
  rw[if_neg (by rw[hko];simp),hAt,hBt,hcb]
  rfl
 have HW5:=mkHid (hW.below HB5.out)
 have cC:∀W,Below w5.heap.size w5 W→Calls Tryz.prog 17 #[.string body,.int .i64 bb] W fun e w'=>e=.returned (.string cb)∧Below W.heap.size W w':=fun W hb=>by
  obtain⟨m,hm⟩:=(HW5.out.below hb).most
  rw[hcb]
  exact implCanonBody body bb m W (by omega) hm
 have cSm:∀(t:ByteArray),t.size≤200000→∀W,Calls Tryz.prog 16 #[.agg #[.string ky.d,.string ky.s,.int .i64 ky.A,.int .i64 ky.B],.string t] W fun e w'=>e=.returned (.agg #[.int .i64 (Ps.sm A 1 t.data.toList),.int .i64 (Ps.sm B 1 t.data.toList)])∧Below W.heap.size W w':=fun t ht W=>by
  rw[hA,hB]
  exact implSum ky.d ky.s t A B W hkyz.1 hkyz.2 ht (by omega) (by omega) (by omega) (by omega)
 have CC:=mkHid cC
 have CM:=mkHid cSm
 have cS1:=mkHid (cSm cb hcz)
 have HN:=mkHid hn
 clear hcb hAt hBt cC cSm hA hB hko g1 g2 g3 g4 hn
 generalize hca:Ps.sm A 1 cb.data.toList=ca at *
 generalize hcd:Ps.sm B 1 cb.data.toList=cd at *
 clear hca hcd
 have hbS:Below w5.heap.size w5 w5.drew:=(Below.refl _ _).drew
 have hl5:w3.heap.size<w5.heap.size:=by omega
 have HSk:Hid (∀W,Below w5.heap.size w5 W→W.heap[w3.heap.size]?=some (.cells #[.string ky.d,.string ky.s,.int .i64 ky.A,.int .i64 ky.B] 24 (0,0))):=fun W hW=>(hW.block _ hl5).trans HR5.out
 have HSm:Hid (∀W,Below w5.heap.size w5 W→W.heap[w.heap.size]?=some (.cells #[vf,.string body,.slice (some ⟨b,0,none⟩) K.length c] 62 (0,0))):=fun W hW=>(hW.block _ (show w.heap.size<w5.heap.size by omega)).trans HM5.out
 have HSg:Hid (∀W,Below w5.heap.size w5 W→W.heap[w.heap.size+1]?=some (.cells (sgCells d s 0 0 (.slice (some ⟨gN,0,none⟩) N.length N.length) h bb x y p q) 54 (0,0))):=fun W hW=>(hW.block _ (show w.heap.size+1<w5.heap.size by omega)).trans HG5.out
 go_wp2_with fail
 refine wp_region_held (S:=fun W=>Below w5.heap.size w5 W) (by kernel_rfl) ?_
 refine tk 0 (.pointer (some ⟨w.heap.size+1,7,none⟩)) hbS ?_ ?_
 ·intro W s0
  obtain⟨m0,m1,m2⟩:=Sn.cells3 (HSm.out W s0)
  obtain⟨k0,k1,k2,k3,k4,k5,k6,k7,k8,k9,k10⟩:=cells11 (HSg.out W s0)
  obtain⟨q0,q1,q2,q3⟩:=Sn.cells4 (HSk.out W s0)
  clear s0
  go_simp
 go_simp
 refine tk 1 (.agg #[.int .i64 x,.int .i64 y]) hbS ?_ ?_
 ·intro W s0
  obtain⟨m0,m1,m2⟩:=Sn.cells3 (HSm.out W s0)
  obtain⟨k0,k1,k2,k3,k4,k5,k6,k7,k8,k9,k10⟩:=cells11 (HSg.out W s0)
  obtain⟨q0,q1,q2,q3⟩:=Sn.cells4 (HSk.out W s0)
  clear s0
  go_simp
 go_simp
 refine tk 2 (.agg #[.string ky.d,.string ky.s,.int .i64 ky.A,.int .i64 ky.B]) hbS ?_ ?_
 ·intro W s0
  obtain⟨m0,m1,m2⟩:=Sn.cells3 (HSm.out W s0)
  obtain⟨k0,k1,k2,k3,k4,k5,k6,k7,k8,k9,k10⟩:=cells11 (HSg.out W s0)
  obtain⟨q0,q1,q2,q3⟩:=Sn.cells4 (HSk.out W s0)
  clear s0
  go_simp
 go_simp
 refine tk 3 (.pointer (some ⟨w.heap.size,1,none⟩)) hbS ?_ ?_
 ·intro W s0
  obtain⟨m0,m1,m2⟩:=Sn.cells3 (HSm.out W s0)
  obtain⟨k0,k1,k2,k3,k4,k5,k6,k7,k8,k9,k10⟩:=cells11 (HSg.out W s0)
  obtain⟨q0,q1,q2,q3⟩:=Sn.cells4 (HSk.out W s0)
  clear s0
  go_simp
 go_simp
 refine tk 4 (.string body) hbS ?_ ?_
 ·intro W s0
  obtain⟨m0,m1,m2⟩:=Sn.cells3 (HSm.out W s0)
  obtain⟨k0,k1,k2,k3,k4,k5,k6,k7,k8,k9,k10⟩:=cells11 (HSg.out W s0)
  obtain⟨q0,q1,q2,q3⟩:=Sn.cells4 (HSk.out W s0)
  clear s0
  go_simp
 go_simp
 refine tk 5 (.pointer (some ⟨w.heap.size+1,0,none⟩)) hbS ?_ ?_
 ·intro W s0
  obtain⟨m0,m1,m2⟩:=Sn.cells3 (HSm.out W s0)
  obtain⟨k0,k1,k2,k3,k4,k5,k6,k7,k8,k9,k10⟩:=cells11 (HSg.out W s0)
  obtain⟨q0,q1,q2,q3⟩:=Sn.cells4 (HSk.out W s0)
  clear s0
  go_simp
 go_simp
 refine tk 6 (.pointer (some ⟨w.heap.size+1,6,none⟩)) hbS ?_ ?_
 ·intro W s0
  obtain⟨m0,m1,m2⟩:=Sn.cells3 (HSm.out W s0)
  obtain⟨k0,k1,k2,k3,k4,k5,k6,k7,k8,k9,k10⟩:=cells11 (HSg.out W s0)
  obtain⟨q0,q1,q2,q3⟩:=Sn.cells4 (HSk.out W s0)
  clear s0
  go_simp
 go_simp
 refine tk 7 (.int .i64 bb) hbS ?_ ?_
 ·intro W s0
  obtain⟨m0,m1,m2⟩:=Sn.cells3 (HSm.out W s0)
  obtain⟨k0,k1,k2,k3,k4,k5,k6,k7,k8,k9,k10⟩:=cells11 (HSg.out W s0)
  obtain⟨q0,q1,q2,q3⟩:=Sn.cells4 (HSk.out W s0)
  clear s0
  go_simp
 go_simp
 refine wpAnyH_all (rs:=[8]) (by kernel_rfl) (by simp) ?_
 intro j hj
 simp only[List.mem_cons,List.not_mem_nil,or_false] at hj
 subst hj
 refine wpOp_step rfl (fun K hK=>?_)
 go_simp
 refine(CC.out _ hbS).mono ?_
 rintro e v1 ⟨rfl,hc⟩
 have hb21:Below w5.heap.size w5 v1:=hbS.trans (hc.mono hbS.size)
 clear hc
 refine hK _ _ ⟨hb21,?_⟩
 clear hK K
 go_simp
 refine wpAnyH_all (rs:=[9]) (by kernel_rfl) (by simp) ?_
 intro j hj
 simp only[List.mem_cons,List.not_mem_nil,or_false] at hj
 subst hj
 refine wpOp_step rfl (fun K hK=>?_)
 go_simp
 refine(cS1.out _).mono ?_
 rintro e v2 ⟨rfl,hc⟩
 have hb22:Below w5.heap.size w5 v2:=hb21.trans (hc.mono hb21.size)
 clear hc
 refine hK _ _ ⟨hb22,?_⟩
 clear hK K
 go_simp
 obtain⟨e1,he1⟩:∃e1,((x:Int)==(ca:Int))=e1:=⟨_,rfl⟩
 obtain⟨e2,he2⟩:∃e2,((y:Int)==(cd:Int))=e2:=⟨_,rfl⟩
 rw[he1,he2] at HRy
 have hzz:=HB5.out.size
 cases e1
 ·cases e2
  all_goals
   have hv:Hid (Rz=3):=by show _=_;rw[HRy.out];rfl
   clear HRy
   refine tk 10 (.bool true) hb22 ?_ ?_
   ·intro W s0
    obtain⟨m0,m1,m2⟩:=Sn.cells3 (HSm.out W s0)
    obtain⟨k0,k1,k2,k3,k4,k5,k6,k7,k8,k9,k10⟩:=cells11 (HSg.out W s0)
    obtain⟨q0,q1,q2,q3⟩:=Sn.cells4 (HSk.out W s0)
    clear s0
    go_simp
   go_simp
   refine wpAnyH_done (by kernel_rfl) ?_ _
   go_wp2
   go_ret
   exact⟨by rw[← HRz.out,hv.out];rfl,HB5.out.trans (hb22.mono hzz)⟩
 cases e2
 ·skip
  have hv:Hid (Rz=3):=by show _=_;rw[HRy.out];rfl
  clear HRy
  refine tk 10 (.bool true) hb22 ?_ ?_
  ·intro W s0
   obtain⟨m0,m1,m2⟩:=Sn.cells3 (HSm.out W s0)
   obtain⟨k0,k1,k2,k3,k4,k5,k6,k7,k8,k9,k10⟩:=cells11 (HSg.out W s0)
   obtain⟨q0,q1,q2,q3⟩:=Sn.cells4 (HSk.out W s0)
   clear s0
   go_simp
  go_simp
  refine wpAnyH_done (by kernel_rfl) ?_ _
  go_wp2
  go_ret
  exact⟨by rw[← HRz.out,hv.out];rfl,HB5.out.trans (hb22.mono hzz)⟩
 refine tk 10 (.bool false) hb22 ?_ ?_
 ·intro W s0
  obtain⟨m0,m1,m2⟩:=Sn.cells3 (HSm.out W s0)
  obtain⟨k0,k1,k2,k3,k4,k5,k6,k7,k8,k9,k10⟩:=cells11 (HSg.out W s0)
  obtain⟨q0,q1,q2,q3⟩:=Sn.cells4 (HSk.out W s0)
  clear s0
  go_simp
 go_simp
 refine wpAnyH_done (by kernel_rfl) ?_ _
 have hB2:Below w.heap.size w v2:=HB5.out.trans (hb22.mono hzz)
 have hv2s:=hb22.size
 have HB2:=mkHid hB2
 have HF2:Hid (OwnF Bf vf F v2):=World.ownsRow.kept hF (grown_below (r:=none) hB2) (Classical.em _)
 have HT2:Hid (∀(j:Nat) t,N[j]?=some t→v2.cell? ⟨gN,j,none⟩=some (.string t)):=fun j t hj=>(hB2.cell (p:=⟨gN,j,none⟩) hgN).trans (hT j t hj)
 have hgN2:gN<v2.heap.size:=Nat.lt_of_lt_of_le hgN hB2.size
 have HM2:=mkHid (HSm.out _ hb22)
 have HG2:=mkHid (HSg.out _ hb22)
 have HK2:=mkHid (HSk.out _ hb22)
 have HW2:=mkHid (hW.below hB2)
 obtain⟨fr,hfr⟩:∃t,t=frontT d s N h bb x y:=⟨_,rfl⟩
 obtain⟨nm,hnm⟩:∃t:ByteArray,t=⟨F[i].1.toArray⟩:=⟨_,rfl⟩
 have hsg:=Sn.sg_ok hs
 obtain⟨u1,u2,-,-,u3,u4,u5,u6⟩:=Sn.sg_parts d s 1 1 N h bb hsg
 have hflb:=front_lb d s 1 1 N h bb x y hsg hx hy
 rw[← hfr] at hflb
 have hn9:=(Sn.named_ok _ HN.out).2
 have HN2:=HN.out
 rw[← hnm] at hn9 HN2
 obtain⟨pp,hpp,hpz⟩:=Sn.own_formN nm fr h HN2 hflb.1 (by have:=hflb.2;omega) u3
 have hfrz:fr.size≤4000:=by have:=hflb.2;omega
 have hers:fsum (toBA (F.eraseIdx i))≤100002:=by
  rw[toBA_erase]
  have:=sum_erase fsz (toBA F) i _ (toBA_at F i hi)
  unfold fsum at hfs ⊢
  omega
 have hHead:Sn.headT nm N h (toBA (F.eraseIdx i)) fr=⟨(tkL h N (toBA (F.eraseIdx i))).toArray⟩++pp:=by
  unfold Sn.headT
  rw[hpp,own_cut]
 obtain⟨hd,hhd⟩:∃t:ByteArray,t=⟨(tkL h N (toBA (F.eraseIdx i))).toArray⟩++pp:=⟨_,rfl⟩
 have hhz:hd.size≤200000:=by
  have:=tkL_len h N (toBA (F.eraseIdx i))
  rw[hhd,ByteArray.size_append]
  show(tkL h N (toBA (F.eraseIdx i))).toArray.size+_≤_
  simp;omega
 rw[← hhd] at hHead
 have hRf:Hid (Rz=if ((p:Int)==(Ps.sm A 1 hd.data.toList:Int)) && ((q:Int)==(Ps.sm B 1 hd.data.toList:Int)) then 0 else 4):=by
  show _=_
  rw[HRy.out,← hfr,← hnm,hHead]
  rfl
 have cU:Hid (∀W,Below v2.heap.size v2 W→Calls Tryz.prog 18 #[.agg (sgCells d s 0 0 (.slice (some ⟨gN,0,none⟩) N.length N.length) h bb x y p q)] W fun e w'=>e=.returned (.string fr)∧Below W.heap.size W w'):=fun W hW=>by
  rw[hfr]
  exact implFront d s 0 0 h bb gN 0 N N.length x y p q W (by omega) (by omega) (fun j t hj=>by rw[Nat.zero_add];exact(hW.cell (p:=⟨gN,j,none⟩) hgN2).trans (HT2.out j t hj)) (Nat.lt_of_lt_of_le hgN2 hW.size) u5 (Nat.le_refl _) u6 u3 u4 hx hy (HW2.out.below hW).tab
 have cH:Hid (∀(vO:Value) (Bo:Nat) W,Below v2.heap.size v2 W→OwnF Bo vO (F.eraseIdx i) W→Calls Tryz.prog 19 #[.agg #[.string d,.string s,.int .i64 0,.int .i64 0,.slice (some ⟨gN,0,none⟩) N.length N.length,.int .i64 h,.int .i64 bb],vO,.agg #[.string nm,.string fr]] W fun e w'=>e=.returned (.string hd)∧Below W.heap.size W w'):=fun vO Bo W hW hO=>by
  rw[hhd]
  exact implSignedN nm (by omega) d s 0 0 h bb (some ⟨gN,0,none⟩) N N.length Bo vO (F.eraseIdx i) fr pp W (fun k hk=>⟨_,rfl,Nat.lt_of_lt_of_le hgN2 hW.size,by rw[Addr.add_lit,Nat.zero_add];exact(hW.cell (p:=⟨gN,k,none⟩) hgN2).trans (HT2.out k _ (List.getElem?_eq_getElem hk))⟩) u5 u6 hO (by rw[List.length_eraseIdx];split<;>omega) (fun f hf=>hfz f (List.mem_of_mem_eraseIdx hf)) hers hfrz hpp hpz
 have hc0:v2.cell? ⟨gf,i*2,none⟩=some (.string nm):=by
  have h2:=HF2.out
  rw[Hvf.out] at h2
  have:=World.ownsRow.cells h2 (g:=gf) rfl (i*2) _ (cellsF_get F i hi).1
  rw[add_off] at this
  rw[hnm]
  exact this
 have hgf2:gf<v2.heap.size:=by
  have h2:=HF2.out
  rw[Hvf.out] at h2
  exact(World.ownsRow.lt h2 gf rfl).2
 have Hc0:=mkHid hc0
 have hil:i<F.length:=hi
 have cQ:=mkHid (CM.out hd hhz)
 generalize hpa:Ps.sm A 1 hd.data.toList=pa at *
 generalize hpb:Ps.sm B 1 hd.data.toList=pb at *
 obtain⟨e3,he3⟩:∃e3,((p:Int)==(pa:Int))=e3:=⟨_,rfl⟩
 obtain⟨e4,he4⟩:∃e4,((q:Int)==(pb:Int))=e4:=⟨_,rfl⟩
 rw[he3,he4] at hRf
 have hFL:F.length≤200:=hfl
 clear hpa hpb hc0 hnm hHead hhd hers hflb hpp hpz hfr hsg HRy CC CM cS1 HSm HSg HSk HN HN2 hT hW HW5 HR5 HM5 HG5 hB2
 clear hF hfz hfs hx hy hs hK hkz hbody hcz
 have hl2:w3.heap.size<v2.heap.size:=by omega
 have HSk2:Hid (∀W,Below v2.heap.size v2 W→W.heap[w3.heap.size]?=some (.cells #[.string ky.d,.string ky.s,.int .i64 ky.A,.int .i64 ky.B] 24 (0,0))):=fun W hW=>(hW.block _ hl2).trans HK2.out
 have HSm2:Hid (∀W,Below v2.heap.size v2 W→W.heap[w.heap.size]?=some (.cells #[vf,.string body,.slice (some ⟨b,0,none⟩) K.length c] 62 (0,0))):=fun W hW=>(hW.block _ (show w.heap.size<v2.heap.size by omega)).trans HM2.out
 have HSg2:Hid (∀W,Below v2.heap.size v2 W→W.heap[w.heap.size+1]?=some (.cells (sgCells d s 0 0 (.slice (some ⟨gN,0,none⟩) N.length N.length) h bb x y p q) 54 (0,0))):=fun W hW=>(hW.block _ (show w.heap.size+1<v2.heap.size by omega)).trans HG2.out
 rw[Hvf.out] at HSm2
 rw[Hvf.out]
 go_wp2_with fail
 have hbT:Below v2.heap.size v2 v2.drew:=(Below.refl _ _).drew
 obtain⟨RR,hRR⟩:∃RR:Act→Act→World→Prop,RR=(fun a a' w'=>∃ b:Nat,a'=((((((((((a.put (some 29) (.pointer (some ⟨w.heap.size,0,none⟩))).put (some 30) (.slice (some ⟨gf,0,none⟩) F.length cap)).put (some 31) (.int .i64 i)).put (some 32) (.pointer (some ⟨gf,i*2,none⟩))).put (some 33) (.pointer (some ⟨gf,i*2,none⟩))).put (some 34) (.string nm)).put (some 35) (.agg (sgCells d s 0 0 (.slice (some ⟨gN,0,none⟩) N.length N.length) h bb x y p q))).put (some 36) (.string fr)).put (some 37) (.agg #[.string nm,.string fr])).put (some 8) (.pointer (some ⟨b,0,none⟩)))∧Hid (w'.heap[b]?=some (.cells #[.string nm,.string fr] 38 (0,0)))∧Hid (v2.heap.size≤b)∧Hid (Below v2.heap.size v2 w')):=⟨_,rfl⟩
 have HRR:=mkHid hRR
 clear hRR
 refine Sn.cutV RR ?_ ?_
 ·refine wp_region_held (S:=fun W=>Below v2.heap.size v2 W) (by kernel_rfl) ?_
  obtain⟨Y0,hY0⟩:∃Y,v2.drew=Y:=⟨_,rfl⟩
  rw[show({ v2 with drawn:=v2.drawn+1 }:World)=Y0 from hY0]
  rw[hY0] at hbT
  clear hY0
  refine tk 0 (.pointer (some ⟨w.heap.size,0,none⟩)) hbT (hQ:=fun _ _ _ h=>nomatch h.1) ?_ ?_
  ·intro W s0
   obtain⟨m0,m1,m2⟩:=Sn.cells3 (HSm2.out W s0)
   obtain⟨k0,k1,k2,k3,k4,k5,k6,k7,k8,k9,k10⟩:=cells11 (HSg2.out W s0)
   obtain⟨q0,q1,q2,q3⟩:=Sn.cells4 (HSk2.out W s0)
   have z0:=(s0.cell (p:=⟨gf,i*2,none⟩) hgf2).trans Hc0.out
   clear s0
   go_simp
  go_simp
  refine tk 1 (.slice (some ⟨gf,0,none⟩) F.length cap) hbT (hQ:=fun _ _ _ h=>nomatch h.1) ?_ ?_
  ·intro W s0
   obtain⟨m0,m1,m2⟩:=Sn.cells3 (HSm2.out W s0)
   obtain⟨k0,k1,k2,k3,k4,k5,k6,k7,k8,k9,k10⟩:=cells11 (HSg2.out W s0)
   obtain⟨q0,q1,q2,q3⟩:=Sn.cells4 (HSk2.out W s0)
   have z0:=(s0.cell (p:=⟨gf,i*2,none⟩) hgf2).trans Hc0.out
   clear s0
   go_simp
  go_simp
  refine tk 2 (.int .i64 i) hbT (hQ:=fun _ _ _ h=>nomatch h.1) ?_ ?_
  ·intro W s0
   obtain⟨m0,m1,m2⟩:=Sn.cells3 (HSm2.out W s0)
   obtain⟨k0,k1,k2,k3,k4,k5,k6,k7,k8,k9,k10⟩:=cells11 (HSg2.out W s0)
   obtain⟨q0,q1,q2,q3⟩:=Sn.cells4 (HSk2.out W s0)
   have z0:=(s0.cell (p:=⟨gf,i*2,none⟩) hgf2).trans Hc0.out
   clear s0
   go_simp
  go_simp
  refine tk 3 (.pointer (some ⟨gf,i*2,none⟩)) hbT (hQ:=fun _ _ _ h=>nomatch h.1) ?_ ?_
  ·intro W s0
   obtain⟨m0,m1,m2⟩:=Sn.cells3 (HSm2.out W s0)
   obtain⟨k0,k1,k2,k3,k4,k5,k6,k7,k8,k9,k10⟩:=cells11 (HSg2.out W s0)
   obtain⟨q0,q1,q2,q3⟩:=Sn.cells4 (HSk2.out W s0)
   have z0:=(s0.cell (p:=⟨gf,i*2,none⟩) hgf2).trans Hc0.out
   clear s0
   go_simp
  go_simp
  refine tk 4 (.pointer (some ⟨gf,i*2,none⟩)) hbT (hQ:=fun _ _ _ h=>nomatch h.1) ?_ ?_
  ·intro W s0
   obtain⟨m0,m1,m2⟩:=Sn.cells3 (HSm2.out W s0)
   obtain⟨k0,k1,k2,k3,k4,k5,k6,k7,k8,k9,k10⟩:=cells11 (HSg2.out W s0)
   obtain⟨q0,q1,q2,q3⟩:=Sn.cells4 (HSk2.out W s0)
   have z0:=(s0.cell (p:=⟨gf,i*2,none⟩) hgf2).trans Hc0.out
   clear s0
   go_simp
  go_simp
  refine tk 5 (.string nm) hbT (hQ:=fun _ _ _ h=>nomatch h.1) ?_ ?_
  ·intro W s0
   obtain⟨m0,m1,m2⟩:=Sn.cells3 (HSm2.out W s0)
   obtain⟨k0,k1,k2,k3,k4,k5,k6,k7,k8,k9,k10⟩:=cells11 (HSg2.out W s0)
   obtain⟨q0,q1,q2,q3⟩:=Sn.cells4 (HSk2.out W s0)
   have z0:=(s0.cell (p:=⟨gf,i*2,none⟩) hgf2).trans Hc0.out
   clear s0
   go_simp
  go_simp
  refine tk 6 (.agg (sgCells d s 0 0 (.slice (some ⟨gN,0,none⟩) N.length N.length) h bb x y p q)) hbT (hQ:=fun _ _ _ h=>nomatch h.1) ?_ ?_
  ·intro W s0
   obtain⟨m0,m1,m2⟩:=Sn.cells3 (HSm2.out W s0)
   obtain⟨k0,k1,k2,k3,k4,k5,k6,k7,k8,k9,k10⟩:=cells11 (HSg2.out W s0)
   obtain⟨q0,q1,q2,q3⟩:=Sn.cells4 (HSk2.out W s0)
   have z0:=(s0.cell (p:=⟨gf,i*2,none⟩) hgf2).trans Hc0.out
   clear s0
   go_simp
  go_simp
  refine wpAnyH_all (rs:=[7,9]) (by kernel_rfl) (by simp) ?_
  intro j hj
  simp only[List.mem_cons,List.not_mem_nil,or_false] at hj
  rcases hj with rfl|rfl
  ·skip
   refine wpOp_step rfl (fun K hK=>?_)
   go_simp
   refine(cU.out _ hbT).mono ?_
   rintro e x1 ⟨rfl,hc⟩
   have hx1:Below v2.heap.size v2 x1:=hbT.trans (hc.mono hbT.size)
   clear hc
   refine hK _ _ ⟨hx1,?_⟩
   clear hK K
   go_simp
   refine tk 8 (.agg #[.string nm,.string fr]) hx1 (hQ:=fun _ _ _ h=>nomatch h.1) ?_ ?_
   ·intro W s0
    obtain⟨m0,m1,m2⟩:=Sn.cells3 (HSm2.out W s0)
    obtain⟨k0,k1,k2,k3,k4,k5,k6,k7,k8,k9,k10⟩:=cells11 (HSg2.out W s0)
    obtain⟨q0,q1,q2,q3⟩:=Sn.cells4 (HSk2.out W s0)
    have z0:=(s0.cell (p:=⟨gf,i*2,none⟩) hgf2).trans Hc0.out
    clear s0
    go_simp
   go_simp
   refine wpAnyH_all (rs:=[9]) (by kernel_rfl) (by simp) ?_
   intro j hj
   simp only[List.mem_cons,List.not_mem_nil,or_false] at hj
   subst hj
   refine wpOp_step rfl (fun K hK=>?_)
   go_simp
   have hA:(x1.alloc (.cells #[.string ⟨#[]⟩,.string ⟨#[]⟩] 38)).heap[x1.heap.size]?=some (.cells #[.string ⟨#[]⟩,.string ⟨#[]⟩] 38 (0,0)):=heap_alloc_at _ _
   have hx2:Below v2.heap.size v2 (x1.alloc (.cells #[.string ⟨#[]⟩,.string ⟨#[]⟩] 38)):=hx1.alloc hx1.size _
   have hbb:=hx1.size
   go_simp
   generalize x1.alloc (.cells #[.string ⟨#[]⟩,.string ⟨#[]⟩] 38)=Z at hA hx2 ⊢
   refine hK _ _ ⟨hx2,?_⟩
   clear hK K
   go_simp
   refine wpAnyH_all (rs:=[10]) (by kernel_rfl) (by simp) ?_
   intro j hj
   simp only[List.mem_cons,List.not_mem_nil,or_false] at hj
   subst hj
   refine wpOp_step rfl (fun K hK=>?_)
   refine wp_store_row 38 _ _ rfl x1.heap.size #[.string nm,.string fr] rfl rfl 38 _ hA (by kernel_rfl) rfl (by simp[Value.oneCell']) ?_
   have hz:=hx2.grown (grown_setRow Z x1.heap.size #[.string nm,.string fr]) hx2.size (fun j hj=>by cases hj;exact hbb)
   have hV:=setRow_heap Z x1.heap.size _ #[.string nm,.string fr] 38 (0,0) hA
   generalize Z.setRow x1.heap.size #[.string nm,.string fr]=Z9 at hz hV ⊢
   refine hK _ _ ⟨hz,?_⟩
   clear hK K
   go_simp
   refine wpAnyH_done (by kernel_rfl) ?_ _
   refine⟨rfl,?_⟩
   rw[HRR.out]
   exact⟨x1.heap.size,by kernel_rfl,hV,hbb,hz⟩
  ·skip
   refine wpOp_step rfl (fun K hK=>?_)
   go_simp
   have hA:(Y0.alloc (.cells #[.string ⟨#[]⟩,.string ⟨#[]⟩] 38)).heap[Y0.heap.size]?=some (.cells #[.string ⟨#[]⟩,.string ⟨#[]⟩] 38 (0,0)):=heap_alloc_at _ _
   have hx2:Below v2.heap.size v2 (Y0.alloc (.cells #[.string ⟨#[]⟩,.string ⟨#[]⟩] 38)):=hbT.alloc hbT.size _
   have hbb:=hbT.size
   go_simp
   generalize Y0.alloc (.cells #[.string ⟨#[]⟩,.string ⟨#[]⟩] 38)=Z at hA hx2 ⊢
   refine hK _ _ ⟨hx2,?_⟩
   clear hK K
   go_simp
   refine wpAnyH_all (rs:=[7]) (by kernel_rfl) (by simp) ?_
   intro j hj
   simp only[List.mem_cons,List.not_mem_nil,or_false] at hj
   subst hj
   refine wpOp_step rfl (fun K hK=>?_)
   go_simp
   refine(cU.out _ hx2).mono ?_
   rintro e x3 ⟨rfl,hc⟩
   have hA:=(hc.block _ (heap_lt hA)).trans hA
   have hx3:Below v2.heap.size v2 x3:=hx2.trans (hc.mono hx2.size)
   clear hc
   refine hK _ _ ⟨hx3,?_⟩
   clear hK K
   go_simp
   refine tk 8 (.agg #[.string nm,.string fr]) hx3 (hQ:=fun _ _ _ h=>nomatch h.1) ?_ ?_
   ·intro W s0
    obtain⟨m0,m1,m2⟩:=Sn.cells3 (HSm2.out W s0)
    obtain⟨k0,k1,k2,k3,k4,k5,k6,k7,k8,k9,k10⟩:=cells11 (HSg2.out W s0)
    obtain⟨q0,q1,q2,q3⟩:=Sn.cells4 (HSk2.out W s0)
    have z0:=(s0.cell (p:=⟨gf,i*2,none⟩) hgf2).trans Hc0.out
    clear s0
    go_simp
   go_simp
   refine wpAnyH_all (rs:=[10]) (by kernel_rfl) (by simp) ?_
   intro j hj
   simp only[List.mem_cons,List.not_mem_nil,or_false] at hj
   subst hj
   refine wpOp_step rfl (fun K hK=>?_)
   refine wp_store_row 38 _ _ rfl Y0.heap.size #[.string nm,.string fr] rfl rfl 38 _ hA (by kernel_rfl) rfl (by simp[Value.oneCell']) ?_
   have hz:=hx3.grown (grown_setRow x3 Y0.heap.size #[.string nm,.string fr]) hx3.size (fun j hj=>by cases hj;exact hbb)
   have hV:=setRow_heap x3 Y0.heap.size _ #[.string nm,.string fr] 38 (0,0) hA
   generalize x3.setRow Y0.heap.size #[.string nm,.string fr]=Z9 at hz hV ⊢
   refine hK _ _ ⟨hz,?_⟩
   clear hK K
   go_simp
   refine wpAnyH_done (by kernel_rfl) ?_ _
   refine⟨rfl,?_⟩
   rw[HRR.out]
   exact⟨Y0.heap.size,by kernel_rfl,hV,hbb,hz⟩
 ·intro a' X hR
  rw[HRR.out] at hR
  obtain⟨bo,rfl,Hbo,Hbl,HbX⟩:=hR
  clear HRR hbT cU Hc0
  have HOX:Hid (OwnF Bf vf F X):=World.ownsRow.kept HF2.out (grown_below (r:=none) HbX.out) (Classical.em _)
  have m0:=(Sn.cells3 (HSm2.out X HbX.out)).1
  rw[← Hvf.out] at m0
  have cC:=mkHid (implClone Bf vf F X HOX.out (by omega))
  clear HOX HF2
  go_wp2_with fail
  refine cC.out.mono ?_
  rintro e X2 ⟨v7,rfl,hO7,hb7⟩
  clear cC
  have cD:=mkHid (implDelete _ v7 F i X2 hO7 hil (by omega))
  have hX2:Below v2.heap.size v2 X2:=HbX.out.trans (hb7.mono HbX.out.size)
  have Hbo2:=mkHid ((hb7.block _ (heap_lt Hbo.out)).trans Hbo.out)
  have hl7:=fun k hk=>(World.ownsRow.lt hO7 k hk).1
  go_wp2_with fail
  refine cD.out.mono ?_
  rintro e X3 ⟨v8,rfl,hO8,hw8,hg8⟩
  have hX3:Below v2.heap.size v2 X3:=hX2.grown hg8 hX2.size (fun k hk=>Nat.le_trans HbX.out.size (hl7 k hk))
  have Hbo3:=mkHid ((hg8.block bo (heap_lt Hbo2.out) (fun e=>by have:=hl7 bo e.symm;have:=heap_lt Hbo.out;omega)).trans Hbo2.out)
  have hv3s:=hX3.size
  have HX3:=mkHid hX3
  have cH3:Hid (∀W,Below X3.heap.size X3 W→Calls Tryz.prog 19 #[.agg #[.string d,.string s,.int .i64 0,.int .i64 0,.slice (some ⟨gN,0,none⟩) N.length N.length,.int .i64 h,.int .i64 bb],v8,.agg #[.string nm,.string fr]] W fun e w'=>e=.returned (.string hd)∧Below W.heap.size W w'):=fun W hW=>cH.out v8 X.heap.size W (HX3.out.trans (hW.mono hv3s)) (World.ownsRow.kept hO8 (grown_below (r:=none) hW) (Classical.em _))
  have HSk3:Hid (∀W,Below X3.heap.size X3 W→W.heap[w3.heap.size]?=some (.cells #[.string ky.d,.string ky.s,.int .i64 ky.A,.int .i64 ky.B] 24 (0,0))):=fun W hW=>HSk2.out W (HX3.out.trans (hW.mono hv3s))
  have HSg3:Hid (∀W,Below X3.heap.size X3 W→W.heap[w.heap.size+1]?=some (.cells (sgCells d s 0 0 (.slice (some ⟨gN,0,none⟩) N.length N.length) h bb x y p q) 54 (0,0))):=fun W hW=>HSg2.out W (HX3.out.trans (hW.mono hv3s))
  have HSo3:Hid (∀W,Below X3.heap.size X3 W→W.heap[bo]?=some (.cells #[.string nm,.string fr] 38 (0,0))):=fun W hW=>(hW.block _ (heap_lt Hbo3.out)).trans Hbo3.out
  have HE3:=mkHid (HB2.out.trans (hX3.mono (by omega)))
  have hw3s:w.heap.size≤X3.heap.size:=HE3.out.size
  clear cD hX2 hX3 hO7 hb7 hl7 hO8 hw8 hg8 Hbo Hbo2 HbX cH HSk2 HSg2 HSm2 m0 Hvf HB2 HX3 HG2 HK2 HM2 HW2 HT2
  go_wp2_with fail
  have hbV:Below X3.heap.size X3 X3.drew:=(Below.refl _ _).drew
  refine wp_region_held (S:=fun W=>Below X3.heap.size X3 W) (by kernel_rfl) ?_
  refine tk 0 (.pointer (some ⟨w.heap.size+1,9,none⟩)) hbV ?_ ?_
  ·intro W s0
   obtain⟨k0,k1,k2,k3,k4,k5,k6,k7,k8,k9,k10⟩:=cells11 (HSg3.out W s0)
   obtain⟨q0,q1,q2,q3⟩:=Sn.cells4 (HSk3.out W s0)
   have z0:=Sn.cells2 (HSo3.out W s0)
   obtain⟨z0,z1⟩:=z0
   clear s0
   go_simp
  go_simp
  refine tk 1 (.agg #[.int .i64 p,.int .i64 q]) hbV ?_ ?_
  ·intro W s0
   obtain⟨k0,k1,k2,k3,k4,k5,k6,k7,k8,k9,k10⟩:=cells11 (HSg3.out W s0)
   obtain⟨q0,q1,q2,q3⟩:=Sn.cells4 (HSk3.out W s0)
   have z0:=Sn.cells2 (HSo3.out W s0)
   obtain⟨z0,z1⟩:=z0
   clear s0
   go_simp
  go_simp
  refine tk 2 (.agg #[.string ky.d,.string ky.s,.int .i64 ky.A,.int .i64 ky.B]) hbV ?_ ?_
  ·intro W s0
   obtain⟨k0,k1,k2,k3,k4,k5,k6,k7,k8,k9,k10⟩:=cells11 (HSg3.out W s0)
   obtain⟨q0,q1,q2,q3⟩:=Sn.cells4 (HSk3.out W s0)
   have z0:=Sn.cells2 (HSo3.out W s0)
   obtain⟨z0,z1⟩:=z0
   clear s0
   go_simp
  go_simp
  refine tk 3 (.pointer (some ⟨w.heap.size+1,0,none⟩)) hbV ?_ ?_
  ·intro W s0
   obtain⟨k0,k1,k2,k3,k4,k5,k6,k7,k8,k9,k10⟩:=cells11 (HSg3.out W s0)
   obtain⟨q0,q1,q2,q3⟩:=Sn.cells4 (HSk3.out W s0)
   have z0:=Sn.cells2 (HSo3.out W s0)
   obtain⟨z0,z1⟩:=z0
   clear s0
   go_simp
  go_simp
  refine tk 4 (.agg #[.string d,.string s,.int .i64 0,.int .i64 0,.slice (some ⟨gN,0,none⟩) N.length N.length,.int .i64 h,.int .i64 bb]) hbV ?_ ?_
  ·intro W s0
   obtain⟨k0,k1,k2,k3,k4,k5,k6,k7,k8,k9,k10⟩:=cells11 (HSg3.out W s0)
   obtain⟨q0,q1,q2,q3⟩:=Sn.cells4 (HSk3.out W s0)
   have z0:=Sn.cells2 (HSo3.out W s0)
   obtain⟨z0,z1⟩:=z0
   clear s0
   go_simp
  go_simp
  refine tk 5 v8 hbV ?_ ?_
  ·intro W s0
   obtain⟨k0,k1,k2,k3,k4,k5,k6,k7,k8,k9,k10⟩:=cells11 (HSg3.out W s0)
   obtain⟨q0,q1,q2,q3⟩:=Sn.cells4 (HSk3.out W s0)
   have z0:=Sn.cells2 (HSo3.out W s0)
   obtain⟨z0,z1⟩:=z0
   clear s0
   go_simp
  go_simp
  refine tk 6 (.agg #[.string nm,.string fr]) hbV ?_ ?_
  ·intro W s0
   obtain⟨k0,k1,k2,k3,k4,k5,k6,k7,k8,k9,k10⟩:=cells11 (HSg3.out W s0)
   obtain⟨q0,q1,q2,q3⟩:=Sn.cells4 (HSk3.out W s0)
   have z0:=Sn.cells2 (HSo3.out W s0)
   obtain⟨z0,z1⟩:=z0
   clear s0
   go_simp
  go_simp
  refine wpAnyH_all (rs:=[7]) (by kernel_rfl) (by simp) ?_
  intro j hj
  simp only[List.mem_cons,List.not_mem_nil,or_false] at hj
  subst hj
  refine wpOp_step rfl (fun K hK=>?_)
  go_simp
  refine(cH3.out _ hbV).mono ?_
  rintro e y1 ⟨rfl,hc⟩
  have hy1:Below X3.heap.size X3 y1:=hbV.trans (hc.mono hbV.size)
  clear hc
  refine hK _ _ ⟨hy1,?_⟩
  clear hK K
  go_simp
  refine wpAnyH_all (rs:=[8]) (by kernel_rfl) (by simp) ?_
  intro j hj
  simp only[List.mem_cons,List.not_mem_nil,or_false] at hj
  subst hj
  refine wpOp_step rfl (fun K hK=>?_)
  go_simp
  refine(cQ.out _).mono ?_
  rintro e y2 ⟨rfl,hc⟩
  have hy2:Below X3.heap.size X3 y2:=hy1.trans (hc.mono hy1.size)
  clear hc
  refine hK _ _ ⟨hy2,?_⟩
  clear hK K
  go_simp
  cases e3
  ·cases e4
   all_goals
    have hv:Hid (Rz=4):=by show _=_;rw[hRf.out];rfl
    clear hRf
    refine tk 9 (.bool true) hy2 ?_ ?_
    ·intro W s0
     obtain⟨k0,k1,k2,k3,k4,k5,k6,k7,k8,k9,k10⟩:=cells11 (HSg3.out W s0)
     obtain⟨q0,q1,q2,q3⟩:=Sn.cells4 (HSk3.out W s0)
     have z0:=Sn.cells2 (HSo3.out W s0)
     obtain⟨z0,z1⟩:=z0
     clear s0
     go_simp
    go_simp
    refine wpAnyH_done (by kernel_rfl) ?_ _
    go_wp2
    go_ret
    exact⟨by rw[← HRz.out,hv.out];rfl,HE3.out.trans (hy2.mono hw3s)⟩
  cases e4
  ·skip
   have hv:Hid (Rz=4):=by show _=_;rw[hRf.out];rfl
   clear hRf
   refine tk 9 (.bool true) hy2 ?_ ?_
   ·intro W s0
    obtain⟨k0,k1,k2,k3,k4,k5,k6,k7,k8,k9,k10⟩:=cells11 (HSg3.out W s0)
    obtain⟨q0,q1,q2,q3⟩:=Sn.cells4 (HSk3.out W s0)
    have z0:=Sn.cells2 (HSo3.out W s0)
    obtain⟨z0,z1⟩:=z0
    clear s0
    go_simp
   go_simp
   refine wpAnyH_done (by kernel_rfl) ?_ _
   go_wp2
   go_ret
   exact⟨by rw[← HRz.out,hv.out];rfl,HE3.out.trans (hy2.mono hw3s)⟩
  ·skip
   have hv:Hid (Rz=0):=by show _=_;rw[hRf.out];rfl
   clear hRf
   refine tk 9 (.bool false) hy2 ?_ ?_
   ·intro W s0
    obtain⟨k0,k1,k2,k3,k4,k5,k6,k7,k8,k9,k10⟩:=cells11 (HSg3.out W s0)
    obtain⟨q0,q1,q2,q3⟩:=Sn.cells4 (HSk3.out W s0)
    have z0:=Sn.cells2 (HSo3.out W s0)
    obtain⟨z0,z1⟩:=z0
    clear s0
    go_simp
   go_simp
   refine wpAnyH_done (by kernel_rfl) ?_ _
   go_wp2
   go_ret
   exact⟨by rw[← HRz.out,hv.out];rfl,HE3.out.trans (hy2.mono hw3s)⟩
namespace Sn
def ansOf (K:List Ky)(body n v:ByteArray)(others:List Fd):ByteArray × Int:=if right (readS v) v then ((readS v).d,resOf (findK (readS v).d (readS v).s K) body n others (readS v)) else (⟨#[]⟩,2)
abbrev anV (a:ByteArray × Int):Value:=.agg #[.string a.1,.int .i64 a.2]
end Sn
theorem frozen_at {w:World} {g:Nat} {cs:Array Value} {t:TypeId} (h:w.heap[g]?=some (.cells cs t (0,0)))(j:Nat):w.frozen? ⟨g,j,none⟩=false:=by simp[World.frozen?,h]
set_option maxRecDepth 40000 in
theorem implCheck (Bf:Nat)(vf:Value)(F:List Fl)(body:ByteArray)(b c:Nat)(K:List Sn.Ky)(i:Nat)(w:World)
  (hF:OwnF Bf vf F w) (hfl:F.length≤200) (hfz:∀f ∈ F,f.1.length≤100000∧f.2.length≤100000) (hfs:fsum (toBA F)≤100002) (hi:i<F.length) (hn:namedB ⟨F[i].1.toArray⟩ sgName=true)
  (hbody:body.size≤100000) (hK:Sn.KyL b w K) (hl:K.length≤100) (hkz:∀k ∈ K,k.d.size≤100000∧k.s.size≤100000) (hW:CkW w) :
  Calls Tryz.prog 30 #[.agg #[vf,.string body,.slice (some ⟨b,0,none⟩) K.length c],.int .i64 i] w fun e w'=>e=.returned (Sn.anV (Sn.ansOf K body ⟨F[i].1.toArray⟩ ⟨F[i].2.toArray⟩ (toBA (F.eraseIdx i))))∧Below w.heap.size w w':=by
 obtain⟨gf,cap,hvf⟩:∃g cap,vf=.slice (some ⟨g,0,none⟩) F.length cap:=by
  rcases hF.form with ⟨-,h0⟩|h0
  ·rw[h0] at hi;exact absurd hi (Nat.not_lt_zero _)
  ·exact h0
 have Hvf:=mkHid hvf
 obtain⟨W2,hW2⟩:∃W,W=(w.alloc (.cells #[vf,.string body,.slice (some ⟨b,0,none⟩) K.length c] 62)).alloc (.cells #[.string ⟨#[]⟩,.int .i64 0] 35):=⟨_,rfl⟩
 have hs2:W2.heap.size=w.heap.size+2:=by rw[hW2];simp
 have b02:Below w.heap.size w W2:=by rw[hW2];exact((Below.refl _ _).alloc (Nat.le_refl _) _).alloc (by simp) _
 have r1:W2.heap[w.heap.size]?=some (.cells #[vf,.string body,.slice (some ⟨b,0,none⟩) K.length c] 62 (0,0)):=by
  rw[hW2]
  exact(((Below.refl _ _).alloc (Nat.le_refl _) _).block _ (by simp)).trans (heap_alloc_at _ _)
 have r2:W2.heap[w.heap.size+1]?=some (.cells #[.string ⟨#[]⟩,.int .i64 0] 35 (0,0)):=by
  have:=heap_alloc_at (w.alloc (.cells #[vf,.string body,.slice (some ⟨b,0,none⟩) K.length c] 62)) (.cells #[.string ⟨#[]⟩,.int .i64 0] 35)
  rw[hW2]
  simpa using this
 have hF2:OwnF Bf vf F W2:=World.ownsRow.kept hF (grown_below (r:=none) b02) (Classical.em _)
 obtain⟨v,hv⟩:∃t:ByteArray,t=⟨F[i].2.toArray⟩:=⟨_,rfl⟩
 have hgf:gf<w.heap.size:=by
  have h2:=hF
  rw[hvf] at h2
  exact(World.ownsRow.lt h2 gf rfl).2
 have hgf1:gf<w.heap.size+1:=by omega
 have hc1:w.cell? ⟨gf,i*2+1,none⟩=some (.string v):=by
  have h2:=hF
  rw[hvf] at h2
  have:=World.ownsRow.cells h2 (g:=gf) rfl (i*2+1) _ (cellsF_get F i hi).2
  rw[add_off] at this
  rw[hv]
  exact this
 have hvz:v.size≤100000:=by
  rw[hv]
  show(F[i].2.toArray).size≤_
  have:=(hfz _ (List.getElem_mem hi)).2
  simp;omega
 have cS:=mkHid (implReadSig v W2 hvz (hW.below b02))
 have HR1:=mkHid r1
 have HR2:=mkHid r2
 have HB2:=mkHid b02
 have HF:=mkHid hF
 have HFz:=mkHid hfz
 have HK:=mkHid hK
 have HKz:=mkHid hkz
 have HW:=mkHid hW
 have HN:=mkHid hn
 have HV:=mkHid hv
 obtain⟨m0,m1,m2⟩:=Sn.cells3 r1
 have e2:(w.alloc (.cells #[vf,.string body,.slice (some ⟨b,0,none⟩) K.length c] 62)).alloc (.cells #[.string ⟨#[]⟩,.int .i64 0] 35)=W2:=hW2.symm
 rw[hvf] at e2
 have hE2:=mkHid e2
 rw[← hv]
 obtain⟨R,hR⟩:∃R,R=Sn.ansOf K body ⟨F[i].1.toArray⟩ v (toBA (F.eraseIdx i)):=⟨_,rfl⟩
 rw[← hR]
 have HR:=mkHid hR
 have hFL:F.length≤200:=hfl
 rw[hvf] at m0
 clear hR hv hn hW hkz hK hfz hF hF2 b02 r1 r2 hW2 e2 hvf
 go_enter Tryz.func30,Tryz.ntmps30
 rw[Hvf.out]
 go_wp2_with fail
 rw[hE2.out]
 refine cS.out.mono ?_
 rintro e w3 ⟨gN,rfl,hT,hb3⟩
 clear cS
 have hR:=HR.out
 unfold Sn.ansOf at hR
 clear HR
 obtain⟨S,hS⟩:∃S,S=Sn.readS v:=⟨_,rfl⟩
 rw[← hS] at hT hR ⊢
 clear hS
 obtain⟨d,s,N,h,bb,x,y,p,q⟩:=S
 simp only at hT hR ⊢
 have h32:w.heap.size+2≤w3.heap.size:=by have:=hb3.size;omega
 have hlt1:w.heap.size+1<w3.heap.size:=by omega
 have hlt0:w.heap.size<w3.heap.size:=by omega
 have r2:=(hb3.block _ (show w.heap.size+1<W2.heap.size by omega)).trans HR2.out
 have r1:=(hb3.block _ (show w.heap.size<W2.heap.size by omega)).trans HR1.out
 have HR3:=mkHid r2
 have HR4:=mkHid r1
 obtain⟨a0,a1⟩:=Sn.cells2 r2
 have f0:=frozen_at r2 0
 have f1:=frozen_at r2 1
 have HB3:=mkHid (HB2.out.trans (hb3.mono (by omega)))
 have HT:=mkHid hT
 clear m0 m1 m2 r1 r2 hb3 HB2 HR1 HR2 hE2 hc1 hgf hgf1 hT hlt0
 obtain⟨rt,hrt⟩:∃b,b=Sn.right ⟨d,s,N,h,bb,x,y,p,q⟩ v:=⟨_,rfl⟩
 rw[← hrt] at hR ⊢
 cases rt
 ·have HR:=mkHid hR
  clear hR hrt
  go_wp2
  have h1:=heap_setCell_same _ _ 0 _ _ (.string ⟨#[]⟩) HR3.out
  have h2:=heap_setCell_same _ _ 1 _ _ (.int .i64 2) h1
  have hbZ:=((HB3.out.grown (grown_set _ (w.heap.size+1) 0 (.string ⟨#[]⟩)) HB3.out.size (fun j hj=>by cases hj;omega)).grown (grown_set _ (w.heap.size+1) 1 (.int .i64 2)) (by simp[World.setCell];omega) (fun j hj=>by cases hj;omega))
  have hlz:w.heap.size+1<((w3.setCell ⟨w.heap.size+1,0,none⟩ (.string ⟨#[]⟩)).setCell ⟨w.heap.size+1,1,none⟩ (.int .i64 2)).heap.size:=by simp[World.setCell];omega
  generalize (w3.setCell ⟨w.heap.size+1,0,none⟩ (.string ⟨#[]⟩)).setCell ⟨w.heap.size+1,1,none⟩ (.int .i64 2)=Z at h2 hbZ hlz ⊢
  have hbY:=hbZ.alloc hbZ.size (.cells (sgCells d s 0 0 (.slice (some ⟨gN,0,none⟩) N.length N.length) h bb x y p q) 54)
  have h3:=(((Below.refl Z.heap.size Z).alloc (Nat.le_refl _) (.cells (sgCells d s 0 0 (.slice (some ⟨gN,0,none⟩) N.length N.length) h bb x y p q) 54)).block _ hlz).trans h2
  refine bodyPost_ret (v:=Sn.anV (⟨#[]⟩,2)) (results_cell_row Tryz.results30 _ _ (w.heap.size+1) 35 _ (0,0) _ rfl h3 Tryz.underlying35 rfl (by kernel_rfl)) rfl ⟨by rw[HR.out];rfl,hbY⟩
 ·rw[if_pos rfl] at hR
  have hrt2:=hrt.symm
  unfold Sn.right at hrt2
  simp only[Bool.and_eq_true] at hrt2
  obtain⟨g1,g2,g3,-⟩:=hrt2
  clear hrt
  have g2':=g2
  have g3':=g3
  unfold Sn.sumR at g2' g3'
  simp only[Bool.and_eq_true,decide_eq_true_eq] at g2' g3'
  obtain⟨x,rfl⟩:∃X:Nat,x=X:=⟨x.toNat,by omega⟩
  obtain⟨y,rfl⟩:∃X:Nat,y=X:=⟨y.toNat,by omega⟩
  obtain⟨p,rfl⟩:∃X:Nat,p=X:=⟨p.toNat,by omega⟩
  obtain⟨q,rfl⟩:∃X:Nat,q=X:=⟨q.toNat,by omega⟩
  have hNl:0<N.length:=by
   unfold Sn.says at g1
   simp only[Bool.and_eq_true,decide_eq_true_eq] at g1
   omega
  have hgN:gN<w3.heap.size:=by
   obtain⟨a,ha,hal,-⟩:=HT.out 0 hNl
   cases ha
   exact hal
  have hTc:∀(j:Nat) t,N[j]?=some t→w3.cell? ⟨gN,j,none⟩=some (.string t):=fun j t hj=>by
   obtain⟨hj1,hj2⟩:=List.getElem?_eq_some_iff.1 hj
   obtain⟨a,ha,-,hac⟩:=HT.out j hj1
   cases ha
   rw[Addr.add_lit,Nat.zero_add] at hac
   rw[← hj2]
   exact hac
  have HR:=mkHid hR
  obtain⟨W4,hW4⟩:∃W,W=w3.alloc (.cells (sgCells d s 0 0 (.slice (some ⟨gN,0,none⟩) N.length N.length) h bb x y p q) 54):=⟨_,rfl⟩
  have b34:Below w3.heap.size w3 W4:=by rw[hW4];exact(Below.refl _ _).alloc (Nat.le_refl _) _
  have r5:W4.heap[w3.heap.size]?=some (.cells (sgCells d s 0 0 (.slice (some ⟨gN,0,none⟩) N.length N.length) h bb x y p q) 54 (0,0)):=by rw[hW4];exact heap_alloc_at _ _
  have hB4:=HB3.out.trans (b34.mono (by omega))
  have hl4:=b34.size
  have HS0:=mkHid ((b34.block _ (show w.heap.size<w3.heap.size by omega)).trans HR4.out)
  have HR5:=mkHid ((b34.block _ hlt1).trans HR3.out)
  have HS1:=mkHid r5
  have HB4:=mkHid hB4
  have cR:Hid (∀W,Below W4.heap.size W4 W→Calls Tryz.prog 79 #[.agg #[.slice (some ⟨gf,0,none⟩) F.length cap,.string body,.slice (some ⟨b,0,none⟩) K.length c],.agg (sgCells d s 0 0 (.slice (some ⟨gN,0,none⟩) N.length N.length) h bb x y p q),.int .i64 i] W fun e w'=>e=.returned (.int .i64 (Sn.resOf (Sn.findK d s K) body ⟨F[i].1.toArray⟩ (toBA (F.eraseIdx i)) ⟨d,s,N,h,bb,x,y,p,q⟩))∧Below W.heap.size W w'):=fun W hW=>by
   have hbW:Below w.heap.size w W:=HB4.out.trans (hW.mono (by omega))
   have h3W:Below w3.heap.size w3 W:=b34.trans (hW.mono hl4)
   rw[← Hvf.out]
   exact implResultOf Bf vf F body b c gN K d s N h bb x y p q i W (World.ownsRow.kept HF.out (grown_below (r:=none) hbW) (Classical.em _)) hfl HFz.out hfs hi HN.out hbody (HK.out.below hbW) hl HKz.out g1 (by omega) (by omega) (fun j t hj=>(h3W.cell (p:=⟨gN,j,none⟩) hgN).trans (hTc j t hj)) (Nat.lt_of_lt_of_le hgN h3W.size) (HW.out.below hbW)
  generalize hRS:Sn.resOf (Sn.findK d s K) body ⟨F[i].1.toArray⟩ (toBA (F.eraseIdx i)) ⟨d,s,N,h,bb,x,y,p,q⟩=RS at *
  have HW4:=mkHid hW4
  clear hRS hW4 hR b34 r5 hB4 g1 g2 g3 g2' g3' hNl hgN hTc HT HR3 HR4 HF HFz HK HKz HW HN HV HB3
  go_wp2_with fail
  have e4:(w3.alloc (.cells (sgCells d s 0 0 (.slice (some ⟨gN,0,none⟩) N.length N.length) h bb x y p q) 54))=W4:=HW4.out.symm
  rw[e4]
  clear e4 HW4 a0 a1 f0 f1
  have hS4:W4.drew.heap[w.heap.size]?=some (.cells #[vf,.string body,.slice (some ⟨b,0,none⟩) K.length c] 62 (0,0))∧W4.drew.heap[w3.heap.size]?=some (.cells (sgCells d s 0 0 (.slice (some ⟨gN,0,none⟩) N.length N.length) h bb x y p q) 54 (0,0)):=⟨HS0.out,HS1.out⟩
  have hbD:Below W4.heap.size W4 W4.drew:=(Below.refl _ _).drew
  refine wp_region_held (S:=fun W=>W.heap[w.heap.size]?=some (.cells #[vf,.string body,.slice (some ⟨b,0,none⟩) K.length c] 62 (0,0))∧W.heap[w3.heap.size]?=some (.cells (sgCells d s 0 0 (.slice (some ⟨gN,0,none⟩) N.length N.length) h bb x y p q) 54 (0,0))) (by kernel_rfl) ?_
  refine tk 0 (.pointer (some ⟨w3.heap.size,0,none⟩)) hS4 ?_ ?_
  ·rintro W ⟨s0,s1⟩
   obtain⟨m0,m1,m2⟩:=Sn.cells3 s0
   obtain⟨k0,k1,k2,k3,k4,k5,k6,k7,k8,k9,k10⟩:=cells11 s1
   rw[Hvf.out] at m0
   clear s0 s1
   go_simp
  go_simp
  refine tk 1 (.pointer (some ⟨w3.heap.size,0,none⟩)) hS4 ?_ ?_
  ·rintro W ⟨s0,s1⟩
   obtain⟨m0,m1,m2⟩:=Sn.cells3 s0
   obtain⟨k0,k1,k2,k3,k4,k5,k6,k7,k8,k9,k10⟩:=cells11 s1
   rw[Hvf.out] at m0
   clear s0 s1
   go_simp
  go_simp
  refine tk 2 (.pointer (some ⟨w3.heap.size,0,none⟩)) hS4 ?_ ?_
  ·rintro W ⟨s0,s1⟩
   obtain⟨m0,m1,m2⟩:=Sn.cells3 s0
   obtain⟨k0,k1,k2,k3,k4,k5,k6,k7,k8,k9,k10⟩:=cells11 s1
   rw[Hvf.out] at m0
   clear s0 s1
   go_simp
  go_simp
  refine tk 3 (.string d) hS4 ?_ ?_
  ·rintro W ⟨s0,s1⟩
   obtain⟨m0,m1,m2⟩:=Sn.cells3 s0
   obtain⟨k0,k1,k2,k3,k4,k5,k6,k7,k8,k9,k10⟩:=cells11 s1
   rw[Hvf.out] at m0
   clear s0 s1
   go_simp
  go_simp
  refine tk 4 (.agg #[.slice (some ⟨gf,0,none⟩) F.length cap,.string body,.slice (some ⟨b,0,none⟩) K.length c]) hS4 ?_ ?_
  ·rintro W ⟨s0,s1⟩
   obtain⟨m0,m1,m2⟩:=Sn.cells3 s0
   obtain⟨k0,k1,k2,k3,k4,k5,k6,k7,k8,k9,k10⟩:=cells11 s1
   rw[Hvf.out] at m0
   clear s0 s1
   go_simp
  go_simp
  refine tk 5 (.agg (sgCells d s 0 0 (.slice (some ⟨gN,0,none⟩) N.length N.length) h bb x y p q)) hS4 ?_ ?_
  ·rintro W ⟨s0,s1⟩
   obtain⟨m0,m1,m2⟩:=Sn.cells3 s0
   obtain⟨k0,k1,k2,k3,k4,k5,k6,k7,k8,k9,k10⟩:=cells11 s1
   rw[Hvf.out] at m0
   clear s0 s1
   go_simp
  go_simp
  refine tk 6 (.int .i64 i) hS4 ?_ ?_
  ·rintro W ⟨s0,s1⟩
   obtain⟨m0,m1,m2⟩:=Sn.cells3 s0
   obtain⟨k0,k1,k2,k3,k4,k5,k6,k7,k8,k9,k10⟩:=cells11 s1
   rw[Hvf.out] at m0
   clear s0 s1
   go_simp
  go_simp
  refine wpAnyH_all (rs:=[7]) (by kernel_rfl) (by simp) ?_
  intro j hj
  simp only[List.mem_cons,List.not_mem_nil,or_false] at hj
  subst hj
  refine wpOp_step rfl (fun KK hK=>?_)
  go_simp
  refine(cR.out _ hbD).mono ?_
  rintro e w5 ⟨rfl,hc⟩
  have h45:Below W4.heap.size W4 w5:=hbD.trans (hc.mono hbD.size)
  have hS5:w5.heap[w.heap.size]?=some (.cells #[vf,.string body,.slice (some ⟨b,0,none⟩) K.length c] 62 (0,0))∧w5.heap[w3.heap.size]?=some (.cells (sgCells d s 0 0 (.slice (some ⟨gN,0,none⟩) N.length N.length) h bb x y p q) 54 (0,0)):=⟨(h45.block _ (heap_lt HS0.out)).trans HS0.out,(h45.block _ (heap_lt HS1.out)).trans HS1.out⟩
  have h5:=(h45.block _ (heap_lt HR5.out)).trans HR5.out
  have hB5:=HB4.out.trans (h45.mono (by omega))
  clear hc hbD hS4 cR
  refine hK _ _ ⟨hS5,?_⟩
  clear hK
  go_simp
  refine tk 8 (.agg #[.string d,.int .i64 RS]) hS5 ?_ ?_
  ·rintro W ⟨s0,s1⟩
   obtain⟨m0,m1,m2⟩:=Sn.cells3 s0
   obtain⟨k0,k1,k2,k3,k4,k5,k6,k7,k8,k9,k10⟩:=cells11 s1
   rw[Hvf.out] at m0
   clear s0 s1
   go_simp
  go_simp
  refine wpAnyH_all (rs:=[9]) (by kernel_rfl) (by simp) ?_
  intro j hj
  simp only[List.mem_cons,List.not_mem_nil,or_false] at hj
  subst hj
  refine wpOp_step rfl (fun KK hK=>?_)
  refine wp_store_row 35 _ _ rfl (w.heap.size+1) #[.string d,.int .i64 RS] rfl rfl 35 _ h5 (by kernel_rfl) rfl (by simp[Value.oneCell']) ?_
  have hz:=hB5.grown (grown_setRow w5 (w.heap.size+1) #[.string d,.int .i64 RS]) hB5.size (fun j hj=>by cases hj;omega)
  have hV:=setRow_heap w5 (w.heap.size+1) _ #[.string d,.int .i64 RS] 35 (0,0) h5
  have hS6:=And.intro ((setRow_other w5 (w.heap.size+1) w.heap.size #[.string d,.int .i64 RS] (by omega)).trans hS5.1) ((setRow_other w5 (w.heap.size+1) w3.heap.size #[.string d,.int .i64 RS] (by omega)).trans hS5.2)
  generalize w5.setRow (w.heap.size+1) #[.string d,.int .i64 RS]=Z at hz hV hS6 ⊢
  refine hK _ _ ⟨hS6,?_⟩
  clear hK
  go_simp
  refine wpAnyH_done (by kernel_rfl) ?_ _
  go_wp2
  refine bodyPost_ret (v:=Sn.anV (d,RS)) (results_cell_row Tryz.results30 _ _ (w.heap.size+1) 35 _ (0,0) _ rfl hV Tryz.underlying35 rfl (by kernel_rfl)) rfl ⟨by rw[HR.out],hz⟩
end Go.Proofs.YtacaoiedcfelcaaGreatDoor
