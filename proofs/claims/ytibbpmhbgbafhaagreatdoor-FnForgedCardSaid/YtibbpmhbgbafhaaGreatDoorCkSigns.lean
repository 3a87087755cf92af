import Derived.Test.YtibbpmhbgbafhaaGreatDoorCkRes
import Derived.Test.YtibbpmhbgbafhaaGreatDoorSgImpl2
import Derived.Test.YtibbpmhbgbafhaaGreatDoorTextSpec
set_option maxRecDepth 20000
set_option maxHeartbeats 16000000
namespace Go.Proofs.YtibbpmhbgbafhaaGreatDoor
open Go.RowKit Go.Lib
namespace Sn
def ansOf (K:List Ky)(body n v:ByteArray)(others:List Fd):ByteArray × Int:=if right (readS v) v then ((readS v).d,resOf (findK (readS v).d (readS v).s K) body n others (readS v)) else (⟨#[]⟩,2)
abbrev anV (a:ByteArray × Int):Value:=.agg #[.string a.1,.int .i64 a.2]
end Sn
theorem frozen_at {w:World} {g:Nat} {cs:Array Value} {t:TypeId} (h:w.heap[g]?=some (.cells cs t (0,0)))(j:Nat):w.frozen? ⟨g,j,none⟩=false:=by simp[World.frozen?,h]
set_option maxRecDepth 40000 in
theorem implCheck (Bf:Nat)(vf:Value)(F:List Fl)(body:ByteArray)(b c:Nat)(K:List Sn.Ky)(i:Nat)(w:World)
  (hF:OwnF Bf vf F w) (hfl:F.length≤200) (hfz:∀f ∈ F,f.1.length≤100000∧f.2.length≤100000) (hfs:fsum (toBA F)≤100002) (hi:i<F.length) (hn:namedB ⟨F[i].1.toArray⟩ sgName=true)
  (hbody:body.size≤100000) (hK:Sn.KyL b w K) (hl:K.length≤100) (hkz:∀k ∈ K,k.d.size≤100000∧k.s.size≤100000) (hW:CkW w) :
  Calls Tryz.prog 28 #[.agg #[vf,.string body,.slice (some ⟨b,0,none⟩) K.length c],.int .i64 i] w fun e w'=>e=.returned (Sn.anV (Sn.ansOf K body ⟨F[i].1.toArray⟩ ⟨F[i].2.toArray⟩ (toBA (F.eraseIdx i))))∧Below w.heap.size w w':=by
 obtain⟨gf,cap,hvf⟩:∃g cap,vf=.slice (some ⟨g,0,none⟩) F.length cap:=by
  rcases hF.form with ⟨-,h0⟩|h0
  ·rw[h0] at hi;exact absurd hi (Nat.not_lt_zero _)
  ·exact h0
 have Hvf:=mkHid hvf
 obtain⟨W2,hW2⟩:∃W,W=(w.alloc (.cells #[vf,.string body,.slice (some ⟨b,0,none⟩) K.length c] 65)).alloc (.cells #[.string ⟨#[]⟩,.int .i64 0] 40):=⟨_,rfl⟩
 have hs2:W2.heap.size=w.heap.size+2:=by rw[hW2];simp
 have b02:Below w.heap.size w W2:=by rw[hW2];exact((Below.refl _ _).alloc (Nat.le_refl _) _).alloc (by simp) _
 have r1:W2.heap[w.heap.size]?=some (.cells #[vf,.string body,.slice (some ⟨b,0,none⟩) K.length c] 65 (0,0)):=by
  rw[hW2]
  exact(((Below.refl _ _).alloc (Nat.le_refl _) _).block _ (by simp)).trans (heap_alloc_at _ _)
 have r2:W2.heap[w.heap.size+1]?=some (.cells #[.string ⟨#[]⟩,.int .i64 0] 40 (0,0)):=by
  have:=heap_alloc_at (w.alloc (.cells #[vf,.string body,.slice (some ⟨b,0,none⟩) K.length c] 65)) (.cells #[.string ⟨#[]⟩,.int .i64 0] 40)
  rw[hW2]
  simpa using this
 have hF2:OwnF Bf vf F W2:=World.ownsRow.kept hF (grown_below (r:=none) b02) (Classical.em _)
 obtain⟨v,hv⟩:∃t:ByteArray,t=⟨F[i].2.toArray⟩:=⟨_,rfl⟩
 have hgf:gf<w.heap.size:=by
  have h2:=hF
  rw[hvf] at h2
  exact(World.ownsRow.lt h2 gf rfl).2
 have hgf1:gf<w.heap.size+1:=by omega
 have hc1:w.cell? ⟨gf,i*2+1,none⟩=some (.string v):=by
  have h2:=hF
  rw[hvf] at h2
  have:=World.ownsRow.cells h2 (g:=gf) rfl (i*2+1) _ (cellsF_get F i hi).2
  rw[add_off] at this
  rw[hv]
  exact this
 have hvz:v.size≤100000:=by
  rw[hv]
  show(F[i].2.toArray).size≤_
  have:=(hfz _ (List.getElem_mem hi)).2
  simp;omega
 have cS:=mkHid (implReadSig v W2 hvz (hW.below b02))
 have HR1:=mkHid r1
 have HR2:=mkHid r2
 have HB2:=mkHid b02
 have HF:=mkHid hF
 have HFz:=mkHid hfz
 have HK:=mkHid hK
 have HKz:=mkHid hkz
 have HW:=mkHid hW
 have HN:=mkHid hn
 have HV:=mkHid hv
 obtain⟨m0,m1,m2⟩:=Sn.cells3 r1
 have e2:(w.alloc (.cells #[vf,.string body,.slice (some ⟨b,0,none⟩) K.length c] 65)).alloc (.cells #[.string ⟨#[]⟩,.int .i64 0] 40)=W2:=hW2.symm
 rw[hvf] at e2
 have hE2:=mkHid e2
 rw[← hv]
 obtain⟨R,hR⟩:∃R,R=Sn.ansOf K body ⟨F[i].1.toArray⟩ v (toBA (F.eraseIdx i)):=⟨_,rfl⟩
 rw[← hR]
 have HR:=mkHid hR
 have hFL:F.length≤200:=hfl
 rw[hvf] at m0
 clear hR hv hn hW hkz hK hfz hF hF2 b02 r1 r2 hW2 e2 hvf
 go_enter Tryz.func28,Tryz.ntmps28
 rw[Hvf.out]
 go_wp2_with fail
 rw[hE2.out]
 refine cS.out.mono ?_
 rintro e w3 ⟨gN,rfl,hT,hb3⟩
 clear cS
 have hR:=HR.out
 unfold Sn.ansOf at hR
 clear HR
 obtain⟨S,hS⟩:∃S,S=Sn.readS v:=⟨_,rfl⟩
 rw[← hS] at hT hR ⊢
 clear hS
 obtain⟨d,s,N,h,bb,x,y,p,q⟩:=S
 simp only at hT hR ⊢
 have h32:w.heap.size+2≤w3.heap.size:=by have:=hb3.size;omega
 have hlt1:w.heap.size+1<w3.heap.size:=by omega
 have hlt0:w.heap.size<w3.heap.size:=by omega
 have r2:=(hb3.block _ (show w.heap.size+1<W2.heap.size by omega)).trans HR2.out
 have r1:=(hb3.block _ (show w.heap.size<W2.heap.size by omega)).trans HR1.out
 have HR3:=mkHid r2
 have HR4:=mkHid r1
 obtain⟨a0,a1⟩:=Sn.cells2 r2
 have f0:=frozen_at r2 0
 have f1:=frozen_at r2 1
 have HB3:=mkHid (HB2.out.trans (hb3.mono (by omega)))
 have HT:=mkHid hT
 clear m0 m1 m2 r1 r2 hb3 HB2 HR1 HR2 hE2 hc1 hgf hgf1 hT hlt0
 obtain⟨rt,hrt⟩:∃b,b=Sn.right ⟨d,s,N,h,bb,x,y,p,q⟩ v:=⟨_,rfl⟩
 rw[← hrt] at hR ⊢
 cases rt
 ·have HR:=mkHid hR
  clear hR hrt
  go_wp2
  have h1:=heap_setCell_same _ _ 0 _ _ (.string ⟨#[]⟩) HR3.out
  have h2:=heap_setCell_same _ _ 1 _ _ (.int .i64 2) h1
  have hbZ:=((HB3.out.grown (grown_set _ (w.heap.size+1) 0 (.string ⟨#[]⟩)) HB3.out.size (fun j hj=>by cases hj;omega)).grown (grown_set _ (w.heap.size+1) 1 (.int .i64 2)) (by simp[World.setCell];omega) (fun j hj=>by cases hj;omega))
  have hlz:w.heap.size+1<((w3.setCell ⟨w.heap.size+1,0,none⟩ (.string ⟨#[]⟩)).setCell ⟨w.heap.size+1,1,none⟩ (.int .i64 2)).heap.size:=by simp[World.setCell];omega
  generalize (w3.setCell ⟨w.heap.size+1,0,none⟩ (.string ⟨#[]⟩)).setCell ⟨w.heap.size+1,1,none⟩ (.int .i64 2)=Z at h2 hbZ hlz ⊢
  have hbY:=hbZ.alloc hbZ.size (.cells (sgCells d s 0 0 (.slice (some ⟨gN,0,none⟩) N.length N.length) h bb x y p q) 93)
  have h3:=(((Below.refl Z.heap.size Z).alloc (Nat.le_refl _) (.cells (sgCells d s 0 0 (.slice (some ⟨gN,0,none⟩) N.length N.length) h bb x y p q) 93)).block _ hlz).trans h2
  refine bodyPost_ret (v:=Sn.anV (⟨#[]⟩,2)) (results_cell_row Tryz.results28 _ _ (w.heap.size+1) 40 _ (0,0) _ rfl h3 Tryz.underlying40 rfl (by kernel_rfl)) rfl ⟨by rw[HR.out];rfl,hbY⟩
 ·rw[if_pos rfl] at hR
  have hrt2:=hrt.symm
  unfold Sn.right at hrt2
  simp only[Bool.and_eq_true] at hrt2
  obtain⟨g1,g2,g3,-⟩:=hrt2
  clear hrt
  have g2':=g2
  have g3':=g3
  unfold Sn.sumR at g2' g3'
  simp only[Bool.and_eq_true,decide_eq_true_eq] at g2' g3'
  obtain⟨x,rfl⟩:∃X:Nat,x=X:=⟨x.toNat,by omega⟩
  obtain⟨y,rfl⟩:∃X:Nat,y=X:=⟨y.toNat,by omega⟩
  obtain⟨p,rfl⟩:∃X:Nat,p=X:=⟨p.toNat,by omega⟩
  obtain⟨q,rfl⟩:∃X:Nat,q=X:=⟨q.toNat,by omega⟩
  have hNl:0<N.length:=by
   unfold Sn.says at g1
   simp only[Bool.and_eq_true,decide_eq_true_eq] at g1
   omega
  have hgN:gN<w3.heap.size:=by
   obtain⟨a,ha,hal,-⟩:=HT.out 0 hNl
   cases ha
   exact hal
  have hTc:∀(j:Nat) t,N[j]?=some t→w3.cell? ⟨gN,j,none⟩=some (.string t):=fun j t hj=>by
   obtain⟨hj1,hj2⟩:=List.getElem?_eq_some_iff.1 hj
   obtain⟨a,ha,-,hac⟩:=HT.out j hj1
   cases ha
   rw[Addr.add_lit,Nat.zero_add] at hac
   rw[← hj2]
   exact hac
  have HR:=mkHid hR
  obtain⟨W4,hW4⟩:∃W,W=w3.alloc (.cells (sgCells d s 0 0 (.slice (some ⟨gN,0,none⟩) N.length N.length) h bb x y p q) 93):=⟨_,rfl⟩
  have b34:Below w3.heap.size w3 W4:=by rw[hW4];exact(Below.refl _ _).alloc (Nat.le_refl _) _
  have r5:W4.heap[w3.heap.size]?=some (.cells (sgCells d s 0 0 (.slice (some ⟨gN,0,none⟩) N.length N.length) h bb x y p q) 93 (0,0)):=by rw[hW4];exact heap_alloc_at _ _
  have hB4:=HB3.out.trans (b34.mono (by omega))
  have hl4:=b34.size
  have HS0:=mkHid ((b34.block _ (show w.heap.size<w3.heap.size by omega)).trans HR4.out)
  have HR5:=mkHid ((b34.block _ hlt1).trans HR3.out)
  have HS1:=mkHid r5
  have HB4:=mkHid hB4
  have cR:Hid (∀W,Below W4.heap.size W4 W→Calls Tryz.prog 56 #[.agg #[.slice (some ⟨gf,0,none⟩) F.length cap,.string body,.slice (some ⟨b,0,none⟩) K.length c],.agg (sgCells d s 0 0 (.slice (some ⟨gN,0,none⟩) N.length N.length) h bb x y p q),.int .i64 i] W fun e w'=>e=.returned (.int .i64 (Sn.resOf (Sn.findK d s K) body ⟨F[i].1.toArray⟩ (toBA (F.eraseIdx i)) ⟨d,s,N,h,bb,x,y,p,q⟩))∧Below W.heap.size W w'):=fun W hW=>by
   have hbW:Below w.heap.size w W:=HB4.out.trans (hW.mono (by omega))
   have h3W:Below w3.heap.size w3 W:=b34.trans (hW.mono hl4)
   rw[← Hvf.out]
   exact implResultOf Bf vf F body b c gN K d s N h bb x y p q i W (World.ownsRow.kept HF.out (grown_below (r:=none) hbW) (Classical.em _)) hfl HFz.out hfs hi HN.out hbody (HK.out.below hbW) hl HKz.out g1 (by omega) (by omega) (fun j t hj=>(h3W.cell (p:=⟨gN,j,none⟩) hgN).trans (hTc j t hj)) (Nat.lt_of_lt_of_le hgN h3W.size) (HW.out.below hbW)
  generalize hRS:Sn.resOf (Sn.findK d s K) body ⟨F[i].1.toArray⟩ (toBA (F.eraseIdx i)) ⟨d,s,N,h,bb,x,y,p,q⟩=RS at *
  have HW4:=mkHid hW4
  clear hRS hW4 hR b34 r5 hB4 g1 g2 g3 g2' g3' hNl hgN hTc HT HR3 HR4 HF HFz HK HKz HW HN HV HB3
  go_wp2_with fail
  have e4:(w3.alloc (.cells (sgCells d s 0 0 (.slice (some ⟨gN,0,none⟩) N.length N.length) h bb x y p q) 93))=W4:=HW4.out.symm
  rw[e4]
  clear e4 HW4 a0 a1 f0 f1
  have hS4:W4.drew.heap[w.heap.size]?=some (.cells #[vf,.string body,.slice (some ⟨b,0,none⟩) K.length c] 65 (0,0))∧W4.drew.heap[w3.heap.size]?=some (.cells (sgCells d s 0 0 (.slice (some ⟨gN,0,none⟩) N.length N.length) h bb x y p q) 93 (0,0)):=⟨HS0.out,HS1.out⟩
  have hbD:Below W4.heap.size W4 W4.drew:=(Below.refl _ _).drew
  refine wp_region_held (S:=fun W=>W.heap[w.heap.size]?=some (.cells #[vf,.string body,.slice (some ⟨b,0,none⟩) K.length c] 65 (0,0))∧W.heap[w3.heap.size]?=some (.cells (sgCells d s 0 0 (.slice (some ⟨gN,0,none⟩) N.length N.length) h bb x y p q) 93 (0,0))) (by kernel_rfl) ?_
  refine wpAnyH_take (S:=fun W=>W.heap[w.heap.size]?=some (.cells #[vf,.string body,.slice (some ⟨b,0,none⟩) K.length c] 65 (0,0))∧W.heap[w3.heap.size]?=some (.cells (sgCells d s 0 0 (.slice (some ⟨gN,0,none⟩) N.length N.length) h bb x y p q) 93 (0,0))) (i:=0) (v:=.pointer (some ⟨w3.heap.size,0,none⟩)) rfl (by kernel_rfl) (by kernel_rfl) (by kernel_rfl) (fun _ _ _ h=>h) (Or.inl ⟨by rfl,?_⟩) hS4 ?_
  ·rintro W ⟨s0,s1⟩
   obtain⟨m0,m1,m2⟩:=Sn.cells3 s0
   obtain⟨k0,k1,k2,k3,k4,k5,k6,k7,k8,k9,k10⟩:=cells11 s1
   rw[Hvf.out] at m0
   clear s0 s1
   go_simp
  go_simp
  refine wpAnyH_take (S:=fun W=>W.heap[w.heap.size]?=some (.cells #[vf,.string body,.slice (some ⟨b,0,none⟩) K.length c] 65 (0,0))∧W.heap[w3.heap.size]?=some (.cells (sgCells d s 0 0 (.slice (some ⟨gN,0,none⟩) N.length N.length) h bb x y p q) 93 (0,0))) (i:=1) (v:=.pointer (some ⟨w3.heap.size,0,none⟩)) rfl (by kernel_rfl) (by kernel_rfl) (by kernel_rfl) (fun _ _ _ h=>h) (Or.inl ⟨by rfl,?_⟩) hS4 ?_
  ·rintro W ⟨s0,s1⟩
   obtain⟨m0,m1,m2⟩:=Sn.cells3 s0
   obtain⟨k0,k1,k2,k3,k4,k5,k6,k7,k8,k9,k10⟩:=cells11 s1
   rw[Hvf.out] at m0
   clear s0 s1
   go_simp
  go_simp
  refine wpAnyH_take (S:=fun W=>W.heap[w.heap.size]?=some (.cells #[vf,.string body,.slice (some ⟨b,0,none⟩) K.length c] 65 (0,0))∧W.heap[w3.heap.size]?=some (.cells (sgCells d s 0 0 (.slice (some ⟨gN,0,none⟩) N.length N.length) h bb x y p q) 93 (0,0))) (i:=2) (v:=.pointer (some ⟨w3.heap.size,0,none⟩)) rfl (by kernel_rfl) (by kernel_rfl) (by kernel_rfl) (fun _ _ _ h=>h) (Or.inl ⟨by rfl,?_⟩) hS4 ?_
  ·rintro W ⟨s0,s1⟩
   obtain⟨m0,m1,m2⟩:=Sn.cells3 s0
   obtain⟨k0,k1,k2,k3,k4,k5,k6,k7,k8,k9,k10⟩:=cells11 s1
   rw[Hvf.out] at m0
   clear s0 s1
   go_simp
  go_simp
  refine wpAnyH_take (S:=fun W=>W.heap[w.heap.size]?=some (.cells #[vf,.string body,.slice (some ⟨b,0,none⟩) K.length c] 65 (0,0))∧W.heap[w3.heap.size]?=some (.cells (sgCells d s 0 0 (.slice (some ⟨gN,0,none⟩) N.length N.length) h bb x y p q) 93 (0,0))) (i:=3) (v:=.string d) rfl (by kernel_rfl) (by kernel_rfl) (by kernel_rfl) (fun _ _ _ h=>h) (Or.inl ⟨by rfl,?_⟩) hS4 ?_
  ·rintro W ⟨s0,s1⟩
   obtain⟨m0,m1,m2⟩:=Sn.cells3 s0
   obtain⟨k0,k1,k2,k3,k4,k5,k6,k7,k8,k9,k10⟩:=cells11 s1
   rw[Hvf.out] at m0
   clear s0 s1
   go_simp
  go_simp
  refine wpAnyH_take (S:=fun W=>W.heap[w.heap.size]?=some (.cells #[vf,.string body,.slice (some ⟨b,0,none⟩) K.length c] 65 (0,0))∧W.heap[w3.heap.size]?=some (.cells (sgCells d s 0 0 (.slice (some ⟨gN,0,none⟩) N.length N.length) h bb x y p q) 93 (0,0))) (i:=4) (v:=.agg #[.slice (some ⟨gf,0,none⟩) F.length cap,.string body,.slice (some ⟨b,0,none⟩) K.length c]) rfl (by kernel_rfl) (by kernel_rfl) (by kernel_rfl) (fun _ _ _ h=>h) (Or.inl ⟨by rfl,?_⟩) hS4 ?_
  ·rintro W ⟨s0,s1⟩
   obtain⟨m0,m1,m2⟩:=Sn.cells3 s0
   obtain⟨k0,k1,k2,k3,k4,k5,k6,k7,k8,k9,k10⟩:=cells11 s1
   rw[Hvf.out] at m0
   clear s0 s1
   go_simp
  go_simp
  refine wpAnyH_take (S:=fun W=>W.heap[w.heap.size]?=some (.cells #[vf,.string body,.slice (some ⟨b,0,none⟩) K.length c] 65 (0,0))∧W.heap[w3.heap.size]?=some (.cells (sgCells d s 0 0 (.slice (some ⟨gN,0,none⟩) N.length N.length) h bb x y p q) 93 (0,0))) (i:=5) (v:=.agg (sgCells d s 0 0 (.slice (some ⟨gN,0,none⟩) N.length N.length) h bb x y p q)) rfl (by kernel_rfl) (by kernel_rfl) (by kernel_rfl) (fun _ _ _ h=>h) (Or.inl ⟨by rfl,?_⟩) hS4 ?_
  ·rintro W ⟨s0,s1⟩
   obtain⟨m0,m1,m2⟩:=Sn.cells3 s0
   obtain⟨k0,k1,k2,k3,k4,k5,k6,k7,k8,k9,k10⟩:=cells11 s1
   rw[Hvf.out] at m0
   clear s0 s1
   go_simp
  go_simp
  refine wpAnyH_take (S:=fun W=>W.heap[w.heap.size]?=some (.cells #[vf,.string body,.slice (some ⟨b,0,none⟩) K.length c] 65 (0,0))∧W.heap[w3.heap.size]?=some (.cells (sgCells d s 0 0 (.slice (some ⟨gN,0,none⟩) N.length N.length) h bb x y p q) 93 (0,0))) (i:=6) (v:=.int .i64 i) rfl (by kernel_rfl) (by kernel_rfl) (by kernel_rfl) (fun _ _ _ h=>h) (Or.inl ⟨by rfl,?_⟩) hS4 ?_
  ·rintro W ⟨s0,s1⟩
   obtain⟨m0,m1,m2⟩:=Sn.cells3 s0
   obtain⟨k0,k1,k2,k3,k4,k5,k6,k7,k8,k9,k10⟩:=cells11 s1
   rw[Hvf.out] at m0
   clear s0 s1
   go_simp
  go_simp
  refine wpAnyH_all (rs:=[7]) (by kernel_rfl) (by simp) ?_
  intro j hj
  simp only[List.mem_cons,List.not_mem_nil,or_false] at hj
  subst hj
  refine wpOp_step rfl (fun KK hK=>?_)
  go_simp
  refine(cR.out _ hbD).mono ?_
  rintro e w5 ⟨rfl,hc⟩
  have h45:Below W4.heap.size W4 w5:=hbD.trans (hc.mono hbD.size)
  have hS5:w5.heap[w.heap.size]?=some (.cells #[vf,.string body,.slice (some ⟨b,0,none⟩) K.length c] 65 (0,0))∧w5.heap[w3.heap.size]?=some (.cells (sgCells d s 0 0 (.slice (some ⟨gN,0,none⟩) N.length N.length) h bb x y p q) 93 (0,0)):=⟨(h45.block _ (heap_lt HS0.out)).trans HS0.out,(h45.block _ (heap_lt HS1.out)).trans HS1.out⟩
  have h5:=(h45.block _ (heap_lt HR5.out)).trans HR5.out
  have hB5:=HB4.out.trans (h45.mono (by omega))
  clear hc hbD hS4 cR
  refine hK _ _ ⟨hS5,?_⟩
  clear hK
  go_simp
  refine wpAnyH_take (S:=fun W=>W.heap[w.heap.size]?=some (.cells #[vf,.string body,.slice (some ⟨b,0,none⟩) K.length c] 65 (0,0))∧W.heap[w3.heap.size]?=some (.cells (sgCells d s 0 0 (.slice (some ⟨gN,0,none⟩) N.length N.length) h bb x y p q) 93 (0,0))) (i:=8) (v:=.agg #[.string d,.int .i64 RS]) rfl (by kernel_rfl) (by kernel_rfl) (by kernel_rfl) (fun _ _ _ h=>h) (Or.inl ⟨by rfl,?_⟩) hS5 ?_
  ·rintro W ⟨s0,s1⟩
   obtain⟨m0,m1,m2⟩:=Sn.cells3 s0
   obtain⟨k0,k1,k2,k3,k4,k5,k6,k7,k8,k9,k10⟩:=cells11 s1
   rw[Hvf.out] at m0
   clear s0 s1
   go_simp
  go_simp
  refine wpAnyH_all (rs:=[9]) (by kernel_rfl) (by simp) ?_
  intro j hj
  simp only[List.mem_cons,List.not_mem_nil,or_false] at hj
  subst hj
  refine wpOp_step rfl (fun KK hK=>?_)
  refine wp_store_row 40 _ _ rfl (w.heap.size+1) #[.string d,.int .i64 RS] rfl rfl 40 _ h5 (by kernel_rfl) rfl (by simp[Value.oneCell']) ?_
  have hz:=hB5.grown (grown_setRow w5 (w.heap.size+1) #[.string d,.int .i64 RS]) hB5.size (fun j hj=>by cases hj;omega)
  have hV:=setRow_heap w5 (w.heap.size+1) _ #[.string d,.int .i64 RS] 40 (0,0) h5
  have hS6:=And.intro ((setRow_other w5 (w.heap.size+1) w.heap.size #[.string d,.int .i64 RS] (by omega)).trans hS5.1) ((setRow_other w5 (w.heap.size+1) w3.heap.size #[.string d,.int .i64 RS] (by omega)).trans hS5.2)
  generalize w5.setRow (w.heap.size+1) #[.string d,.int .i64 RS]=Z at hz hV hS6 ⊢
  refine hK _ _ ⟨hS6,?_⟩
  clear hK
  go_simp
  refine wpAnyH_done (by kernel_rfl) ?_ _
  go_wp2
  refine bodyPost_ret (v:=Sn.anV (d,RS)) (results_cell_row Tryz.results28 _ _ (w.heap.size+1) 40 _ (0,0) _ rfl hV Tryz.underlying40 rfl (by kernel_rfl)) rfl ⟨by rw[HR.out],hz⟩
theorem implTooLongK (s:ByteArray)(w:World)(hs:s.size≤100000):Calls Tryz.prog 49 #[.string s] w fun e w'=>e=.returned (.bool false)∧w=w':=by
 have h:¬(100000:Int)<(s.size:Int):=by omega
 go_enter Tryz.func49,Tryz.ntmps49
 go_wp2
 go_ret
 exact⟨rfl,rfl⟩
theorem implHasLongName (b:Sn.Ky)(w:World)(hb:b.d.size≤100000∧b.s.size≤100000):Calls Tryz.prog 26 #[Sn.kyV b] w fun e w'=>e=.returned (.bool false)∧Below w.heap.size w w':=by
 obtain⟨h1,h2⟩:=hb
 obtain⟨V,hV⟩:∃V,w.alloc (.cells #[.string b.d,.string b.s,.int .i64 b.A,.int .i64 b.B] 24)=V:=⟨_,rfl⟩
 have bV:Below w.heap.size w V:=by rw[← hV];exact(Below.refl _ _).alloc (Nat.le_refl _) _
 have c1:=mkHid (fun W=>implTooLongK b.d W (by omega))
 have c2:=mkHid (fun W=>implTooLongK b.s W (by omega))
 have HV:=mkHid hV
 have HbV:=mkHid bV
 clear hV bV
 go_enter Tryz.func26,Tryz.ntmps26
 go_wp2_with fail
 refine(c1.out _).mono ?_
 rintro e w1 ⟨rfl,rfl⟩
 go_wp2_with fail
 refine(c2.out _).mono ?_
 rintro e w1 ⟨rfl,rfl⟩
 go_wp2
 go_ret
 rw[HV.out]
 exact⟨rfl,HbV.out⟩
theorem implIndexLongK (b:Nat)(M:List Sn.Ky)(cap:Nat)(w:World)(hM:Sn.KyL b w M)(hl:M.length≤100)(hsm:∀k ∈ M,k.d.size≤100000∧k.s.size≤100000) :
  Calls Tryz.prog 53 #[.slice (some ⟨b,0,none⟩) M.length cap,.func (.func 26) #[] #[]] w fun e w'=>e=.returned (.int .i64 (-1))∧Below w.heap.size w w':=by
 have hE:∀(args:Array Value) (w:World),(callFunc 26 args).run Tryz.prog w=.ok (.enter 26 args) w:=Go.Proofs.enters_of Tryz.func26 (by kernel_rfl) rfl
 have HM:=mkHid hM
 have Hsm:=mkHid hsm
 clear hM hsm
 go_enter Tryz.func53,Tryz.ntmps53
 go_wp2
 go_loopw [5,8] (fun _ iv wr=>∃ k:Nat,k≤M.length∧iv=.int .i64 k∧Hid (Below w.heap.size w wr)) (fun _ iv _=>M.length-(Lib.intOf iv).toNat)
 case atStart=>exact⟨0,Nat.zero_le _,rfl,Below.refl _ _⟩
 case round=>
  obtain⟨k,hk,rfl,hb⟩:=hrel
  by_cases hlt:k<M.length
  ·obtain⟨a0,a1,a2,a3⟩:=(HM.out.below hb.out).2 k hlt
   have cN:=mkHid (implHasLongName M[k] wr (Hsm.out _ (List.getElem_mem hlt)))
   generalize M[k]=x at *
   go_wp2_with fail
   refine cN.out.mono ?_
   rintro e w1 ⟨rfl,hb1⟩
   have hB1:=mkHid (hb.out.trans (hb1.mono hb.out.size))
   clear cN hb1 hb
   go_wp2
   go_roundw
   case rel=>exact⟨k+1,by omega,by go_num,hB1⟩
   case measure=>simp[Lib.intOf];omega
  ·go_wp2
   go_ret
   exact⟨rfl,hb.out⟩
theorem implContainsLongK (b:Nat)(M:List Sn.Ky)(cap:Nat)(w:World)(hM:Sn.KyL b w M)(hl:M.length≤100)(hsm:∀k ∈ M,k.d.size≤100000∧k.s.size≤100000) :
  Calls Tryz.prog 25 #[.slice (some ⟨b,0,none⟩) M.length cap,.func (.func 26) #[] #[]] w fun e w'=>e=.returned (.bool false)∧Below w.heap.size w w':=by
 have hI:=mkHid (implIndexLongK b M cap w hM hl hsm)
 clear hM hsm
 go_enter Tryz.func25,Tryz.ntmps25
 go_wp2_with fail
 refine hI.out.mono ?_
 rintro e w2 ⟨rfl,hb⟩
 go_wp2
 go_ret
 exact⟨rfl,hb⟩
namespace Sn
def anCells (L:List (ByteArray × Int)):List Value:=L.flatMap fun a=>[.string a.1,.int .i64 a.2]
theorem anCells_app (F G:List (ByteArray × Int)):anCells (F++G)=anCells F++anCells G:=by simp[anCells]
def An (B:Nat)(v:Value)(L:List (ByteArray × Int))(w:World):Prop:=w.ownsRow B 40 2 v L.length (anCells L)
theorem An.nil (B:Nat)(w:World):An B (.slice none 0 0) [] w:=World.ownsRow_nil _ _ _ _
theorem An.base {B B':Nat} {v:Value} {E:List (ByteArray × Int)} {w:World} (h:An B v E w)(hB:B'≤B):An B' v E w:=by
 refine⟨h.1,?_⟩
 rcases h.2 with h0|⟨g,cap,cur,hv,hg,hr⟩
 ·exact .inl h0
 ·exact .inr ⟨g,cap,cur,hv,Nat.le_trans hB hg,hr⟩
theorem An.form {B:Nat} {v:Value} {F:List (ByteArray × Int)} {w:World} (h:An B v F w):(v=.slice none 0 0∧F=[])∨∃ g cap,v=.slice (some ⟨g,0,none⟩) F.length cap:=by
 rcases h.2 with ⟨rfl,h0⟩|⟨g,cap,cur,rfl,-⟩
 ·exact .inl ⟨rfl,List.length_eq_zero_iff.1 h0⟩
 ·exact .inr ⟨g,cap,rfl⟩
end Sn
theorem Tryz.infoAn:(Tryz.prog.info? 40).map (fun i=>(i.zero,i.size,i.bytes))=some (some (.agg #[.string ⟨#[]⟩,.int .i64 0]),2,24):=by kernel_rfl
theorem wp_appAn {w:World} {ops:Array Oper} {rest:List Oper} {o:Oper} {a:Act} {Q:Exit→Act→World→Prop} (hgd:o.guard=none)(s x:Operand)
  (ho:o.op=.call { callee:=.builtin .append,args:=#[s,x],argTypes:=#[36,36] })
  (B:Nat) (v:Value) (C:List (ByteArray × Int)) (hs:a.eval s=v) (hown:Sn.An B v C w) (f:ByteArray × Int)
  (c:Nat) (hx:a.eval x=.slice (some ⟨w.heap.size,0,none⟩) 1 c) (hlen:C.length≤1000000) (hB:B≤w.heap.size)
  (h:∀v' w',Sn.An B v' (C ++ [f]) w'→Below B w w'→wpList Tryz.prog ops Q rest (a.put o.dst v') w'):wpList Tryz.prog ops Q (o::rest) a (w.alloc (.cells #[.string f.1,.int .i64 f.2] 40)):=by
 obtain⟨i0,hi0,hz0,hz1,hz2⟩:=info_parts Tryz.infoAn
 refine wpList_append_own _ hgd s x 36 ho B 40 i0 _ 2 24 Tryz.underlying36 hi0 hz0 hz1 hz2 rfl (by decide) v C.length (Sn.anCells C) hs (World.ownsRow.alloc hown _) ⟨w.heap.size,0,none⟩ 1 c [.string f.1,.int .i64 f.2] hx
  rfl ?_ ?_ (by unfold maxLen;omega) (by omega) (by simp;omega) ?_
 ·intro j u hj
  rw[add_off]
  match j,hj with
  | 0,hj=>simp at hj;subst hj;simp
  | 1,hj=>simp at hj;subst hj;simp
 ·intro u hu
  simp at hu
  rcases hu with rfl|rfl<;>rfl
 ·intro v' w' h1 h2 _
  refine h v' w' ?_ ?_
  ·unfold Sn.An
   rw[Sn.anCells_app,List.length_append]
   exact h1
  ·exact((Below.refl w.heap.size w).mono hB |>.alloc hB _).grown h2 (by simp;omega) (fun k hk=>(World.ownsRow.lt hown k hk).1)
set_option maxRecDepth 40000 in
theorem implCheckSigns (t:ByteArray)(b c:Nat)(K:List Sn.Ky)(w:World)(ht:t.size≤1048576)(hcode:(RH t).code=0)(f0:Fl)(F:List Fl)(hF0:(RH t).fields=f0::F)(hn0:namedB ⟨f0.1.toArray⟩ sgName=true)
  (hK:Sn.KyL b w K) (hl:K.length≤100) (hkz:∀k ∈ K,k.d.size≤100000∧k.s.size≤100000) (hW:CkW w) :
  Calls Tryz.prog 8 #[.string t,.slice (some ⟨b,0,none⟩) K.length c] w fun e w'=>∃ g cap C,e=.returned (.slice (some ⟨g,0,none⟩) (C.length+1) cap)∧Sn.An w.heap.size (.slice (some ⟨g,0,none⟩) (C.length+1) cap) (Sn.ansOf K (t.extract (RH t).body t.size) ⟨f0.1.toArray⟩ ⟨f0.2.toArray⟩ (toBA F)::C) w'∧Below w.heap.size w w':=by
 obtain⟨htz,hsum⟩:=RH_good t hcode
 have hlen:=RH_len t
 have hbody:=RH_body t
 have hfz:=fl_size _ _ hsum
 have hfs:fsum (toBA (RH t).fields)≤100002:=by rw[fsum_toBA];exact hsum
 have cH:=mkHid (implRH t w ht)
 generalize RH t=H at *
 obtain⟨code,at_,body,fields⟩:=H
 simp only at hcode hF0 hlen hbody hfz hfs hsum ⊢
 subst hcode
 unfold hdV at cH
 simp only at cH
 obtain⟨A0,hA0⟩:∃A,A=Sn.ansOf K (t.extract body t.size) ⟨f0.1.toArray⟩ ⟨f0.2.toArray⟩ (toBA F):=⟨_,rfl⟩
 rw[← hA0]
 have HA0:=mkHid hA0
 have HF0:=mkHid hF0
 have Hfz:=mkHid (show ∀f ∈ fields,f.1.length≤100000∧f.2.length≤100000 from fun f hf=>by have:=hfz f hf;omega)
 have HKz:=mkHid hkz
 have HK:=mkHid hK
 have HW:=mkHid hW
 clear hfz hkz hW hK hsum hA0 hF0
 go_enter Tryz.func8,Tryz.ntmps8
 go_wp2_with fail
 refine cH.out.mono ?_
 rintro e w1 ⟨o,cf,rfl,hO,hb1⟩
 clear cH
 obtain⟨gf,rfl⟩:∃g,o=some ⟨g,0,none⟩:=by
  rcases hO.form with ⟨-,h0⟩|⟨g,cap,h0⟩
  ·rw[HF0.out] at h0;cases h0
  ·exact⟨g,by simp only[Value.slice.injEq] at h0;exact h0.1⟩
 obtain⟨W2,hW2⟩:∃W,W=w1.alloc (.cells #[.int .i64 0,.int .i64 at_,.slice (some ⟨gf,0,none⟩) fields.length cf,.int .i64 body] 33):=⟨_,rfl⟩
 have b12:Below w1.heap.size w1 W2:=by rw[hW2];exact(Below.refl _ _).alloc (Nat.le_refl _) _
 have hs2:W2.heap.size=w1.heap.size+1:=by rw[hW2];simp
 have r2:W2.heap[w1.heap.size]?=some (.cells #[.int .i64 0,.int .i64 at_,.slice (some ⟨gf,0,none⟩) fields.length cf,.int .i64 body] 33 (0,0)):=by rw[hW2];exact heap_alloc_at _ _
 have b02:Below w.heap.size w W2:=hb1.trans (b12.mono hb1.size)
 have hO2:OwnF w.heap.size (.slice (some ⟨gf,0,none⟩) fields.length cf) fields W2:=World.ownsRow.kept hO (grown_below (r:=none) b12) (Classical.em _)
 have cL:=mkHid (implContainsLongK b K c W2 (HK.out.below b02) hl HKz.out)
 have HO2:=mkHid hO2
 have HB2:=mkHid b02
 have HR2:=mkHid r2
 have HW2:=mkHid hW2
 have h1s:w.heap.size≤w1.heap.size:=hb1.size
 have hKl:K.length≤100:=hl
 obtain⟨m0,m1,m2,m3⟩:=Sn.cells4 r2
 rw[hW2] at m0 m1 m2 m3
 clear hO hO2 b02 b12 r2 hW2 hb1
 go_wp2_with fail
 rw[← HW2.out]
 refine cL.out.mono ?_
 rintro e w3 ⟨rfl,hb3⟩
 clear cL m0 m1 m2 m3 HW2
 have hs3:=hb3.size
 have HO3:Hid (OwnF w.heap.size (.slice (some ⟨gf,0,none⟩) fields.length cf) fields w3):=World.ownsRow.kept HO2.out (grown_below (r:=none) hb3) (Classical.em _)
 have HB3:=mkHid (HB2.out.trans (hb3.mono (by omega)))
 have HR3:=mkHid ((hb3.block _ (show w1.heap.size<W2.heap.size by omega)).trans HR2.out)
 have HSd:Hid (∀W,Below w3.heap.size w3 W→W.heap[w1.heap.size]?=some (.cells #[.int .i64 0,.int .i64 at_,.slice (some ⟨gf,0,none⟩) fields.length cf,.int .i64 body] 33 (0,0))):=fun W hW=>(hW.block _ (heap_lt HR3.out)).trans HR3.out
 clear HB2 HR2 HO2 hb3
 go_wp2
 obtain⟨bt,hbt⟩:∃x,x=t.extract body t.size:=⟨_,rfl⟩
 have hbtz:bt.size≤100000:=by rw[hbt,ByteArray.size_extract];omega
 have HBT:=mkHid hbt
 have hbS:Below w3.heap.size w3 w3.drew:=(Below.refl _ _).drew
 refine wp_region_held (S:=(fun W=>Below w3.heap.size w3 W)) (by kernel_rfl) ?_
 obtain⟨Y0,hY0⟩:∃Y,w3.drew=Y:=⟨_,rfl⟩
 rw[show({ w3 with drawn:=w3.drawn+1 }:World)=Y0 from hY0]
 rw[hY0] at hbS
 clear hY0
 refine wpAnyH_take (S:=(fun W=>Below w3.heap.size w3 W)) (i:=0) (v:=.pointer (some ⟨w1.heap.size,2,none⟩)) rfl (by kernel_rfl) (by kernel_rfl) (by kernel_rfl) (fun _ _ _ h=>h) (Or.inl ⟨by rfl,?_⟩) hbS ?_
 ·intro W s0
  obtain⟨k0,k1,k2,k3⟩:=Sn.cells4 (HSd.out W s0)
  clear s0
  go_simp
 go_simp
 refine wpAnyH_take (S:=(fun W=>Below w3.heap.size w3 W)) (i:=1) (v:=.slice (some ⟨gf,0,none⟩) fields.length cf) rfl (by kernel_rfl) (by kernel_rfl) (by kernel_rfl) (fun _ _ _ h=>h) (Or.inl ⟨by rfl,?_⟩) hbS ?_
 ·intro W s0
  obtain⟨k0,k1,k2,k3⟩:=Sn.cells4 (HSd.out W s0)
  clear s0
  go_simp
 go_simp
 refine wpAnyH_take (S:=(fun W=>Below w3.heap.size w3 W)) (i:=2) (v:=.string t) rfl (by kernel_rfl) (by kernel_rfl) (by kernel_rfl) (fun _ _ _ h=>h) (Or.inl ⟨by rfl,?_⟩) hbS ?_
 ·intro W s0
  obtain⟨k0,k1,k2,k3⟩:=Sn.cells4 (HSd.out W s0)
  clear s0
  go_simp
 go_simp
 refine wpAnyH_take (S:=(fun W=>Below w3.heap.size w3 W)) (i:=3) (v:=.pointer (some ⟨w1.heap.size,3,none⟩)) rfl (by kernel_rfl) (by kernel_rfl) (by kernel_rfl) (fun _ _ _ h=>h) (Or.inl ⟨by rfl,?_⟩) hbS ?_
 ·intro W s0
  obtain⟨k0,k1,k2,k3⟩:=Sn.cells4 (HSd.out W s0)
  clear s0
  go_simp
 go_simp
 refine wpAnyH_take (S:=(fun W=>Below w3.heap.size w3 W)) (i:=4) (v:=.int .i64 body) rfl (by kernel_rfl) (by kernel_rfl) (by kernel_rfl) (fun _ _ _ h=>h) (Or.inl ⟨by rfl,?_⟩) hbS ?_
 ·intro W s0
  obtain⟨k0,k1,k2,k3⟩:=Sn.cells4 (HSd.out W s0)
  clear s0
  go_simp
 go_simp
 refine wpAnyH_take (S:=(fun W=>Below w3.heap.size w3 W)) (i:=5) (v:=.string bt) rfl (by kernel_rfl) (by kernel_rfl) (by kernel_rfl) (fun _ _ _ h=>h) (Or.inl ⟨by rfl,?_⟩) hbS ?_
 ·intro W s0
  obtain⟨k0,k1,k2,k3⟩:=Sn.cells4 (HSd.out W s0)
  clear s0
  go_simp
 go_simp
 refine wpAnyH_take (S:=(fun W=>Below w3.heap.size w3 W)) (i:=6) (v:=.slice (some ⟨b,0,none⟩) K.length c) rfl (by kernel_rfl) (by kernel_rfl) (by kernel_rfl) (fun _ _ _ h=>h) (Or.inl ⟨by rfl,?_⟩) hbS ?_
 ·intro W s0
  obtain⟨k0,k1,k2,k3⟩:=Sn.cells4 (HSd.out W s0)
  clear s0
  go_simp
 go_simp
 refine wpAnyH_take (S:=(fun W=>Below w3.heap.size w3 W)) (i:=7) (v:=.agg #[.slice (some ⟨gf,0,none⟩) fields.length cf,.string bt,.slice (some ⟨b,0,none⟩) K.length c]) rfl (by kernel_rfl) (by kernel_rfl) (by kernel_rfl) (fun _ _ _ h=>h) (Or.inl ⟨by rfl,?_⟩) hbS ?_
 ·intro W s0
  obtain⟨k0,k1,k2,k3⟩:=Sn.cells4 (HSd.out W s0)
  clear s0
  go_simp
 go_simp
 rw[← hbt]
 clear hbt
 refine wpAnyH_all (rs:=[8]) (by kernel_rfl) (by simp) ?_
 intro j hj
 simp only[List.mem_cons,List.not_mem_nil,or_false] at hj
 subst hj
 refine wpOp_step rfl (fun KK hK=>?_)
 go_simp
 have hA:(Y0.alloc (.cells #[.slice none 0 0,.string ⟨#[]⟩,.slice none 0 0] 65)).heap[Y0.heap.size]?=some (.cells #[.slice none 0 0,.string ⟨#[]⟩,.slice none 0 0] 65 (0,0)):=heap_alloc_at _ _
 have hx2:Below w3.heap.size w3 (Y0.alloc (.cells #[.slice none 0 0,.string ⟨#[]⟩,.slice none 0 0] 65)):=hbS.alloc hbS.size _
 have hbb:=hbS.size
 have hsz:(Y0.alloc (.cells #[.slice none 0 0,.string ⟨#[]⟩,.slice none 0 0] 65)).heap.size=Y0.heap.size+1:=by simp
 generalize Y0.alloc (.cells #[.slice none 0 0,.string ⟨#[]⟩,.slice none 0 0] 65)=Y1 at hA hx2 hsz ⊢
 refine hK _ _ ⟨hx2,?_⟩
 clear hK KK
 go_simp
 refine wpAnyH_all (rs:=[9]) (by kernel_rfl) (by simp) ?_
 intro j hj
 simp only[List.mem_cons,List.not_mem_nil,or_false] at hj
 subst hj
 refine wpOp_step rfl (fun KK hK=>?_)
 refine wp_store_row 65 _ _ rfl Y0.heap.size #[.slice (some ⟨gf,0,none⟩) fields.length cf,.string bt,.slice (some ⟨b,0,none⟩) K.length c] rfl rfl 65 _ hA (by kernel_rfl) rfl (by simp[Value.oneCell']) ?_
 have hz:=hx2.grown (grown_setRow Y1 Y0.heap.size #[.slice (some ⟨gf,0,none⟩) fields.length cf,.string bt,.slice (some ⟨b,0,none⟩) K.length c]) hx2.size (fun j hj=>by cases hj;exact hbb)
 have hV:=setRow_heap Y1 Y0.heap.size _ #[.slice (some ⟨gf,0,none⟩) fields.length cf,.string bt,.slice (some ⟨b,0,none⟩) K.length c] 65 (0,0) hA
 have hz4:(Y1.setRow Y0.heap.size #[.slice (some ⟨gf,0,none⟩) fields.length cf,.string bt,.slice (some ⟨b,0,none⟩) K.length c]).heap.size=Y0.heap.size+1:=by rw[size_setRow];exact hsz
 generalize Y1.setRow Y0.heap.size #[.slice (some ⟨gf,0,none⟩) fields.length cf,.string bt,.slice (some ⟨b,0,none⟩) K.length c]=W4 at hz hV hz4 ⊢
 refine hK _ _ ⟨hz,?_⟩
 clear hK KK
 go_simp
 refine wpAnyH_done (by kernel_rfl) ?_ _
 have hB4:=HB3.out.trans (hz.mono (by omega))
 have hO4:OwnF w.heap.size (.slice (some ⟨gf,0,none⟩) fields.length cf) fields W4:=World.ownsRow.kept HO3.out (grown_below (r:=none) hz) (Classical.em _)
 have hK4:=HK.out.below hB4
 have hW4:=HW.out.below hB4
 have h4s:w.heap.size≤W4.heap.size:=hB4.size
 have HB4:=mkHid hB4
 have HO4:=mkHid hO4
 have HK4:=mkHid hK4
 have HW4:=mkHid hW4
 have HV4:=mkHid hV
 obtain⟨m0,m1,m2⟩:=Sn.cells3 hV
 have hgY:Y0.heap.size<W4.heap.size:=by omega
 clear hz hV hB4 hO4 hK4 hW4 HB3 HR3 HSd HO3 hbS hA hx2 hsz HK HW hs2 hs3 hbb hz4
 go_wp2
 clear m0 m1 m2
 go_loopw [7,35] (fun v iv wr=>∃ (k:Nat) (C:List (ByteArray × Int)),iv=.int .i64 k∧k≤fields.length∧C.length≤10∧(∃ov cap,v=.slice ov C.length cap)∧Hid (0<k→C.head?=some A0)∧Hid (k=0→C=[])∧Hid (Sn.An W4.heap.size v C wr)∧Hid (Below W4.heap.size W4 wr)) (fun _ iv _=>fields.length-(Lib.intOf iv).toNat)
 case atStart=>exact⟨0,[],rfl,Nat.zero_le _,Nat.zero_le _,⟨none,0,rfl⟩,fun h=>absurd h (by omega),fun _=>rfl,Sn.An.nil _ _,Below.refl _ _⟩
 case round=>
  obtain⟨k,C,rfl,hk,hC,⟨ov,vc,rfl⟩,hhd,hk0,hAn,hb⟩:=hrel
  have hwr:=hb.out.size
  by_cases hlt:k<fields.length
  ·obtain⟨n,hn⟩:∃x:ByteArray,x=⟨fields[k].1.toArray⟩:=⟨_,rfl⟩
   obtain⟨v,hv⟩:∃x:ByteArray,x=⟨fields[k].2.toArray⟩:=⟨_,rfl⟩
   have hOr:OwnF w.heap.size (.slice (some ⟨gf,0,none⟩) fields.length cf) fields wr:=World.ownsRow.kept HO4.out (grown_below (r:=none) hb.out) (Classical.em _)
   have z0:wr.cell? ⟨gf,k*2,none⟩=some (.string n):=by
    have:=World.ownsRow.cells hOr (g:=gf) rfl (k*2) _ (cellsF_get fields k hlt).1
    rw[add_off] at this
    rw[hn]
    exact this
   have z1:wr.cell? ⟨gf,k*2+1,none⟩=some (.string v):=by
    have:=World.ownsRow.cells hOr (g:=gf) rfl (k*2+1) _ (cellsF_get fields k hlt).2
    rw[add_off] at this
    rw[hv]
    exact this
   have hnz:n.size≤100000:=by
    rw[hn]
    show(fields[k].1.toArray).size≤_
    have:=(Hfz.out _ (List.getElem_mem hlt)).1
    simp;omega
   obtain⟨W5,hW5⟩:∃W,W=wr.alloc (.cells #[.string n,.string v] 56):=⟨_,rfl⟩
   have b5:Below wr.heap.size wr W5:=by rw[hW5];exact(Below.refl _ _).alloc (Nat.le_refl _) _
   have hs5:W5.heap.size=wr.heap.size+1:=by rw[hW5];simp
   have r5:W5.heap[wr.heap.size]?=some (.cells #[.string n,.string v] 56 (0,0)):=by rw[hW5];exact heap_alloc_at _ _
   have hb5:=hb.out.trans (b5.mono hwr)
   have cN:=mkHid (implNamed n v sgName W5 hnz (by decide))
   have HAn5:=mkHid (World.ownsRow.kept hAn.out (grown_below (r:=none) b5) (Classical.em _))
   have HB5:=mkHid hb5
   have HW5:=mkHid hW5
   have Hn:=mkHid hn
   have Hv:=mkHid hv
   clear b5 r5 hb5 hW5 hOr hn hv hAn hb
   go_wp2_with fail
   have e5:wr.alloc (.cells #[.string n,.string v] 56)=W5:=HW5.out.symm
   rw[e5]
   clear e5 z0 z1
   refine cN.out.mono ?_
   rintro e w6 ⟨rfl,hb6⟩
   clear cN
   have hs6:=hb6.size
   have HAn6:=mkHid (World.ownsRow.kept HAn5.out (grown_below (r:=none) hb6) (Classical.em _))
   have hB6:=HB5.out.trans (hb6.mono (by omega))
   have HB6:=mkHid hB6
   clear HAn5 HB5 HW5 hb6
   cases hnm:namedB n sgName
   ·have hkp:0<k:=by
     rcases Nat.eq_zero_or_pos k with h0|h0
     ·subst h0
      exfalso
      have e:=Hn.out
      have e2:fields[0]=f0:=by have h:=HF0.out;subst h;rfl
      rw[e2] at e
      rw[e,hn0] at hnm
      cases hnm
     ·exact h0
    clear hnm
    go_wp2
    go_roundw
    case rel=>exact⟨k+1,C,by go_num,by omega,hC,⟨_,_,rfl⟩,fun _=>hhd.out hkp,fun h=>absurd h (by omega),HAn6,HB6⟩
    case measure=>simp[Lib.intOf];omega
   ·by_cases h10:C.length<10
    ·have hOr6:OwnF w.heap.size (.slice (some ⟨gf,0,none⟩) fields.length cf) fields w6:=World.ownsRow.kept HO4.out (grown_below (r:=none) hB6) (Classical.em _)
     have hnm2:namedB ⟨fields[k].1.toArray⟩ sgName=true:=by rw[← Hn.out];exact hnm
     have cC:=mkHid (implCheck w.heap.size (.slice (some ⟨gf,0,none⟩) fields.length cf) fields bt b c K k w6 hOr6 hlen Hfz.out hfs hlt hnm2 hbtz (HK4.out.below (hB6.mono (by omega))) hl HKz.out (HW4.out.below (hB6.mono (by omega))))
     rw[← Hn.out,← Hv.out] at cC
     obtain⟨A,hA⟩:∃A,A=Sn.ansOf K bt n v (toBA (fields.eraseIdx k)):=⟨_,rfl⟩
     rw[← hA] at cC
     have HA:=mkHid hA
     obtain⟨m0,m1,m2⟩:=Sn.cells3 ((hB6.block _ hgY).trans HV4.out)
     clear hOr6 hnm2 hA hB6 hnm
     go_wp2_with fail
     refine cC.out.mono ?_
     rintro e w7 ⟨rfl,hb7⟩
     clear cC m0 m1 m2
     have hs7:=hb7.size
     have HAn7:=mkHid (World.ownsRow.kept HAn6.out (grown_below (r:=none) hb7) (Classical.em _))
     have HB7:=mkHid (HB6.out.trans (hb7.mono (by omega)))
     clear HAn6 HB6 hb7
     obtain⟨vv,hvv⟩:∃vv:Value,.slice ov C.length vc=vv:=⟨_,rfl⟩
     rw[hvv] at HAn7 ⊢
     clear hvv
     go_wp2_with (at_builtin;go_must (refine wp_appAn (w:=w7) rfl _ _ rfl W4.heap.size vv C rfl HAn7.out A 1 rfl (by omega) (by omega) ?_);intro v' w' hA' hB')
     go_roundw
     case rel=>
      have hBz:=HB7.out.trans hB'
      refine⟨k+1,C ++ [A],by go_num,by omega,by simp;omega,?_,fun _=>?_,fun h=>absurd h (by omega),hA',hBz⟩
      ·rcases Sn.An.form hA' with ⟨-,h0⟩|⟨g,cap,h0⟩
       ·exact absurd h0 (by simp)
       ·exact⟨_,_,h0⟩
      ·rcases Nat.eq_zero_or_pos k with h0|h0
       ·subst h0
        rw[hk0.out rfl,List.nil_append,List.head?_cons,HA.out,HA0.out,Hn.out,Hv.out,← HBT.out]
        have h:=HF0.out
        subst h
        rfl
       ·have:=hhd.out h0
        cases C with
        | nil=>cases this
        | cons a r=>exact this
     case measure=>simp[Lib.intOf];omega
    ·have hkp:0<k:=by
      rcases Nat.eq_zero_or_pos k with h0|h0
      ·exfalso
       rw[hk0.out h0] at h10
       exact h10 (by decide)
      ·exact h0
     have h10':¬(C.length:Int)<10:=by omega
     clear hnm hB6
     go_wp2
     go_roundw
     case rel=>exact⟨k+1,C,by go_num,by omega,hC,⟨_,_,rfl⟩,fun _=>hhd.out hkp,fun h=>absurd h (by omega),HAn6,HB6⟩
     case measure=>simp[Lib.intOf];omega
  ·have hkp:0<k:=by
    have:fields.length=F.length+1:=by rw[HF0.out];rfl
    omega
   go_wp2
   go_ret
   have hh:=hhd.out hkp
   cases C with
   | nil=>cases hh
   | cons a r=>
    rw[List.head?_cons,Option.some.injEq] at hh
    subst hh
    rcases Sn.An.form hAn.out with ⟨-,h0⟩|⟨g,cap,h0⟩
    ·cases h0
    ·simp only[Value.slice.injEq] at h0
     obtain⟨rfl,-,rfl⟩:=h0
     refine⟨g,vc,r,rfl,?_,HB4.out.trans (hb.out.mono h4s)⟩
     exact Sn.An.base hAn.out h4s
end Go.Proofs.YtibbpmhbgbafhaaGreatDoor
