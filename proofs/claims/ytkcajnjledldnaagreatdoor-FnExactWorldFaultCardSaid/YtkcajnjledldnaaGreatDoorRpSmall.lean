import Derived.Test.YtkcajnjledldnaaGreatDoorScan2G
import Derived.Test.YtkcajnjledldnaaGreatDoorRfToks
import Derived.Test.YtkcajnjledldnaaGreatDoorTk
import Derived.OrdersHeld
set_option maxRecDepth 20000
set_option maxHeartbeats 8000000
namespace Go.Proofs.YtkcajnjledldnaaGreatDoor
open Go.RowKit Go.Lib
variable {R:List Value × TypeId}
theorem implGap (c:UInt8)(w:World):Calls Tryz.prog 196 #[.int .u8 (c.toNat:Int)] w fun e w'=>e=.returned (.bool (Rf.gapK c))∧w=w':=by
 have hB:=mkHid (implBlank c w)
 have hL:=mkHid (implLineByte c w)
 have hg:Rf.gapK c=(Pl.blank c || !Pl.lb c):=by
  unfold Rf.gapK Pl.lb
  cases Pl.blank c<;>cases h1:(c==13)<;>cases h2:(c==10)<;>simp_all
 rw[hg]
 clear hg
 generalize Pl.lb c=y at *
 have h8:c.toNat<256:=UInt8.toNat_lt _
 cases hx:Pl.blank c
 ·rw[hx] at hB
  go_enter Tryz.func196,Tryz.ntmps196
  go_wp2_with (go_at_call 219;fail)
  refine hB.out.mono ?_
  rintro e w1 ⟨rfl,rfl⟩
  go_wp2_with (go_at_call 220;fail)
  refine hL.out.mono ?_
  rintro e w1 ⟨rfl,rfl⟩
  go_wp2
  go_ret
  exact⟨rfl,rfl⟩
 ·rw[hx] at hB
  go_enter Tryz.func196,Tryz.ntmps196
  go_wp2_with (go_at_call 219;fail)
  refine hB.out.mono ?_
  rintro e w1 ⟨rfl,rfl⟩
  go_wp2
  go_ret
  exact⟨rfl,rfl⟩
theorem kindGap:Kind 196 Rf.gapK:=⟨Go.Proofs.enters_of Tryz.func196 (by kernel_rfl) rfl,implGap⟩
theorem implCmt (c:UInt8)(w:World):Calls Tryz.prog 198 #[.int .u8 (c.toNat:Int)] w fun e w'=>e=.returned (.bool (Rf.cmtK c))∧w=w':=by
 have h8:c.toNat<256:=UInt8.toNat_lt _
 have hg:Rf.cmtK c=((c.toNat:Int) != 10):=by
  unfold Rf.cmtK
  rw[Bool.eq_iff_iff,bne_iff_ne,bne_iff_ne]
  refine not_congr ⟨fun h=>by rw[h];rfl,fun h=>?_⟩
  exact UInt8.toNat_inj.1 (show c.toNat=(10:UInt8).toNat by have:(10:UInt8).toNat=10:=rfl;omega)
 rw[hg]
 go_enter Tryz.func198,Tryz.ntmps198
 go_wp2
 go_ret
 exact⟨rfl,rfl⟩
theorem kindCmt:Kind 198 Rf.cmtK:=⟨Go.Proofs.enters_of Tryz.func198 (by kernel_rfl) rfl,implCmt⟩
theorem kindLow:Kind 153 Rf.lowK:=kindSmall
theorem implDig (c:UInt8)(w:World):Calls Tryz.prog 154 #[.int .u8 (c.toNat:Int)] w fun e w'=>e=.returned (.bool (Rf.digK c))∧w=w':=by
 have h8:c.toNat<256:=UInt8.toNat_lt _
 unfold Rf.digK
 by_cases h1:48≤c.toNat
 ·have y1:decide ((48:Int)≤(c.toNat:Int))=true:=decide_eq_true (by omega)
  by_cases h2:c.toNat≤57
  ·have y2:decide ((c.toNat:Int)≤57)=true:=decide_eq_true (by omega)
   rw[decide_eq_true h1,decide_eq_true h2]
   go_enter Tryz.func154,Tryz.ntmps154
   go_wp2
   go_ret
   exact⟨rfl,rfl⟩
  ·have y2:decide ((c.toNat:Int)≤57)=false:=decide_eq_false (by omega)
   rw[decide_eq_true h1,decide_eq_false h2]
   go_enter Tryz.func154,Tryz.ntmps154
   go_wp2
   go_ret
   exact⟨rfl,rfl⟩
 ·have y1:decide ((48:Int)≤(c.toNat:Int))=false:=decide_eq_false (by omega)
  rw[decide_eq_false h1]
  go_enter Tryz.func154,Tryz.ntmps154
  go_wp2
  go_ret
  exact⟨rfl,rfl⟩
theorem kindDig:Kind 154 Rf.digK:=⟨Go.Proofs.enters_of Tryz.func154 (by kernel_rfl) rfl,implDig⟩
theorem Rf.gap_stop (l:List UInt8):∀(n i:Nat),l.length-i≤n→i≤l.length→Rf.gap l i=Rf.gap l (Pl.stop Rf.gapK l i)
 | 0,i,h,hi=>by
  have e:i=l.length:=by omega
  subst e
  have hs:Pl.stop Rf.gapK l l.length=l.length:=Nat.le_antisymm (Pl.stop_le _ _ _ (Nat.le_refl _)) (Pl.stop_ge _ _ _ (Nat.le_refl _))
  rw[hs]
 | n+1,i,h,hi=>by
  by_cases hlt:i<l.length
  ·cases hc:Rf.gapK (Pl.b l i)
   ·have hs:Pl.stop Rf.gapK l i=i:=Pl.stop_eq _ _ _ _ (Nat.le_refl _) hi (fun j h1 h2=>by omega) (fun _=>hc)
    rw[hs]
   ·have hs:Pl.stop Rf.gapK l (i+1)=Pl.stop Rf.gapK l i:=Pl.first_miss _ _ i hlt (by simp[hc])
    rw[Rf.gap_step l i hlt hc,← hs]
    exact Rf.gap_stop l n (i+1) (by omega) (by omega)
  ·have e:i=l.length:=by omega
   subst e
   have hs:Pl.stop Rf.gapK l l.length=l.length:=Nat.le_antisymm (Pl.stop_le _ _ _ (Nat.le_refl _)) (Pl.stop_ge _ _ _ (Nat.le_refl _))
   rw[hs]
theorem scGap (g:Nat)(s:ByteArray)(a b:Nat)(w:World)(hs:s.size≤100000)(ha:a≤s.size)(h:Sc R w g s a b) :
  Calls Tryz.prog 173 #[scp g] w fun e w'=>e=.returned (.tuple #[])∧Sc R w' g s (Rf.gap s.data.toList a) b∧w.grownBy w' (some g):=by
 obtain⟨l,hl⟩:∃l,s.data.toList=l:=⟨_,rfl⟩
 have hll:l.length=s.size:=by rw[← hl];simp
 have hP:=scPass kindGap g s a b w hs ha h
 obtain⟨Z,hZ⟩:∃Z,Rf.gap s.data.toList a=Z:=⟨_,rfl⟩
 rw[hZ]
 have h0:∀q,q≤s.size→Rf.gap l q=Z→Rf.gap l (Pl.stop Rf.gapK l q)=Z∧Pl.stop Rf.gapK l q≤s.size∧(Pl.stop Rf.gapK l q<s.size→Rf.gapK (Pl.b l (Pl.stop Rf.gapK l q))=false):=fun q hq he=>
  ⟨(Rf.gap_stop l (l.length-q) q (Nat.le_refl _) (by omega)).symm.trans he,by have:=Pl.stop_le Rf.gapK l q (by omega);omega,fun hlt=>Pl.stop_not Rf.gapK l q (by omega) (by omega)⟩
 rw[hl] at hP hZ
 obtain⟨z1,z2,z3⟩:=h0 a ha hZ
 have HP:=mkHid hP
 have H0:=mkHid h0
 have Hl:=mkHid hl
 replace z1:=mkHid z1
 replace z3:=mkHid z3
 have hgl:=h.lt
 clear h hP h0 hZ hl
 obtain⟨a1,ha1⟩:∃a1,Pl.stop Rf.gapK l a=a1:=⟨_,rfl⟩
 rw[ha1] at HP z1 z2 z3
 clear ha1
 go_enter Tryz.func173,Tryz.ntmps173
 go_wp2_with (go_at_call 195;fail)
 refine HP.out.mono ?_
 rintro e w1 ⟨rfl,h1,g1⟩
 have S1:Hid (∃q,q≤s.size∧Rf.gap l q=Z∧(q<s.size→Rf.gapK (Pl.b l q)=false)∧Sc R w1 g s q b∧w.grownBy w1 (some g)):=⟨a1,z2,z1.out,z3.out,h1,g1⟩
 clear HP h1 g1 z1 z2 z3
 go_wp2
 go_loopw [] (fun wr=>∃ q,q≤s.size∧Rf.gap l q=Z∧(q<s.size→Rf.gapK (Pl.b l q)=false)∧Sc R wr g s q b∧w.grownBy wr (some g)) (fun wr=>s.size-atOf wr g)
 case atStart=>exact S1.out
 case round=>
  clear S1
  obtain⟨q,hq,hz,hn,hsc,hgr⟩:=hrel
  have hat:=mkHid hsc.at
  have Hsc:=mkHid hsc
  have Hgr:=mkHid hgr
  replace hz:=mkHid hz
  replace hn:=mkHid hn
  have c0:=Hsc.out.c0
  have c1:=Hsc.out.c1
  have k0:=cell_regrown c0
  have k1:=cell_regrown c1
  have cE:∀d os,Calls Tryz.prog 197 #[scp g] (Go.Sort.grow (redrawn wr d) os) fun e w''=>e=.returned (.bool ((q:Int)==(s.size:Int)))∧∃p:Regrown,w''=Go.Sort.grow (redrawn wr p.d) p.os:=fun d os=>Calls.regrown_of (scEnded g s q b _ (Hsc.out.below (below_regrown wr d os)))
  clear hsc hgr
  by_cases hlt:q<s.size
  ·have hne:((q:Int)==(s.size:Int))=false:=by simp;omega
   simp only[hne] at cE
   have hqI:(q:Int)<(s.size:Int):=by omega
   have hbq:s[q]=Pl.b l q:=by rw[← Hl.out];exact(Pl.b_lt _ q (by simpa using hlt)).symm
   have h8:s[q].toNat<256:=UInt8.toNat_lt _
   by_cases h35:Pl.b l q=35
   ·have hs35:((s[q].toNat:Int)==35)=true:=by rw[hbq,h35];rfl
    have hc1:Hid (Rf.gap l (Pl.stop Rf.cmtK l q)=Z∧q<Pl.stop Rf.cmtK l q∧Pl.stop Rf.cmtK l q≤s.size):=⟨(Rf.gap_cmt l q (by omega) h35).symm.trans hz.out,Rf.stop_over Rf.cmtK l q (by omega) (by rw[h35];decide),by have:=Pl.stop_le Rf.cmtK l q (by omega);omega⟩
    clear h35
    replace hbq:=mkHid hbq
    generalize hsk:s[q]=c at *
    go_wp2
    refine wp_region_quiet_below (by kernel_rfl) (by kernel_rfl) ?_
    iterate 3 (quiet_step (fail))
    quiet_step (exact cE _ _)
    repeat (quiet_step (fail))
    refine wpQuiet_nil ?_
    intro _ hw'
    obtain⟨⟨dq,osq⟩,hw''⟩:=hw'
    subst hw''
    have hbw:=below_regrown wr dq osq
    have Hs2:=mkHid (Hsc.out.below hbw)
    have Hg2:=mkHid (grown_trans Hgr.out (grown_below hbw))
    generalize Go.Sort.grow (redrawn wr dq) osq=wq at *
    clear c0 c1 k0 k1 cE hbw
    have kC:=mkHid (scPass kindCmt g s q b wq hs (by omega) Hs2.out)
    rw[Hl.out] at kC
    obtain⟨y1,y2,y3⟩:=hc1.out
    replace y1:=mkHid y1
    obtain⟨q1,hq1⟩:∃q1,Pl.stop Rf.cmtK l q=q1:=⟨_,rfl⟩
    rw[hq1] at kC y1 y2 y3
    clear hc1 hq1
    go_wp2_with (go_at_call 195;fail)
    refine kC.out.mono ?_
    rintro e w2 ⟨rfl,s2,g2⟩
    have kG:=mkHid (scPass kindGap g s q1 b w2 hs y3 s2)
    rw[Hl.out] at kG
    obtain⟨x1,x2,x3⟩:=H0.out q1 y3 y1.out
    have hge:=Pl.stop_ge Rf.gapK l q1 (by omega)
    replace x1:=mkHid x1
    replace x3:=mkHid x3
    obtain⟨q2,hq2⟩:∃q2,Pl.stop Rf.gapK l q1=q2:=⟨_,rfl⟩
    rw[hq2] at kG x1 x2 x3 hge
    have Hg3:=mkHid (grown_trans Hg2.out g2)
    clear hq2 kC s2 g2 Hs2 Hg2
    go_wp2_with (go_at_call 195;fail)
    refine kG.out.mono ?_
    rintro e w3 ⟨rfl,s3,g3⟩
    have HI:Hid (∃q,q≤s.size∧Rf.gap l q=Z∧(q<s.size→Rf.gapK (Pl.b l q)=false)∧Sc R w3 g s q b∧w.grownBy w3 (some g)):=⟨q2,x2,x1.out,x3.out,s3,grown_trans Hg3.out g3⟩
    have HM:Hid (s.size-atOf w3 g<s.size-atOf wr g):=by
     show _<_
     rw[s3.at,hat.out]
     omega
    clear s3 g3 kG
    go_wp2
    go_roundw
    case rel=>exact HI.out
    case measure=>exact HM.out
   ·have hs35:((s[q].toNat:Int)==35)=false:=by
     rw[beq_eq_false_iff_ne]
     intro e
     rw[hbq] at e
     exact h35 (UInt8.toNat_inj.1 (by have:(35:UInt8).toNat=35:=rfl;omega))
    have hZq:Hid (Z=q):=show _=_ from by rw[← hz.out];exact Rf.gap_done l q (fun hx=>⟨hn.out (by omega),h35⟩)
    clear h35
    replace hbq:=mkHid hbq
    generalize hsk:s[q]=c at *
    go_wp2
    refine wp_region_quiet_below (by kernel_rfl) (by kernel_rfl) ?_
    iterate 3 (quiet_step (fail))
    quiet_step (exact cE _ _)
    repeat (quiet_step (fail))
    refine wpQuiet_nil ?_
    intro _ hw'
    obtain⟨⟨dq,osq⟩,hw''⟩:=hw'
    subst hw''
    have hbw:=below_regrown wr dq osq
    have Hs2:=mkHid (Hsc.out.below hbw)
    have Hg2:=mkHid (grown_trans Hgr.out (grown_below hbw))
    generalize Go.Sort.grow (redrawn wr dq) osq=wq at *
    go_wp2
    refine bodyPost_end (v:=.tuple #[]) (results_none Tryz.results173 _ _ _) rfl ⟨rfl,?_⟩
    rw[hZq.out]
    exact⟨Hs2.out,Hg2.out⟩
  ·have hne:((q:Int)==(s.size:Int))=true:=by simp;omega
   obtain⟨bE,hbE⟩:∃bE,((q:Int)==(s.size:Int))=bE:=⟨_,rfl⟩
   have Hb:Hid (bE=true):=hbE ▸ hne
   simp only[hbE] at cE
   have hZq:Hid (Z=q):=show _=_ from by rw[← hz.out];exact Rf.gap_done l q (fun hx=>absurd hx (by omega))
   clear hne hbE
   go_wp2
   refine wp_region_quiet_below (by kernel_rfl) (by kernel_rfl) ?_
   iterate 3 (quiet_step (fail))
   quiet_step (exact cE _ _)
   iterate 2 (quiet_step (fail))
   iterate 12 (refine BigFrame.wpQuiet_skip (by obtain rfl:bE=true:=Hb.out;rfl) ?_;go_simp)
   obtain rfl:bE=true:=Hb.out
   repeat (quiet_step (fail))
   refine wpQuiet_nil ?_
   first|(rintro⟨dq,osq⟩;simp only)|(intro _ hw';obtain⟨⟨dq,osq⟩,hw''⟩:=hw';subst hw'')
   have hbw:=below_regrown wr dq osq
   have Hs2:=mkHid (Hsc.out.below hbw)
   have Hg2:=mkHid (grown_trans Hgr.out (grown_below hbw))
   generalize Go.Sort.grow (redrawn wr dq) osq=wq at *
   go_wp2
   refine bodyPost_end (v:=.tuple #[]) (results_none Tryz.results173 _ _ _) rfl ⟨rfl,?_⟩
   rw[hZq.out]
   exact⟨Hs2.out,Hg2.out⟩
variable {R:List Value × TypeId}
abbrev faultAt (b:Nat):Ending:=.panicked [{ v:=.iface 167 (.agg #[.int .i64 3,.int .i64 b]),recovered:=false }]
namespace Rf
theorem pq_quote (l:List UInt8)(k:Nat)(h:k<l.length)(hc:Pl.b l k=34):qd (l.drop k)=some ([],1):=by
 rw[drop_b l k h,hc]
 cases l.drop (k+1) with
 | nil=>rfl
 | cons d r=>rfl
theorem pq_end (l:List UInt8)(k:Nat)(h:k+1=l.length)(hc:Pl.b l k=92):qd (l.drop k)=none:=by
 rw[drop_b l k (by omega),hc,List.drop_eq_nil_of_le (by omega)]
 rfl
theorem pq_back (l:List UInt8)(k:Nat)(h:k+1<l.length)(hc:Pl.b l k=92):qd (l.drop k)=(qd (l.drop (k+2))).map fun x=>(Pl.b l (k+1)::x.1,x.2+2):=by
 rw[drop_b l k (by omega),hc,drop_b l (k+1) h]
 rfl
theorem pq_byte (l:List UInt8)(k:Nat)(h:k<l.length)(h1:Pl.b l k≠34)(h2:Pl.b l k≠92):qd (l.drop k)=(qd (l.drop (k+1))).map fun x=>(Pl.b l k::x.1,x.2+1):=by
 rw[drop_b l k h]
 generalize Pl.b l k=c at *
 have e1:(c==34)=false:=by simpa using h1
 have e2:(c==92)=false:=by simpa using h2
 cases l.drop (k+1) with
 | nil=>
  show(if (c==34)=true then some ([],1) else none)=none
  rw[e1]
  rfl
 | cons d r=>
  show(if (c==34)=true then some ([],1) else if (c==92)=true then (qd r).map fun x=>(d::x.1,x.2+2) else (qd (d::r)).map fun x=>(c::x.1,x.2+1))=_
  rw[e1,e2]
  rfl
def QAt (l:List UInt8)(p k:Nat)(o:List UInt8):Prop:=qd (l.drop (p+1))=(qd (l.drop k)).map fun x=>(o++x.1,x.2+(k-(p+1)))
theorem QAt.start (l:List UInt8)(p:Nat):QAt l p (p+1) []:=by
 unfold QAt
 cases qd (l.drop (p+1))<;>simp
theorem QAt.more {l:List UInt8} {p k d:Nat} {o:List UInt8} {c:UInt8} (h:QAt l p k o)(hk:p+1≤k)(hq:qd (l.drop k)=(qd (l.drop (k+d))).map fun x=>(c::x.1,x.2+d)):QAt l p (k+d) (o ++ [c]):=by
 unfold QAt at *
 rw[h,hq]
 cases qd (l.drop (k+d)) with
 | none=>rfl
 | some x=>simp;omega
end Rf
theorem Own.far {B g:Nat} {v:Value} {p:List UInt8} {w w':World} (h:Own B v p w)(hg:w.grownBy w' (some g))(hB:g<B):Own B v p w':=by
 refine World.ownsRow.kept h hg ?_
 cases ho:v.ownBlock with
 | none=>exact .inl rfl
 | some k=>exact .inr (fun e=>by have:=(World.ownsRow.lt h k ho).1;cases e;omega)
theorem scQuoted (g:Nat)(s:ByteArray)(p b:Nat)(w:World)(hs:s.size≤100000)(hp:p<s.size)(h:Sc R w g s p b) :
  Calls Tryz.prog 221 #[scp g] w fun e w'=>w.grownBy w' (some g)∧((∃t k,Rf.qd (s.data.toList.drop (p+1))=some (t,k)∧e=.returned (.string ⟨t.toArray⟩)∧Sc R w' g s (p+1+k) b)∨(Rf.qd (s.data.toList.drop (p+1))=none∧e=faultAt b)):=by
 obtain⟨i0,hi,hy0,hy1,hy2⟩:=info_parts Tryz.info5
 obtain⟨l,hl⟩:∃l,s.data.toList=l:=⟨_,rfl⟩
 have hll:l.length=s.size:=by rw[← hl];simp
 rw[hl]
 have hbs:∀k (h:k<s.size),s[k]=Pl.b l k:=fun k h=>by
  subst hl
  exact(Pl.b_lt _ k (by simpa using h)).symm
 have kN:=mkHid (scNextYes g s p b w hs h hp)
 have hgB:=h.lt
 have Hbs:=mkHid hbs
 clear h hbs hl
 go_enter Tryz.func221,Tryz.ntmps221
 go_wp2_with (go_at_call 201;fail)
 refine kN.out.mono ?_
 rintro e w1 ⟨rfl,s1,g1⟩
 have H0:Hid (∃k o,p+1≤k∧k≤s.size∧o.length≤k∧Rf.QAt l p k o∧Own w.heap.size (.slice none 0 0) o w1∧Sc R w1 g s k b∧w.grownBy w1 (some g)):=⟨p+1,[],Nat.le_refl _,by omega,by simp,Rf.QAt.start l p,Own.nil _ _,s1,g1⟩
 clear kN s1 g1
 go_wp2
 go_loopw [3] (fun ov wr=>∃ (k:Nat) (o:List UInt8),p+1≤k∧k≤s.size∧o.length≤k∧Rf.QAt l p k o∧Own w.heap.size ov o wr∧Sc R wr g s k b∧w.grownBy wr (some g)) (fun _ wr=>s.size-atOf wr g)
 case atStart=>
  obtain⟨k,o,h⟩:=H0.out
  exact⟨k,o,h⟩
 case round=>
  clear H0
  obtain⟨k,o,hpk,hk,hol,hQ,hown,hsc,hgr⟩:=hrel
  have hat:=mkHid hsc.at
  replace hQ:=mkHid hQ
  have Hgr:=mkHid hgr
  by_cases hlt:k<s.size
  ·have kN:=mkHid (scNextYes g s k b wr hs hsc hlt)
   have h8:s[k].toNat<256:=UInt8.toNat_lt _
   have hbk:=Hbs.out k hlt
   clear hsc hgr
   by_cases h34:Pl.b l k=34
   ·have e34:s[k]=34:=hbk.trans h34
    have hres:Hid (Rf.qd (l.drop (p+1))=some (o,1+(k-(p+1)))):=by
     show _=_
     rw[hQ.out,Rf.pq_quote l k (by omega) h34]
     simp
    clear h34 hbk hQ
    generalize hsk:s[k]=c at *
    subst e34
    go_wp2_with (go_at_call 201;fail)
    refine kN.out.mono ?_
    rintro e w2 ⟨rfl,s2,g2⟩
    have hown2:Own w.heap.size u3 o w2:=hown.far g2 hgB
    have hbk:=hown2.back (P:=Tryz.prog) 100 9 Tryz.underlying100 Tryz.underlying5 Tryz.underlying9
    have G2:=mkHid (grown_trans Hgr.out g2)
    have S2:=mkHid s2
    rw[show(((34:UInt8).toNat:Nat):Int)=34 from rfl]
    clear kN Hgr g2 s2 hown hown2 hat
    go_wp2
    go_ret
    exact⟨G2.out,.inl ⟨o,_,hres.out,rfl,by rw[show p+1+(1+(k-(p+1)))=k+1 by omega];exact S2.out⟩⟩
   ·have n34:((s[k].toNat:Int)==34)=false:=by
     rw[beq_eq_false_iff_ne]
     intro e
     rw[hbk] at e
     exact h34 (UInt8.toNat_inj.1 (by have:(34:UInt8).toNat=34:=rfl;omega))
    by_cases h92:Pl.b l k=92
    ·have e92:s[k]=92:=hbk.trans h92
     by_cases hlt2:k+1<s.size
     ·have hbk2:=Hbs.out (k+1) hlt2
      have hQ2:Hid (Rf.QAt l p (k+2) (o ++ [s[k+1]])):=by
       rw[hbk2]
       exact hQ.out.more hpk (Rf.pq_back l k (by omega) h92)
      have kM:=mkHid (fun (W:World) (h:Sc R W g s (k+1) b)=>scNextYes g s (k+1) b W hs h hlt2)
      have h82:s[k+1].toNat<256:=UInt8.toNat_lt _
      clear h34 h92 hbk hbk2 hQ
      generalize hsk:s[k]=c at *
      subst e92
      generalize hsk2:s[k+1]=d at *
      go_wp2_with (go_at_call 201;fail)
      refine kN.out.mono ?_
      rintro e w2 ⟨rfl,s2,g2⟩
      rw[show(((92:UInt8).toNat:Nat):Int)=92 from rfl]
      go_wp2_with (go_at_call 201;fail)
      refine(kM.out _ s2).mono ?_
      rintro e w3 ⟨rfl,s3,g3⟩
      have hown2:Own w.heap.size u3 o w3:=(hown.far g2 hgB).far g3 hgB
      have G2:=mkHid (grown_trans Hgr.out (grown_trans g2 g3))
      have S2:=mkHid s3
      have hw2:w.heap.size≤w3.heap.size:=G2.out.size
      clear kN kM Hgr g2 s2 g3 s3 hown
      go_wp2_with (at_builtin;go_must (refine wp_app (W:=w3) rfl _ _ 100 rfl i0 Tryz.underlying100 hi hy0 hy1 hy2 w.heap.size u3 o rfl hown2 _ [d] rfl 1 1 rfl rfl (by simp;omega) hw2 (Below.refl _ _) ?_;intro v' w' hown' hb'))
      have S3:Sc R w' g s (k+2) b:=⟨by rw[hb'.block g (by have:=G2.out.size;omega)];exact S2.out.blk⟩
      have G3:w.grownBy w' (some g):=⟨hb'.os.trans G2.out.os,hb'.tape.trans G2.out.tape,hb'.output.trans G2.out.output,Nat.le_trans G2.out.size hb'.size,fun i hi hr=>(hb'.block i hi).trans (G2.out.block i hi hr)⟩
      have HM:Hid (s.size-atOf w' g<s.size-atOf wr g):=by
       show _<_
       rw[S3.at,hat.out]
       omega
      have HI:Hid (∃(k:Nat) (o:List UInt8),p+1≤k∧k≤s.size∧o.length≤k∧Rf.QAt l p k o∧Own w.heap.size v' o w'∧Sc R w' g s k b∧w.grownBy w' (some g)):=⟨k+2,o ++ [d],by omega,by omega,by simp;omega,hQ2.out,hown',S3,G3⟩
      clear hown' hb' S3 G3
      go_roundw
      case rel=>
       obtain⟨k,o,h⟩:=HI.out
       exact⟨k,o,h⟩
      case measure=>exact HM.out
     ·have hres:Hid (Rf.qd (l.drop (p+1))=none):=by
       show _=_
       rw[hQ.out,Rf.pq_end l k (by omega) h92]
       rfl
      have kM:=mkHid (fun (W:World) (h:Sc R W g s (k+1) b)=>scNextEnd g s (k+1) b W h (by omega))
      clear h34 h92 hbk hQ
      generalize hsk:s[k]=c at *
      subst e92
      go_wp2_with (go_at_call 201;fail)
      refine kN.out.mono ?_
      rintro e w2 ⟨rfl,s2,g2⟩
      rw[show(((92:UInt8).toNat:Nat):Int)=92 from rfl]
      go_wp2_with (go_at_call 201;fail)
      refine(kM.out _ s2).mono ?_
      rintro e w3 ⟨rfl,hb3⟩
      exact⟨rfl,grown_trans Hgr.out (grown_trans g2 (grown_below hb3)),.inr ⟨hres.out,rfl⟩⟩
    ·have n92:((s[k].toNat:Int)==92)=false:=by
      rw[beq_eq_false_iff_ne]
      intro e
      rw[hbk] at e
      exact h92 (UInt8.toNat_inj.1 (by have:(92:UInt8).toNat=92:=rfl;omega))
     have hQ2:Hid (Rf.QAt l p (k+1) (o ++ [s[k]])):=by
      rw[hbk]
      exact hQ.out.more hpk (Rf.pq_byte l k (by omega) h34 h92)
     clear h34 h92 hbk hQ
     generalize hsk:s[k]=c at *
     go_wp2_with (go_at_call 201;fail)
     refine kN.out.mono ?_
     rintro e w2 ⟨rfl,s2,g2⟩
     have hown2:Own w.heap.size u3 o w2:=hown.far g2 hgB
     have G2:=mkHid (grown_trans Hgr.out g2)
     have S2:=mkHid s2
     have hw2:w.heap.size≤w2.heap.size:=G2.out.size
     clear kN Hgr g2 s2 hown
     go_wp2_with (at_builtin;go_must (refine wp_app (W:=w2) rfl _ _ 100 rfl i0 Tryz.underlying100 hi hy0 hy1 hy2 w.heap.size u3 o rfl hown2 _ [c] rfl 1 1 rfl rfl (by simp;omega) hw2 (Below.refl _ _) ?_;intro v' w' hown' hb'))
     have S3:Sc R w' g s (k+1) b:=⟨by rw[hb'.block g (by have:=G2.out.size;omega)];exact S2.out.blk⟩
     have G3:w.grownBy w' (some g):=⟨hb'.os.trans G2.out.os,hb'.tape.trans G2.out.tape,hb'.output.trans G2.out.output,Nat.le_trans G2.out.size hb'.size,fun i hi hr=>(hb'.block i hi).trans (G2.out.block i hi hr)⟩
     have HM:Hid (s.size-atOf w' g<s.size-atOf wr g):=by
      show _<_
      rw[S3.at,hat.out]
      omega
     have HI:Hid (∃(k:Nat) (o:List UInt8),p+1≤k∧k≤s.size∧o.length≤k∧Rf.QAt l p k o∧Own w.heap.size v' o w'∧Sc R w' g s k b∧w.grownBy w' (some g)):=⟨k+1,o ++ [c],by omega,by omega,by simp;omega,hQ2.out,hown',S3,G3⟩
     clear hown' hb' S3 G3
     go_roundw
     case rel=>
      obtain⟨k,o,h⟩:=HI.out
      exact⟨k,o,h⟩
     case measure=>exact HM.out
  ·have hres:Hid (Rf.qd (l.drop (p+1))=none):=by
    show _=_
    rw[hQ.out,List.drop_eq_nil_of_le (by omega)]
    rfl
   have kM:=mkHid (scNextEnd g s k b wr hsc (by omega))
   clear hsc hgr hQ
   go_wp2_with (go_at_call 201;fail)
   refine kM.out.mono ?_
   rintro e w2 ⟨rfl,hb2⟩
   exact⟨rfl,grown_trans Hgr.out (grown_below hb2),.inr ⟨hres.out,rfl⟩⟩
theorem scDigits (g:Nat)(s:ByteArray)(p b:Nat)(w:World)(hs:s.size≤100000)(hp:p≤s.size)(h:Sc R w g s p b) :
  Calls Tryz.prog 200 #[scp g] w fun e w'=>w.grownBy w' (some g)∧((Pl.stop Rf.digK s.data.toList p-p≤9∧e=.returned (.string (s.extract p (Pl.stop Rf.digK s.data.toList p)))∧Sc R w' g s (Pl.stop Rf.digK s.data.toList p) b)∨(¬Pl.stop Rf.digK s.data.toList p-p≤9∧e=faultAt b)):=by
 have kP:=mkHid (scPass kindDig g s p b w hs hp h)
 have hle:=Pl.stop_le Rf.digK s.data.toList p (by simpa using hp)
 have hsl:s.data.toList.length=s.size:=by simp
 rw[hsl] at hle
 clear h hsl
 obtain⟨q,hq⟩:∃q,Pl.stop Rf.digK s.data.toList p=q:=⟨_,rfl⟩
 rw[hq] at kP hle ⊢
 clear hq
 obtain⟨x,hx⟩:∃x,s.extract p q=x:=⟨_,rfl⟩
 have hxs:x.size=q-p:=by rw[← hx,ByteArray.size_extract];omega
 rw[hx] at kP ⊢
 by_cases h9:q-p≤9
 ·have d9:decide ((x.size:Int)≤9)=true:=decide_eq_true (by omega)
  have kN:=mkHid (fun (W:World)=>scNeedYes g W)
  clear hxs hx
  go_enter Tryz.func200,Tryz.ntmps200
  go_wp2_with (go_at_call 195;fail)
  refine kP.out.mono ?_
  rintro e w1 ⟨rfl,s1,g1⟩
  replace s1:=mkHid s1
  replace g1:=mkHid g1
  go_wp2_with (go_at_call 180;fail)
  refine(kN.out _).mono ?_
  rintro e w2 ⟨rfl,rfl⟩
  go_wp2
  go_ret
  exact⟨g1.out,.inl ⟨h9,rfl,s1.out⟩⟩
 ·have d9:decide ((x.size:Int)≤9)=false:=decide_eq_false (by omega)
  have kN:=mkHid (fun (W:World) (h:Sc R W g s q b)=>scNeedNo g s q b W h)
  clear hxs hx
  go_enter Tryz.func200,Tryz.ntmps200
  go_wp2_with (go_at_call 195;fail)
  refine kP.out.mono ?_
  rintro e w1 ⟨rfl,s1,g1⟩
  go_wp2_with (go_at_call 180;fail)
  refine(kN.out _ s1).mono ?_
  rintro e w2 ⟨rfl,rfl⟩
  exact⟨rfl,g1,.inr ⟨h9,rfl⟩⟩
theorem scQuotedText (g:Nat)(s:ByteArray)(p b:Nat)(w:World)(hs:s.size≤100000)(hp:p<s.size)(h:Sc R w g s p b) :
  Calls Tryz.prog 199 #[scp g] w fun e w'=>w.grownBy w' (some g)∧((∃t k,Rf.qd (s.data.toList.drop (p+1))=some (t,k)∧t.length≤1000∧e=.returned (.string ⟨t.toArray⟩)∧Sc R w' g s (p+1+k) b)∨((∀t k,Rf.qd (s.data.toList.drop (p+1))=some (t,k)→¬t.length≤1000)∧e=faultAt b)):=by
 have kQ:=mkHid (scQuoted g s p b w hs hp h)
 clear h
 go_enter Tryz.func199,Tryz.ntmps199
 go_wp2_with (go_at_call 221;fail)
 refine kQ.out.mono ?_
 rintro e w1 ⟨g1,⟨t,k,hq,rfl,s1⟩|⟨hq,rfl⟩⟩
 ·have hts:(⟨t.toArray⟩:ByteArray).size=t.length:=by simp[ByteArray.size]
  obtain⟨x,hx⟩:∃x:ByteArray,⟨t.toArray⟩=x:=⟨_,rfl⟩
  rw[hx] at hts ⊢
  replace hq:=mkHid hq
  replace g1:=mkHid g1
  replace hx:=mkHid hx
  by_cases h9:t.length≤1000
  ·have d9:decide ((x.size:Int)≤1000)=true:=decide_eq_true (by omega)
   have kN:=mkHid (fun (W:World)=>scNeedYes g W)
   replace s1:=mkHid s1
   clear hts
   go_wp2_with (go_at_call 180;fail)
   refine(kN.out _).mono ?_
   rintro e w2 ⟨rfl,rfl⟩
   go_wp2
   go_ret
   exact⟨g1.out,.inl ⟨t,k,hq.out,h9,congrArg (fun z=>Ending.returned (.string z)) hx.out.symm,s1.out⟩⟩
  ·have d9:decide ((x.size:Int)≤1000)=false:=decide_eq_false (by omega)
   have kN:=mkHid (scNeedNo g s _ b w1 s1)
   clear hts
   go_wp2_with (go_at_call 180;fail)
   refine kN.out.mono ?_
   rintro e w2 ⟨rfl,rfl⟩
   exact⟨rfl,g1.out,.inr ⟨fun t' k' hq'=>(by rw[hq.out] at hq';cases hq';exact h9),rfl⟩⟩
 ·exact⟨rfl,g1,.inr ⟨fun t' k' hq'=>(by rw[hq] at hq';cases hq'),rfl⟩⟩
variable {R:List Value × TypeId}
theorem ba_cut (s:ByteArray)(p q:Nat):(⟨(Rf.cut s.data.toList p q).toArray⟩:ByteArray)=s.extract p q:=by
 apply ByteArray.ext
 apply Array.toList_inj.1
 rw[ByteArray.data_extract,Array.toList_extract]
 simp[Rf.cut,List.drop_take]
theorem Sc.grown {w w':World} {g:Nat} {s:ByteArray} {a b r:Nat} (h:Sc R w g s a b)(hg:w.grownBy w' (some r))(hr:g≠r):Sc R w' g s a b:=⟨(hg.block g h.lt (by simpa using hr)).trans h.blk⟩
theorem grown_new {w w1 w2:World} {g r:Nat} (h:w.grownBy w1 (some g))(h2:w1.grownBy w2 (some r))(hr:w.heap.size≤r):w.grownBy w2 (some g):=
 ⟨h2.os.trans h.os,h2.tape.trans h.tape,h2.output.trans h.output,Nat.le_trans h.size h2.size,fun k hk hn=>(h2.block k (Nat.lt_of_lt_of_le hk h.size) (by simp;omega)).trans (h.block k hk hn)⟩
theorem scNextToken (g:Nat)(s:ByteArray)(p:Nat)(w:World)(hs:s.size≤100000)(hp:p≤s.size)(h:Sc R w g s p p) :
  Calls Tryz.prog 174 #[scp g] w fun e w'=>w.grownBy w' (some g)∧((p=s.size∧e=.returned (.agg #[.int .i64 0,.string ⟨#[]⟩])∧Sc R w' g s p p)∨(p<s.size∧∃kd x a,Rf.ptk s.data.toList p=some (kd,x,a)∧e=.returned (.agg #[.int .i64 (kd:Int),.string ⟨x.toArray⟩])∧Sc R w' g s a p)∨(p<s.size∧Rf.ptk s.data.toList p=none∧e=faultAt p)):=by
 obtain⟨l,hl⟩:∃l,s.data.toList=l:=⟨_,rfl⟩
 have hll:l.length=s.size:=by rw[← hl];simp
 have hgl:=h.lt
 obtain⟨W1,hW1⟩:∃W1,w.alloc (.cells #[.int .i64 0,.string ⟨#[]⟩] 174)=W1:=⟨_,rfl⟩
 have hr1:W1.heap[w.heap.size]?=some (.cells #[.int .i64 0,.string ⟨#[]⟩] 174 (0,0)):=by rw[← hW1];exact heap_alloc_at _ _
 have hb1:Below w.heap.size w W1:=by rw[← hW1];exact(Below.refl _ _).alloc (Nat.le_refl _) _
 have hs1:w.heap.size<W1.heap.size:=by rw[← hW1];simp
 have S1:=mkHid (h.below hb1)
 have G1:=mkHid (grown_below (r:=some g) hb1)
 have HW1:=mkHid hW1
 have Hl:=mkHid hl
 rw[hl]
 have kE:=mkHid (scEnded g s p p W1 S1.out)
 clear h hW1 hb1 hl
 by_cases hlt:p<s.size
 ·rw[show((p:Int)==(s.size:Int))=false from by simp;omega] at kE
  have hpI:(p:Int)<(s.size:Int):=by omega
  have hbp:s[p]=Pl.b l p:=by rw[← Hl.out];exact(Pl.b_lt _ p (by simpa using hlt)).symm
  have h8:s[p].toNat<256:=UInt8.toNat_lt _
  go_enter Tryz.func174,Tryz.ntmps174
  go_wp2_with (go_at_call 197;fail)
  rw[HW1.out]
  refine kE.out.mono ?_
  rintro e w2 ⟨rfl,hb2⟩
  have S2:=mkHid (S1.out.below hb2)
  have G2:=mkHid (grown_trans G1.out (grown_below (r:=some g) hb2))
  have hr2:=(hb2.block w.heap.size hs1).trans hr1
  have hs2:w.heap.size<w2.heap.size:=Nat.lt_of_lt_of_le hs1 hb2.size
  clear kE hb2 S1 G1 HW1 hr1
  have c0:=S2.out.c0
  have c1:=S2.out.c1
  have kD:=mkHid (fun W=>implDig s[p] W)
  have kL:=mkHid (fun W=>kindLow.calls s[p] W)
  generalize hsk:s[p]=c at *
  replace hbp:=mkHid hbp
  go_wp2
  go_quiet (fail)
  have bN:Below w2.heap.size w2 (w2.drewN nq):=Go.below_drewN (Below.refl _ _) nq
  obtain⟨V,hV⟩:∃V,w2.drewN nq=V:=⟨_,rfl⟩
  rw[hV] at bN ⊢
  have S3:=mkHid (S2.out.below bN)
  have G3:=mkHid (grown_trans G2.out (grown_below (r:=some g) bN))
  have hr3:=(bN.block w.heap.size hs2).trans hr2
  have hs3:w.heap.size<V.heap.size:=Nat.lt_of_lt_of_le hs2 bN.size
  clear c0 c1 S2 G2 hr2 bN hV
  by_cases h34:c=34
  ·have hpt:Hid (Rf.ptk l p=match Rf.qd (l.drop (p+1)) with|some (t,k)=>if t.length≤1000 then some (3,t,p+1+k) else none|none=>none):=by
    show _=_
    unfold Rf.ptk
    rw[← hbp.out,h34]
    rfl
   have kQ:=mkHid (scQuotedText g s p p V hs hlt S3.out)
   rw[Hl.out] at kQ
   clear hbp
   subst h34
   rw[show(((34:UInt8).toNat:Nat):Int)=34 from rfl]
   go_wp2_with (go_at_call 199;fail)
   refine kQ.out.mono ?_
   rintro e w4 ⟨g4,⟨t,k,hq,ht,rfl,s4⟩|⟨hq,rfl⟩⟩
   ·have hr4:=(g4.block w.heap.size hs3 (by simp;omega)).trans hr3
    have S4:=mkHid s4
    have G4:=mkHid (grown_trans G3.out g4)
    have hres:Hid (Rf.ptk l p=some (3,t,p+1+k)):=by
     show _=_
     rw[hpt.out,hq]
     exact if_pos ht
    clear g4 s4 kQ hpt hq
    go_wp2_with (first|(refine wpL_store_row rfl 174 _ _ rfl w.heap.size #[.int .i64 3,.string ⟨t.toArray⟩] rfl rfl 174 _ hr4 (by kernel_rfl) rfl (by simp[Value.oneCell']) ?_)|go_in)
    refine bodyPost_ret (v:=.agg #[.int .i64 3,.string ⟨t.toArray⟩]) (results_cell_row Tryz.results174 _ _ w.heap.size 174 _ (0,0) _ rfl (setRow_heap _ _ _ _ _ _ hr4) Tryz.underlying174 rfl (by kernel_rfl)) rfl ?_
    exact⟨grown_new G4.out (grown_setRow _ _ _) (Nat.le_refl _),.inr (.inl ⟨hlt,_,_,_,hres.out,rfl,S4.out.grown (grown_setRow _ _ _) (by omega)⟩)⟩
   ·refine⟨rfl,grown_trans G3.out g4,.inr (.inr ⟨hlt,?_,rfl⟩)⟩
    rw[hpt.out]
    cases hqd:Rf.qd (l.drop (p+1)) with
    | none=>rfl
    | some y=>exact if_neg (hq y.1 y.2 hqd)
  ·have n34:((c.toNat:Int)==34)=false:=by
    rw[beq_eq_false_iff_ne]
    intro e
    exact h34 (UInt8.toNat_inj.1 (by have:(34:UInt8).toNat=34:=rfl;omega))
   have e34:(Pl.b l p==34)=false:=by rw[← hbp.out];simpa using h34
   cases hdg:Rf.digK c
   ·have ed:Rf.digK (Pl.b l p)=false:=by rw[← hbp.out];exact hdg
    rw[hdg] at kD
    cases hlo:Rf.lowK c
    ·have el:Rf.lowK (Pl.b l p)=false:=by rw[← hbp.out];exact hlo
     rw[hlo] at kL
     have kN:=mkHid (fun (W:World) (h:Sc R W g s p p)=>scNextYes g s p p W hs h hlt)
     rw[hsk] at kN
     go_wp2_with (go_at_call 154;fail)
     refine(kD.out _).mono ?_
     rintro e w4 ⟨rfl,rfl⟩
     go_wp2_with (go_at_call 153;fail)
     refine(kL.out _).mono ?_
     rintro e w5 ⟨rfl,rfl⟩
     go_wp2_with (go_at_call 201;fail)
     refine(kN.out _ S3.out).mono ?_
     rintro e w6 ⟨rfl,s6,g6⟩
     have hr6:=(g6.block w.heap.size hs3 (by simp;omega)).trans hr3
     have G6:=mkHid (grown_trans G3.out g6)
     have hs6:w.heap.size<w6.heap.size:=heap_ltM hr6
     have S6:=mkHid s6
     clear s6 g6 kN kD kL
     by_cases h58:c=58
     ·have hle:=Pl.stop_le Rf.lowK l (p+1) (by omega)
      have hge:=Pl.stop_ge Rf.lowK l (p+1) (by omega)
      have hres0:Hid (Rf.ptk l p=some (1,Rf.cut l p (Pl.stop Rf.lowK l (p+1)),Pl.stop Rf.lowK l (p+1))):=by
       show _=_
       unfold Rf.ptk
       rw[e34,ed,el,← hbp.out,h58]
       rfl
      have kP:=mkHid (scPass kindLow g s (p+1) p w6 hs (by omega) S6.out)
      rw[Hl.out] at kP
      obtain⟨q,hq⟩:∃q,Pl.stop Rf.lowK l (p+1)=q:=⟨_,rfl⟩
      rw[hq] at kP hres0 hle hge
      have hcut:Hid (Rf.ptk l p=some (1,Rf.cut l p q,q)∧(⟨(Rf.cut l p q).toArray⟩:ByteArray)=s.extract p q):=⟨hres0.out,by rw[← Hl.out];exact ba_cut s p q⟩
      clear hq hbp e34 ed el hres0
      subst h58
      rw[show(((58:UInt8).toNat:Nat):Int)=58 from rfl]
      go_wp2_with (go_at_call 195;fail)
      refine kP.out.mono ?_
      rintro e w7 ⟨rfl,s7,g7⟩
      have hr7:=(g7.block w.heap.size hs6 (by simp;omega)).trans hr6
      have G7:=mkHid (grown_trans G6.out g7)
      have S7:=mkHid s7
      clear s7 g7 kP S6 G6 hr6
      go_wp2
      have hS:w7.cell? ⟨g,0,none⟩=some (.string s)∧w7.cell? ⟨g,2,none⟩=some (.int .i64 (p:Int))∧w7.cell? ⟨g,1,none⟩=some (.int .i64 ((q:Nat):Int)):=⟨S7.out.c0,S7.out.c2,S7.out.c1⟩
      have f1:(((q:Nat)):Int)≤(s.size:Int):=by omega
      have f2:(p:Int)≤((q:Nat):Int):=by omega
      have f3:decide ((p:Int)≤((q:Nat):Int))=true:=decide_eq_true f2
      refine wp_region_held (S:=fun w=>w.cell? ⟨g,0,none⟩=some (.string s)∧w.cell? ⟨g,2,none⟩=some (.int .i64 (p:Int))∧w.cell? ⟨g,1,none⟩=some (.int .i64 ((q:Nat):Int))) (by kernel_rfl) ?_
      refine tk 0 (scp g) hS ?_ ?_
      ·rintro w ⟨s1,s2,s3⟩
       go_simp
       all_goals omega
      go_simp
      refine tk 1 (.pointer (some ⟨g,0,none⟩)) hS ?_ ?_
      ·rintro w ⟨s1,s2,s3⟩
       go_simp
       all_goals omega
      go_simp
      refine tk 2 (.pointer (some ⟨g,0,none⟩)) hS ?_ ?_
      ·rintro w ⟨s1,s2,s3⟩
       go_simp
       all_goals omega
      go_simp
      refine tk 3 (.pointer (some ⟨g,0,none⟩)) hS ?_ ?_
      ·rintro w ⟨s1,s2,s3⟩
       go_simp
       all_goals omega
      go_simp
      refine tk 4 (.string s) hS ?_ ?_
      ·rintro w ⟨s1,s2,s3⟩
       go_simp
       all_goals omega
      go_simp
      refine tk 5 (scp g) hS ?_ ?_
      ·rintro w ⟨s1,s2,s3⟩
       go_simp
       all_goals omega
      go_simp
      refine tk 6 (.pointer (some ⟨g,0,none⟩)) hS ?_ ?_
      ·rintro w ⟨s1,s2,s3⟩
       go_simp
       all_goals omega
      go_simp
      refine tk 7 (.pointer (some ⟨g,0,none⟩)) hS ?_ ?_
      ·rintro w ⟨s1,s2,s3⟩
       go_simp
       all_goals omega
      go_simp
      refine tk 8 (.pointer (some ⟨g,2,none⟩)) hS ?_ ?_
      ·rintro w ⟨s1,s2,s3⟩
       go_simp
       all_goals omega
      go_simp
      refine tk 9 (.int .i64 (p:Int)) hS ?_ ?_
      ·rintro w ⟨s1,s2,s3⟩
       go_simp
       all_goals omega
      go_simp
      refine tk 10 (scp g) hS ?_ ?_
      ·rintro w ⟨s1,s2,s3⟩
       go_simp
       all_goals omega
      go_simp
      refine tk 11 (.pointer (some ⟨g,0,none⟩)) hS ?_ ?_
      ·rintro w ⟨s1,s2,s3⟩
       go_simp
       all_goals omega
      go_simp
      refine tk 12 (.pointer (some ⟨g,0,none⟩)) hS ?_ ?_
      ·rintro w ⟨s1,s2,s3⟩
       go_simp
       all_goals omega
      go_simp
      refine tk 13 (.pointer (some ⟨g,1,none⟩)) hS ?_ ?_
      ·rintro w ⟨s1,s2,s3⟩
       go_simp
       all_goals omega
      go_simp
      refine tk 14 (.int .i64 ((q:Nat):Int)) hS ?_ ?_
      ·rintro w ⟨s1,s2,s3⟩
       go_simp
       all_goals omega
      go_simp
      refine tk 15 (.string (s.extract p q)) hS ?_ ?_
      ·rintro w ⟨s1,s2,s3⟩
       go_simp
       all_goals omega
      go_simp
      refine tk 16 (.agg #[.int .i64 1,.string (s.extract p q)]) hS ?_ ?_
      ·rintro w ⟨s1,s2,s3⟩
       go_simp
       all_goals omega
      go_simp
      refine wpAnyH_all (rs:=[17]) (by kernel_rfl) (by simp) ?_
      intro k hk
      simp only[List.mem_cons,List.not_mem_nil,or_false] at hk
      subst hk
      refine wpOp_step rfl (fun K hK=>?_)
      refine wp_store_row 174 _ _ rfl w.heap.size #[.int .i64 1,.string (s.extract p q)] rfl rfl 174 _ hr7 (by kernel_rfl) rfl (by simp[Value.oneCell']) ?_
      refine hK _ _ ⟨?_,?_⟩
      ·have kp:∀(n:Nat) (x:Value),w7.cell? ⟨g,n,none⟩=some x→(w7.setRow w.heap.size #[.int .i64 1,.string (s.extract p q)]).cell? ⟨g,n,none⟩=some x:=fun n x hx=>(World.cell?_of_block (a:=⟨g,n,none⟩) ((grown_setRow w7 w.heap.size _).block g (World.block_lt_of_cell? _ _ hx) (by simp;omega))).trans hx
       exact⟨kp 0 _ hS.1,kp 2 _ hS.2.1,kp 1 _ hS.2.2⟩
      clear hK K
      go_simp
      refine wpAnyH_done (by kernel_rfl) ?_ _
      go_wp2
      refine bodyPost_ret (v:=.agg #[.int .i64 1,.string (s.extract p q)]) (results_cell_row Tryz.results174 _ _ w.heap.size 174 _ (0,0) _ rfl (setRow_heap _ _ _ _ _ _ hr7) Tryz.underlying174 rfl (by kernel_rfl)) rfl ?_
      have bD:Below w7.heap.size w7 w7.drew:=below_drew (Below.refl _ _)
      exact⟨grown_new (grown_trans G7.out (grown_below bD)) (grown_setRow _ _ _) (Nat.le_refl _),.inr (.inl ⟨hlt,_,_,_,hcut.out.1,by rw[hcut.out.2];rfl,(S7.out.below bD).grown (grown_setRow _ _ _) (by omega)⟩)⟩
     ·have n58:((c.toNat:Int)==58)=false:=by
       rw[beq_eq_false_iff_ne]
       intro e
       exact h58 (UInt8.toNat_inj.1 (by have:(58:UInt8).toNat=58:=rfl;omega))
      have hcut:Hid (Rf.ptk l p=some (1,[c],p+1)∧(⟨[c].toArray⟩:ByteArray)=s.extract p (p+1)):=by
       refine⟨?_,?_⟩
       ·unfold Rf.ptk
        rw[e34,ed,el,← hbp.out,show(c==58)=false from by simpa using h58]
        rfl
       ·rw[← ba_cut,Hl.out,Rf.cut_cons l p (p+1) (by omega) (by omega),← hbp.out]
        have:Rf.cut l (p+1) (p+1)=[]:=List.eq_nil_of_length_eq_zero (by rw[Rf.cut_exact l _ _ (by omega)];omega)
        rw[this]
      clear hbp e34 ed el h58
      go_wp2
      obtain⟨q,hq⟩:∃q,p+1=q:=⟨_,rfl⟩
      rw[hq] at S6 hcut
      have hge:p+1≤q:=by omega
      have hle:q≤s.size:=by omega
      clear hq
      have hS:w6.cell? ⟨g,0,none⟩=some (.string s)∧w6.cell? ⟨g,2,none⟩=some (.int .i64 (p:Int))∧w6.cell? ⟨g,1,none⟩=some (.int .i64 ((q:Nat):Int)):=⟨S6.out.c0,S6.out.c2,S6.out.c1⟩
      have f1:(((q:Nat)):Int)≤(s.size:Int):=by omega
      have f2:(p:Int)≤((q:Nat):Int):=by omega
      have f3:decide ((p:Int)≤((q:Nat):Int))=true:=decide_eq_true f2
      refine wp_region_held (S:=fun w=>w.cell? ⟨g,0,none⟩=some (.string s)∧w.cell? ⟨g,2,none⟩=some (.int .i64 (p:Int))∧w.cell? ⟨g,1,none⟩=some (.int .i64 ((q:Nat):Int))) (by kernel_rfl) ?_
      refine tk 0 (scp g) hS ?_ ?_
      ·rintro w ⟨s1,s2,s3⟩
       go_simp
       all_goals omega
      go_simp
      refine tk 1 (.pointer (some ⟨g,0,none⟩)) hS ?_ ?_
      ·rintro w ⟨s1,s2,s3⟩
       go_simp
       all_goals omega
      go_simp
      refine tk 2 (.pointer (some ⟨g,0,none⟩)) hS ?_ ?_
      ·rintro w ⟨s1,s2,s3⟩
       go_simp
       all_goals omega
      go_simp
      refine tk 3 (.pointer (some ⟨g,0,none⟩)) hS ?_ ?_
      ·rintro w ⟨s1,s2,s3⟩
       go_simp
       all_goals omega
      go_simp
      refine tk 4 (.string s) hS ?_ ?_
      ·rintro w ⟨s1,s2,s3⟩
       go_simp
       all_goals omega
      go_simp
      refine tk 5 (scp g) hS ?_ ?_
      ·rintro w ⟨s1,s2,s3⟩
       go_simp
       all_goals omega
      go_simp
      refine tk 6 (.pointer (some ⟨g,0,none⟩)) hS ?_ ?_
      ·rintro w ⟨s1,s2,s3⟩
       go_simp
       all_goals omega
      go_simp
      refine tk 7 (.pointer (some ⟨g,0,none⟩)) hS ?_ ?_
      ·rintro w ⟨s1,s2,s3⟩
       go_simp
       all_goals omega
      go_simp
      refine tk 8 (.pointer (some ⟨g,2,none⟩)) hS ?_ ?_
      ·rintro w ⟨s1,s2,s3⟩
       go_simp
       all_goals omega
      go_simp
      refine tk 9 (.int .i64 (p:Int)) hS ?_ ?_
      ·rintro w ⟨s1,s2,s3⟩
       go_simp
       all_goals omega
      go_simp
      refine tk 10 (scp g) hS ?_ ?_
      ·rintro w ⟨s1,s2,s3⟩
       go_simp
       all_goals omega
      go_simp
      refine tk 11 (.pointer (some ⟨g,0,none⟩)) hS ?_ ?_
      ·rintro w ⟨s1,s2,s3⟩
       go_simp
       all_goals omega
      go_simp
      refine tk 12 (.pointer (some ⟨g,0,none⟩)) hS ?_ ?_
      ·rintro w ⟨s1,s2,s3⟩
       go_simp
       all_goals omega
      go_simp
      refine tk 13 (.pointer (some ⟨g,1,none⟩)) hS ?_ ?_
      ·rintro w ⟨s1,s2,s3⟩
       go_simp
       all_goals omega
      go_simp
      refine tk 14 (.int .i64 ((q:Nat):Int)) hS ?_ ?_
      ·rintro w ⟨s1,s2,s3⟩
       go_simp
       all_goals omega
      go_simp
      refine tk 15 (.string (s.extract p q)) hS ?_ ?_
      ·rintro w ⟨s1,s2,s3⟩
       go_simp
       all_goals omega
      go_simp
      refine tk 16 (.agg #[.int .i64 1,.string (s.extract p q)]) hS ?_ ?_
      ·rintro w ⟨s1,s2,s3⟩
       go_simp
       all_goals omega
      go_simp
      refine wpAnyH_all (rs:=[17]) (by kernel_rfl) (by simp) ?_
      intro k hk
      simp only[List.mem_cons,List.not_mem_nil,or_false] at hk
      subst hk
      refine wpOp_step rfl (fun K hK=>?_)
      refine wp_store_row 174 _ _ rfl w.heap.size #[.int .i64 1,.string (s.extract p q)] rfl rfl 174 _ hr6 (by kernel_rfl) rfl (by simp[Value.oneCell']) ?_
      refine hK _ _ ⟨?_,?_⟩
      ·have kp:∀(n:Nat) (x:Value),w6.cell? ⟨g,n,none⟩=some x→(w6.setRow w.heap.size #[.int .i64 1,.string (s.extract p q)]).cell? ⟨g,n,none⟩=some x:=fun n x hx=>(World.cell?_of_block (a:=⟨g,n,none⟩) ((grown_setRow w6 w.heap.size _).block g (World.block_lt_of_cell? _ _ hx) (by simp;omega))).trans hx
       exact⟨kp 0 _ hS.1,kp 2 _ hS.2.1,kp 1 _ hS.2.2⟩
      clear hK K
      go_simp
      refine wpAnyH_done (by kernel_rfl) ?_ _
      go_wp2
      refine bodyPost_ret (v:=.agg #[.int .i64 1,.string (s.extract p q)]) (results_cell_row Tryz.results174 _ _ w.heap.size 174 _ (0,0) _ rfl (setRow_heap _ _ _ _ _ _ hr6) Tryz.underlying174 rfl (by kernel_rfl)) rfl ?_
      have bD:Below w6.heap.size w6 w6.drew:=below_drew (Below.refl _ _)
      exact⟨grown_new (grown_trans G6.out (grown_below bD)) (grown_setRow _ _ _) (Nat.le_refl _),.inr (.inl ⟨hlt,_,_,_,hcut.out.1,by rw[hcut.out.2];rfl,(S6.out.below bD).grown (grown_setRow _ _ _) (by omega)⟩)⟩
    ·have el:Rf.lowK (Pl.b l p)=true:=by rw[← hbp.out];exact hlo
     rw[hlo] at kL
     have kP:=mkHid (scPass kindLow g s p p V hs hp S3.out)
     rw[Hl.out] at kP
     have hres0:Rf.ptk l p=some (1,Rf.cut l p (Pl.stop Rf.lowK l p),Pl.stop Rf.lowK l p):=by
      unfold Rf.ptk
      rw[e34,ed,el]
      rfl
     obtain⟨q,hq⟩:∃q,Pl.stop Rf.lowK l p=q:=⟨_,rfl⟩
     rw[hq] at kP hres0
     have hres:=mkHid hres0
     have hcut:Hid ((⟨(Rf.cut l p q).toArray⟩:ByteArray)=s.extract p q):=by show _=_;rw[← Hl.out];exact ba_cut s p q
     clear hq hbp e34 ed el hres0
     go_wp2_with (go_at_call 154;fail)
     refine(kD.out _).mono ?_
     rintro e w4 ⟨rfl,rfl⟩
     go_wp2_with (go_at_call 153;fail)
     refine(kL.out _).mono ?_
     rintro e w5 ⟨rfl,rfl⟩
     go_wp2_with (go_at_call 195;fail)
     refine kP.out.mono ?_
     rintro e w7 ⟨rfl,s4,g4⟩
     have hr4:=(g4.block w.heap.size hs3 (by simp;omega)).trans hr3
     have S4:=mkHid s4
     have G4:=mkHid (grown_trans G3.out g4)
     rw[← hcut.out]
     clear g4 s4 kP
     go_wp2_with (first|(refine wpL_store_row rfl 174 _ _ rfl w.heap.size #[.int .i64 1,.string ⟨(Rf.cut l p q).toArray⟩] rfl rfl 174 _ hr4 (by kernel_rfl) rfl (by simp[Value.oneCell']) ?_)|go_in)
     refine bodyPost_ret (v:=.agg #[.int .i64 1,.string ⟨(Rf.cut l p q).toArray⟩]) (results_cell_row Tryz.results174 _ _ w.heap.size 174 _ (0,0) _ rfl (setRow_heap _ _ _ _ _ _ hr4) Tryz.underlying174 rfl (by kernel_rfl)) rfl ?_
     exact⟨grown_new G4.out (grown_setRow _ _ _) (Nat.le_refl _),.inr (.inl ⟨hlt,_,_,_,hres.out,rfl,S4.out.grown (grown_setRow _ _ _) (by omega)⟩)⟩
   ·have ed:Rf.digK (Pl.b l p)=true:=by rw[← hbp.out];exact hdg
    rw[hdg] at kD
    have kP:=mkHid (scDigits g s p p V hs hp S3.out)
    rw[Hl.out] at kP
    have hres0:Rf.ptk l p=if Pl.stop Rf.digK l p-p≤9 then some (2,Rf.cut l p (Pl.stop Rf.digK l p),Pl.stop Rf.digK l p) else none:=by
     unfold Rf.ptk
     rw[e34,ed]
     rfl
    obtain⟨q,hq⟩:∃q,Pl.stop Rf.digK l p=q:=⟨_,rfl⟩
    rw[hq] at kP hres0
    have Hres:=mkHid hres0
    have hcut:Hid ((⟨(Rf.cut l p q).toArray⟩:ByteArray)=s.extract p q):=by show _=_;rw[← Hl.out];exact ba_cut s p q
    clear hq hbp e34 ed hres0 kL
    go_wp2_with (go_at_call 154;fail)
    refine(kD.out _).mono ?_
    rintro e w4 ⟨rfl,rfl⟩
    go_wp2_with (go_at_call 200;fail)
    refine kP.out.mono ?_
    rintro e w7 ⟨g4,⟨h9,rfl,s4⟩|⟨h9,rfl⟩⟩
    ·have hr4:=(g4.block w.heap.size hs3 (by simp;omega)).trans hr3
     have S4:=mkHid s4
     have G4:=mkHid (grown_trans G3.out g4)
     have hres:Hid (Rf.ptk l p=some (2,Rf.cut l p q,q)):=by show _=_;rw[Hres.out,if_pos h9]
     rw[← hcut.out]
     clear g4 s4 kP
     go_wp2_with (first|(refine wpL_store_row rfl 174 _ _ rfl w.heap.size #[.int .i64 2,.string ⟨(Rf.cut l p q).toArray⟩] rfl rfl 174 _ hr4 (by kernel_rfl) rfl (by simp[Value.oneCell']) ?_)|go_in)
     refine bodyPost_ret (v:=.agg #[.int .i64 2,.string ⟨(Rf.cut l p q).toArray⟩]) (results_cell_row Tryz.results174 _ _ w.heap.size 174 _ (0,0) _ rfl (setRow_heap _ _ _ _ _ _ hr4) Tryz.underlying174 rfl (by kernel_rfl)) rfl ?_
     exact⟨grown_new G4.out (grown_setRow _ _ _) (Nat.le_refl _),.inr (.inl ⟨hlt,_,_,_,hres.out,rfl,S4.out.grown (grown_setRow _ _ _) (by omega)⟩)⟩
    ·exact⟨rfl,grown_trans G3.out g4,.inr (.inr ⟨hlt,by rw[Hres.out,if_neg h9],rfl⟩)⟩
 ·rw[show((p:Int)==(s.size:Int))=true from by simp;omega] at kE
  go_enter Tryz.func174,Tryz.ntmps174
  go_wp2_with (go_at_call 197;fail)
  rw[HW1.out]
  refine kE.out.mono ?_
  rintro e w2 ⟨rfl,hb2⟩
  have S4:=mkHid (S1.out.below hb2)
  have G4:=mkHid (grown_trans G1.out (grown_below (r:=some g) hb2))
  have hr2:=(hb2.block w.heap.size hs1).trans hr1
  clear kE hb2 S1 G1 HW1 hr1
  go_wp2_with (first|(refine wpL_store_row rfl 174 _ _ rfl w.heap.size #[.int .i64 0,.string ⟨#[]⟩] rfl rfl 174 _ hr2 (by kernel_rfl) rfl (by simp[Value.oneCell']) ?_)|go_in)
  refine bodyPost_ret (v:=.agg #[.int .i64 0,.string ⟨#[]⟩]) (results_cell_row Tryz.results174 _ _ w.heap.size 174 _ (0,0) _ rfl (setRow_heap _ _ _ _ _ _ hr2) Tryz.underlying174 rfl (by kernel_rfl)) rfl ?_
  exact⟨grown_new G4.out (grown_setRow _ _ _) (Nat.le_refl _),.inl ⟨by omega,rfl,S4.out.grown (grown_setRow _ _ _) (by omega)⟩⟩
abbrev prR (kd:Nat)(x:ByteArray)(v:Value):List Value × TypeId:=([.int .i64 (kd:Int),.string x,v],176)
section
variable {w:World} {g:Nat} {s:ByteArray} {a b kd:Nat} {x:ByteArray} {v:Value}
theorem Sc.c3 (h:Sc (prR kd x v) w g s a b):w.cell? ⟨g,3,none⟩=some (.int .i64 (kd:Int)):=by simp[World.cell?,h.blk]
theorem Sc.c4 (h:Sc (prR kd x v) w g s a b):w.cell? ⟨g,4,none⟩=some (.string x):=by simp[World.cell?,h.blk]
theorem Sc.c5 (h:Sc (prR kd x v) w g s a b):w.cell? ⟨g,5,none⟩=some v:=by simp[World.cell?,h.blk]
theorem Sc.fz (h:Sc (prR kd x v) w g s a b)(j:Nat):w.frozen? ⟨g,j,none⟩=false:=by simp[World.frozen?,h.blk]
theorem Sc.tok (h:Sc (prR kd x v) w g s a b)(kd':Nat)(x':ByteArray):Sc (prR kd' x' v) ((w.setCell ⟨g,3,none⟩ (.int .i64 (kd':Int))).setCell ⟨g,4,none⟩ (.string x')) g s a b:=
 ⟨by simp[World.setCell,Array.getElem?_modify,h.blk]⟩
theorem Sc.nodes (h:Sc (prR kd x v) w g s a b)(v':Value):Sc (prR kd x v') (w.setCell ⟨g,5,none⟩ v') g s a b:=
 ⟨by simp[World.setCell,Array.getElem?_modify,h.blk]⟩
end
theorem scAdvance (g:Nat)(s:ByteArray)(l:List UInt8)(T:List Rf.Tk)(a b kd m f:Nat)(x:ByteArray)(v:Value)(w:World)(hl:s.data.toList=l)(hs:s.size≤100000)(ha:a≤s.size)(h:Sc (prR kd x v) w g s a b)(hf:l.length-a<f)(hT:T.drop m=Rf.toks l f a) :
  Calls Tryz.prog 147 #[scp g] w fun e w'=>w.grownBy w' (some g)∧((∃kd' x' a',e=.returned (.tuple #[])∧Sc (prR kd' ⟨x'.toArray⟩ v) w' g s a' (Rf.pos T m)∧Rf.Cur l T m kd' x' a')∨(m<T.length∧Rf.kind T m=120∧e=faultAt (Rf.pos T m))):=by
 have hll:l.length=s.size:=by rw[← hl];simp
 have kG:=mkHid (scGap g s a b w hs ha h)
 rw[hl] at kG
 have hge:=Rf.gap_ge l a
 have hgle:=Rf.gap_le l a (by omega)
 have cE:=mkHid (fun hg=>Rf.cur_end (T:=T) (m:=m) hf hT hg hgle)
 have cN:=mkHid (fun hg hp=>Rf.cur_none (T:=T) (m:=m) hf hT hg hp)
 have cS:=mkHid (fun hg kd x a' hp=>Rf.cur_some (T:=T) (m:=m) (kd:=kd) (x:=x) (a:=a') (by omega) hf hT hg hp)
 have Hl:=mkHid hl
 clear h hT hl hf
 obtain⟨p,hp⟩:∃p,Rf.gap l a=p:=⟨_,rfl⟩
 rw[hp] at kG hge hgle cE cN cS
 clear hp
 go_enter Tryz.func147,Tryz.ntmps147
 go_wp2_with (go_at_call 173;fail)
 refine kG.out.mono ?_
 rintro e w1 ⟨rfl,s1,g1⟩
 have c1:=s1.c1
 have c2:=s1.c2
 have f2:=s1.f2
 have S2:=mkHid (s1.set2 (p:Int) p rfl)
 have G2:=mkHid (grown_trans g1 (grown_set w1 g 2 (.int .i64 (p:Int))))
 obtain⟨W2,hW2⟩:∃W2,w1.setCell ⟨g,2,none⟩ (.int .i64 (p:Int))=W2:=⟨_,rfl⟩
 rw[hW2] at S2 G2
 have HW2:=mkHid hW2
 clear kG s1 g1 hW2
 have kN:=mkHid (scNextToken g s p W2 hs (by omega) S2.out)
 rw[Hl.out] at kN
 go_wp2_with (go_at_call 174;fail)
 rw[HW2.out]
 refine kN.out.mono ?_
 clear c1 c2 f2 HW2
 rintro e w3 ⟨g3,⟨hpe,rfl,s3⟩|⟨hpl,kd',x',a',hpt,rfl,s3⟩|⟨hpl,hpt,rfl⟩⟩
 ·have c3:=s3.c3
  have c4:=s3.c4
  have f3:=s3.fz 3
  have f4:=s3.fz 4
  have S4:=mkHid (s3.tok 0 ⟨#[]⟩)
  have G4:=mkHid (grown_trans (grown_trans (grown_trans G2.out g3) (grown_set w3 g 3 (.int .i64 ((0:Nat):Int)))) (grown_set _ g 4 (.string ⟨#[]⟩)))
  have hcur:=mkHid (cE.out (by omega))
  clear s3 g3
  go_wp2
  refine bodyPost_end (v:=.tuple #[]) (results_none Tryz.results147 _ _ _) rfl ⟨G4.out,.inl ⟨0,[],p,rfl,?_,hcur.out.1⟩⟩
  rw[hcur.out.2]
  exact S4.out
 ·have c3:=s3.c3
  have c4:=s3.c4
  have f3:=s3.fz 3
  have f4:=s3.fz 4
  have S4:=mkHid (s3.tok kd' ⟨x'.toArray⟩)
  have G4:=mkHid (grown_trans (grown_trans (grown_trans G2.out g3) (grown_set w3 g 3 (.int .i64 (kd':Int)))) (grown_set _ g 4 (.string ⟨x'.toArray⟩)))
  have hcur:=mkHid (cS.out (by omega) kd' x' a' hpt)
  clear s3 g3 hpt
  go_wp2
  refine bodyPost_end (v:=.tuple #[]) (results_none Tryz.results147 _ _ _) rfl ⟨G4.out,.inl ⟨kd',x',a',rfl,?_,hcur.out.1⟩⟩
  rw[hcur.out.2]
  exact S4.out
 ·obtain⟨h1,h2,h3⟩:=cN.out (by omega) hpt
  exact⟨rfl,grown_trans G2.out g3,.inr ⟨h1,h2,by rw[h3]⟩⟩
open Go.RowKit Go.Lib Go.Maps
structure Ps (g:Nat)(s:ByteArray)(l:List UInt8)(T:List Rf.Tk)(n kd:Nat)(x:List UInt8)(a:Nat)(v:Value)(E:List NdE)(w:World):Prop where
 sc:Sc (prR kd ⟨x.toArray⟩ v) w g s a (Rf.pos T n)
 cur:Rf.Cur l T n kd x a
 nt:Nt (g+1) v E w
theorem Ef.of_grown {g:Nat} {w w':World} (h:w.grownBy w' (some g)):Ef g none w w':=⟨h.os,h.tape,h.output,h.size,fun k hk hg _=>h.block k hk (by simpa using hg)⟩
theorem Nt.far {g:Nat} {v:Value} {E:List NdE} {w w':World} (h:Nt (g+1) v E w)(hg:w.grownBy w' (some g)):Nt (g+1) v E w':=by
 have key:∀(x:Value),(∀k,x.ownBlock=some k→g+1≤k)→x.ownBlock=none∨x.ownBlock≠some g:=by
  intro x hx
  cases ho:x.ownBlock with
  | none=>exact .inl rfl
  | some k=>exact .inr (by have:=hx k ho;intro e;cases e;omega)
 refine h.grown hg (key _ fun k hk=>(World.ownsRow.lt h.row k hk).1) (fun s hs=>?_) (fun s hs=>?_)
 ·by_cases hn:s.2=[]
  ·exact .inl hn
  ·exact .inr (key _ fun k hk=>(World.ownsRow.lt ((h.own s hs).2 hn) k hk).1)
 ·by_cases hn:s.2=[]
  ·exact .inl hn
  ·exact .inr (key _ fun k hk=>(World.ownsRow.lt ((h.ownN s hs).2 hn) k hk).1)
def Xf (T:List Rf.Tk)(m:Nat)(e:Ending):Prop:=m<T.length∧Rf.kind T m=120∧e=faultAt (Rf.pos T m)
section
variable {g:Nat} {s:ByteArray} {l:List UInt8} {T:List Rf.Tk} {n kd:Nat} {x:List UInt8} {a:Nat} {v:Value} {E:List NdE} {w:World}
theorem Ps.below {w':World} (h:Ps g s l T n kd x a v E w)(hb:Below w.heap.size w w'):Ps g s l T n kd x a v E w':=⟨h.sc.below hb,h.cur,h.nt.below hb⟩
theorem Ps.adv (h:Ps g s l T n kd x a v E w)(hl:s.data.toList=l)(hs:s.size≤100000)(h1:Rf.kind T n≠101)(h2:Rf.kind T n≠120) :
  Calls Tryz.prog 147 #[scp g] w fun e w'=>Ef g none w w'∧((∃kd' x' a',e=.returned (.tuple #[])∧Ps g s l T (n+1) kd' x' a' v E w')∨Xf T (n+1) e):=by
 obtain⟨f,hf,hT⟩:=h.cur.rest h1 h2
 have hll:l.length=s.size:=by rw[← hl];simp
 have hle:=h.cur.le
 refine(scAdvance g s l T a _ kd (n+1) f _ v w hl hs (by omega) h.sc hf hT).mono ?_
 rintro e w' ⟨hg,⟨kd',x',a',rfl,s',c'⟩|⟨m1,m2,rfl⟩⟩
 ·exact⟨Ef.of_grown hg,.inl ⟨kd',x',a',rfl,s',c',h.nt.far hg⟩⟩
 ·exact⟨Ef.of_grown hg,.inr ⟨m1,m2,rfl⟩⟩
theorem ba_list' (x:List UInt8):(⟨x.toArray⟩:ByteArray).toList=x:=Rf.ba_list x
theorem prTakes (h:Ps g s l T n kd x a v E w)(hl:s.data.toList=l)(hs:s.size≤100000)(wd:List UInt8)(hw:Rf.cls wd≠120)(hw1:Rf.cls wd≠101) :
  Calls Tryz.prog 204 #[scp g,.string ⟨wd.toArray⟩] w fun e w'=>Ef g none w w'∧((Rf.is T n (Rf.cls wd) wd=false∧e=.returned (.bool false)∧Ps g s l T n kd x a v E w')∨(Rf.is T n (Rf.cls wd) wd=true∧((∃kd' x' a',e=.returned (.bool true)∧Ps g s l T (n+1) kd' x' a' v E w')∨Xf T (n+1) e))):=by
 have ht:=h.cur.takes wd hw
 have c3:=h.sc.c3
 have c4:=h.sc.c4
 have H:=mkHid h
 obtain⟨xb,hxb⟩:∃xb:ByteArray,⟨x.toArray⟩=xb:=⟨_,rfl⟩
 obtain⟨wb,hwb⟩:∃wb:ByteArray,⟨wd.toArray⟩=wb:=⟨_,rfl⟩
 have hxw:(xb.toList==wb.toList)=(x==wd):=by rw[← hxb,← hwb,ba_list',ba_list']
 rw[hxb] at c4
 rw[hwb]
 have Ht:=mkHid ht
 clear ht
 cases hy:(kd==1 && x==wd)
 ·have hno:Hid (Rf.is T n (Rf.cls wd) wd=false):=Ht.out.symm.trans hy
  have hyp:(kd==1)=false∨(kd==1)=true∧(x==wd)=false:=by
   cases h1:(kd==1)
   ·exact .inl rfl
   ·rw[h1] at hy;exact .inr ⟨rfl,by simpa using hy⟩
  clear h hxb hwb hy Ht
  rcases hyp with h1|⟨h1,h2⟩
  ·have hk:((kd:Int)==1)=false:=by rw[beq_eq_false_iff_ne] at h1 ⊢;omega
   clear h1
   go_enter Tryz.func204,Tryz.ntmps204
   go_wp2_with (go_at_call 147;fail)
   all_goals
    go_ret
    exact⟨Ef.refl2 _ _ _,.inl ⟨hno.out,rfl,H.out⟩⟩
  ·obtain rfl:kd=1:=by simpa using h1
   rw[h2] at hxw
   clear h1 h2
   go_enter Tryz.func204,Tryz.ntmps204
   go_wp2_with (go_at_call 147;fail)
   all_goals
    go_ret
    exact⟨Ef.refl2 _ _ _,.inl ⟨hno.out,rfl,H.out⟩⟩
 ·have hyes:Hid (Rf.is T n (Rf.cls wd) wd=true):=Ht.out.symm.trans hy
  rw[Bool.and_eq_true,beq_iff_eq] at hy
  obtain⟨rfl,hy2⟩:=hy
  rw[hy2] at hxw
  have hkn:Rf.kind T n=Rf.cls wd:=Rf.is_kind hyes.out
  have kA:=mkHid (h.adv hl hs (by rw[hkn];exact hw1) (by rw[hkn];exact hw))
  clear h hxb hwb hy2 Ht hkn
  go_enter Tryz.func204,Tryz.ntmps204
  go_wp2_with (go_at_call 147;fail)
  refine kA.out.mono ?_
  rintro e w1 ⟨e1,⟨kd',x',a',rfl,h1⟩|hx⟩
  ·replace h1:=mkHid h1
   replace e1:=mkHid e1
   go_wp2
   go_ret
   exact⟨e1.out,.inr ⟨hyes.out,.inl ⟨kd',x',a',rfl,h1.out⟩⟩⟩
  ·obtain⟨m1,m2,rfl⟩:=hx
   exact⟨rfl,e1,.inr ⟨hyes.out,.inr ⟨m1,m2,rfl⟩⟩⟩
theorem prSign (h:Ps g s l T n kd x a v E w)(hl:s.data.toList=l)(hs:s.size≤100000)(wd:List UInt8)(hw:Rf.cls wd≠120)(hw1:Rf.cls wd≠101) :
  Calls Tryz.prog 183 #[scp g,.string ⟨wd.toArray⟩] w fun e w'=>Ef g none w w'∧((Rf.is T n (Rf.cls wd) wd=false∧e=faultAt (Rf.pos T n))∨(Rf.is T n (Rf.cls wd) wd=true∧((∃kd' x' a',e=.returned (.tuple #[])∧Ps g s l T (n+1) kd' x' a' v E w')∨Xf T (n+1) e))):=by
 have bD:Below w.heap.size w w.drew:=below_drew (Below.refl _ _)
 have kT:=mkHid (prTakes (h.below bD) hl hs wd hw hw1)
 have eD:=mkHid (Ef.of_below (g:=g) (r:=none) bD)
 have kN:=mkHid (fun (W:World) (kd:Nat) (x:List UInt8) (a:Nat) (h:Ps g s l T n kd x a v E W)=>scNeedNo g s a (Rf.pos T n) W h.sc)
 have kY:=mkHid (fun (W:World)=>scNeedYes g W)
 clear h bD
 generalize (⟨wd.toArray⟩:ByteArray)=wb at *
 go_enter Tryz.func183,Tryz.ntmps183
 go_wp2_with (go_at_call 204;fail)
 refine wp_region_any (by kernel_rfl) ?_
 refine ta 0 (scp g) ?_ ?_
 ·intro w
  go_simp
  all_goals omega
 go_simp
 refine ta 1 (.pointer (some ⟨g,0,none⟩)) ?_ ?_
 ·intro w
  go_simp
  all_goals omega
 go_simp
 refine ta 2 (.pointer (some ⟨g,0,none⟩)) ?_ ?_
 ·intro w
  go_simp
  all_goals omega
 go_simp
 refine ta 3 (scp g) ?_ ?_
 ·intro w
  go_simp
  all_goals omega
 go_simp
 refine ta 4 (.string wb) ?_ ?_
 ·intro w
  go_simp
  all_goals omega
 go_simp
 refine r1 5 (fun K hK=>?_)
 go_simp
 refine kT.out.mono ?_
 rintro e w1 ⟨e1,⟨hno,rfl,h1⟩|⟨hyes,⟨kd',x',a',rfl,h1⟩|⟨m1,m2,rfl⟩⟩⟩
 ·replace h1:=mkHid h1
  replace e1:=mkHid (eD.out.trans0 e1)
  go_simp
  refine hK _ _ ?_
  clear hK K kT
  go_simp
  refine r1 6 (fun K hK=>?_)
  go_simp
  refine(kN.out _ _ _ _ h1.out).mono ?_
  rintro e w2 ⟨rfl,rfl⟩
  go_simp
  exact⟨rfl,e1.out,.inl ⟨hno,rfl⟩⟩
 ·replace h1:=mkHid h1
  replace e1:=mkHid (eD.out.trans0 e1)
  go_simp
  refine hK _ _ ?_
  clear hK K kT
  go_simp
  refine r1 6 (fun K hK=>?_)
  go_simp
  refine(kY.out _).mono ?_
  rintro e w2 ⟨rfl,rfl⟩
  go_simp
  refine hK _ _ ?_
  clear hK K
  go_simp
  refine wpAny_done (by kernel_rfl) ?_ _
  refine bodyPost_end (v:=.tuple #[]) (results_none Tryz.results183 _ _ _) rfl ⟨e1.out,.inr ⟨hyes,.inl ⟨kd',x',a',rfl,h1.out⟩⟩⟩
 ·go_simp
  exact⟨rfl,eD.out.trans0 e1,.inr ⟨hyes,.inr ⟨m1,m2,rfl⟩⟩⟩
end
end Go.Proofs.YtkcajnjledldnaaGreatDoor
