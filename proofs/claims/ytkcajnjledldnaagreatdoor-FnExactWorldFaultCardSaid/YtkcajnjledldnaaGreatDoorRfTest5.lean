import Derived.Test.YtkcajnjledldnaaGreatDoorTk
import Derived.Test.YtkcajnjledldnaaGreatDoorRfTest2
import Derived.Test.YtkcajnjledldnaaGreatDoorRfTest3
set_option maxRecDepth 20000
set_option maxHeartbeats 8000000
namespace Go.Proofs.YtkcajnjledldnaaGreatDoor
open Go.RowKit Go.Lib Go.Maps
def Rf.allEnd (k:Int):Rf.KO→Rf.Out
 | .ok i N ks=>.ok i (N ++ [{ Rf.zn k with kids:=ks }])
 | .bad j=>.bad j
def Rf.allStart (T:List Rf.Tk)(t:Nat→List Nd→Rf.Out)(k:Int):Rf.Out→Rf.Out
 | .ok i' N'=>Rf.allEnd k (Rf.tsts T t T.length i' N' [Rf.last N'])
 | .bad j=>.bad j
def tstM (T:List Rf.Tk)(g:Nat)(wr:World):Nat:=T.length-(Lib.intOf ((wr.cell? ⟨g,1,none⟩).getD undef)).toNat
def TstInv (k:Int)(g:Nat)(tv:Value)(T:List Rf.Tk)(TE:List TkE)(v:Value)(E:List NdE)(w:World)(B i:Nat)(many:Bool)(R:Rf.Out)(t:Nat→List Nd→Rf.Out)(wr:World):Prop:=
 ∃ (j:Nat) (bd mn:Bool) (v' vd:Value) (A:List NdE) (ks:List Int) (F:Nat),j<T.length∧i+1≤j∧T.length≤j+F∧ks.length≤j∧A.length+3*i+3≤3*j∧Hid (Fm g tv TE v E w B { Rf.zn k with kids:=ks } (.slice none 0 0) (.slice none 0 0) vd j bd mn v' A wr)∧Hid (bd=true→R=.bad j)∧Hid (bd=false→R=Rf.allEnd k (Rf.tsts T t F j ((E++A).map (·.1)) ks)∧mn=(many || big A))
theorem Rf.tst_23 (T:List Rf.Tk)(t:Nat→List Nd→Rf.Out)(i:Nat)(N:List Nd)(hk:Rf.kind T i=119)(hw:Rf.tstK (Rf.text T i)=23):Rf.tst T t i N=if Rf.is T (i+1) 112 [40]=true then Rf.allStart T t 23 (t (i+2) N) else .bad (i+1):=by
 unfold Rf.tst
 rw[hk,hw]
 show(if Rf.is T (i+1) 112 [40]=true then (match t (i+2) N with | .ok i' N'=>_ | .bad j=>_) else _)=_
 split
 ·cases t (i+2) N with
  | bad j=>rfl
  | ok i' N'=>
   show(match Rf.tsts T t T.length i' N' [Rf.last N'] with | .ok i2 N2 ks=>_ | .bad j=>_)=Rf.allEnd 23 (Rf.tsts T t T.length i' N' [Rf.last N'])
   cases Rf.tsts T t T.length i' N' [Rf.last N']<;>rfl
 ·rfl
theorem specTest23 (g:Nat)(tv:Value)(l:List UInt8)(T:List Rf.Tk)(TE:List TkE)(f:Nat)(t:Nat→List Nd→Rf.Out)(hK:Tks l T TE)(hT:T.length≤30000)(hTst:RdC 132 g tv T TE 0 f t)(i:Nat)(many:Bool)(v:Value)(E:List NdE)(w:World)(h:Rs g tv TE i false many v E w)(hi:i<T.length)(hf:T.length≤i+(f+1))(hE:E.length≤3*i+5)(hk:Rf.kind T i=119)(hw:Rf.tstK (Rf.text T i)=23) :
  Calls Tryz.prog 132 #[.pointer (some ⟨g,0,none⟩)] w fun e w'=>∃ z A i' bad' many' v',e=.returned (.int .i64 z)∧RdP g tv T TE 0 (Rf.tst T t) i false many v E w z A i' bad' many' v' w':=by
 obtain⟨R,hR⟩:∃R,R=Rf.given false i (Rf.tst T t i (E.map (·.1))):=⟨_,rfl⟩
 have HR:=mkHid hR
 have H0:=mkHid (Rf.tst_23 T t i (E.map (·.1)) hk hw)
 have hgl:=heap_ltM h.blk
 have hll:=hK.length
 have hl:=hK.len
 have hi2:i<TE.length:=by omega
 have hnx:i+1<T.length:=hK.nxt i hi (by rw[hk];decide) (by rw[hk];decide)
 have hC:∀W:World,Calls Tryz.prog 159 #[.string TE[i].2.1] W fun e w'=>e=.returned (.int .i64 23)∧w'=W:=fun W=>(specTstW TE[i].2.1 W).mono fun _ _ h=>⟨by rw[h.1,hK.text i hi2,Rf.ba_list,hw],h.2.symm⟩
 have cT:∀W:World,Below w.heap.size w W→_:=fun W hb=>specTakeY g tv TE i many v E W 119 (h.below hb) hi2 (by omega) (by rw[hK.kind i hi2];exact hk)
 have hk1:((TE[i].1:Int) != 119)=false:=by rw[bne_eq_false_iff_eq,hK.kind i hi2,hk];rfl
 obtain⟨c0,c1,c2,c3,c4⟩:=five h.blk
 obtain⟨o,cap,htv⟩:=h.tks.shape
 have htk:=h.tks
 rw[htv] at htk c0
 obtain⟨q,ho,-,-,e0,e1,e2⟩:=htk.at i hi2
 subst ho
 clear htk htv
 have hii:(i:Int)<(TE.length:Int):=by omega
 generalize TE[i].1=k1 at *
 generalize TE[i].2.1=t1 at *
 replace hC:=mkHid hC
 replace cT:=mkHid cT
 have HK:=mkHid hK
 have HE:=mkHid hE
 have HTst:=mkHid hTst
 clear hTst
 clear h hk hw hR hK hE
 go_enter Tryz.func132,Tryz.ntmps132
 go_wp2
 go_quiet (exact Calls.quiet_of_same (hC.out _))
 go_wp2_with (go_at_call 94;fail)
 refine(cT.out _ (Go.below_drewN (Below.refl _ _) _)).mono ?_
 rintro e w1 ⟨rfl,h1,e1⟩
 replace h1:=mkHid h1
 replace e1:=mkHid (Ef.ahead (Go.below_drewN (Below.refl _ _) _) e1)
 go_wp2_with (go_at_call 159;fail)
 refine(hC.out _).mono ?_
 rintro e w2 ⟨rfl,rfl⟩
 obtain⟨B,hB⟩:∃B,w2.heap.size=B:=⟨_,rfl⟩
 have S0:=mkHid (Fm.start hgl h1.out e1.out 23)
 rw[hB] at S0
 obtain⟨W0,hW0⟩:∃W0,w2.alloc (.cells #[.int .i64 23,.int .i64 0,.int .i64 0,.string ⟨#[]⟩,.slice none 0 0,.slice none 0 0,.slice none 0 0] 109)=W0:=⟨_,rfl⟩
 rw[show w2.alloc (.cells (sevC (Rf.zn 23) (.slice none 0 0) (.slice none 0 0) (.slice none 0 0)) 109)=W0 from hW0] at S0
 have HW0:=mkHid hW0
 have HB:=mkHid hB
 clear h1 hC cT e0 e1 e2 c0 c1 c2 c3 c4 hii hk1 hW0 hB
 obtain⟨ks0,A0,vd0,hks0,hA0,S0⟩:∃(ks0:List Int) (A0:List NdE) (vd0:Value),Hid (ks0=[])∧Hid (A0=[])∧Hid (Fm g tv TE v E w B { Rf.zn 23 with kids:=ks0 } (.slice none 0 0) (.slice none 0 0) vd0 (i+1) false many v A0 W0):=⟨[],[],.slice none 0 0,rfl,rfl,S0⟩
 have hl0:A0.length<1:=by rw[hA0.out];decide
 have hk0:ks0.length≤5:=by rw[hks0.out];decide
 have kW:=mkHid (jWant HK.out S0.out.rs hnx 112 [40])
 go_wp2_with (go_at_call 95;fail)
 rw[HW0.out,HB.out]
 refine kW.out.mono ?_
 rintro e W1 ⟨rfl,j1,bd1,h1,e1,hj1,hij1,hij1b,r1,s1⟩
 have S1:=mkHid (S0.out.small h1 e1)
 clear h1 e1 kW S0 HW0
 go_wp2
 obtain⟨RR,hRR⟩:∃RR:Act→Act→World→Prop,RR=(fun a a' w'=>∃ (z2:Int) (X2:List NdE) (j2:Nat) (bd2 mn2:Bool) (v2 vd2:Value) (hh2:Nat) (u2:World),a'=(((((((a.put (some 60) (.pointer (some ⟨B,6,none⟩))).put (some 61) vd0).put (some 62) (.pointer (some ⟨g,0,none⟩))).put (some 63) (.int .i64 z2)).put (some 64) (.slice (some ⟨hh2,0,none⟩) 1 1)).put (some 65) vd2).put (some 66) (.pointer (some ⟨B,6,none⟩)))∧Hid (Fm g tv TE v E w B { Rf.zn 23 with kids:=ks0 ++ [z2] } (.slice none 0 0) (.slice none 0 0) vd2 j2 bd2 mn2 v2 (A0++X2) w')∧Hid (RdP g tv T TE 0 t j1 bd1 many v (E++A0) W1.drew z2 X2 j2 bd2 mn2 v2 u2)):=⟨_,rfl⟩
 have HRR:=mkHid hRR
 clear hRR
 refine wp_cut RR ?_ ?_
 ·have SD:=mkHid (S1.out.small (S1.out.rs.below (below_drew (Below.refl _ _))) (Ef.of_below (below_drew (Below.refl _ _))))
  have kC:=mkHid (HTst.out j1 bd1 many v (E++A0) W1.drew SD.out.rs hj1 (by omega) (by have:=HE.out;rw[List.length_append];omega))
  obtain⟨oD,cD,eD⟩:=own_shape S1.out.od
  subst eD
  have y0:W1.cell? ⟨B,6,none⟩=some (.slice oD ks0.length cD):=by simp[World.cell?,S1.out.blk]
  refine wp_region_any (by kernel_rfl) ?_
  refine ta 0 (.pointer (some ⟨B,6,none⟩)) (hQ:=fun _ _ _ h=>nomatch h.1) ?_ ?_
  ·intro w
   go_simp
   all_goals omega
  go_simp
  refine ta 2 (.pointer (some ⟨g,0,none⟩)) (hQ:=fun _ _ _ h=>nomatch h.1) ?_ ?_
  ·intro w
   go_simp
   all_goals omega
  go_simp
  refine wpAny_ready (rs:=[1,3]) (by kernel_rfl) (by simp) ?_
  refine AllReady.cons rfl (fun K hK=>?_) (AllReady.cons rfl (fun K hK=>?_) AllReady.nil)
  ·skip
   go_simp
   refine hK _ _ ?_
   clear hK K
   go_simp
   refine YtkcajnjledldnaaGreatDoor.r1 3 (fun K hK=>?_)
   go_simp
   refine kC.out.mono ?_
   rintro e u2 ⟨z2,X2,j2,bd2,mn2,v2,rfl,hp⟩
   have S3:=mkHid (SD.out.call hp)
   have P2:=mkHid hp
   clear hp
   have y3:u2.cell? ⟨B,6,none⟩=some (.slice oD ks0.length cD):=by simp[World.cell?,S3.out.blk]
   have y4:(u2.alloc (.cells #[.int .i64 z2] 2)).cell? ⟨B,6,none⟩=some (.slice oD ks0.length cD):=(World.cell?_of_block (((Below.refl u2.heap.size u2).alloc (Nat.le_refl _) _).block B (heap_ltM S3.out.blk))).trans y3
   go_simp
   refine hK _ _ ?_
   clear hK K
   go_simp
   refine YtkcajnjledldnaaGreatDoor.r1 4 (fun K hK=>?_)
   go_simp
   refine hK _ _ ?_
   clear hK K
   go_simp
   refine YtkcajnjledldnaaGreatDoor.r1 5 (fun K hK=>?_)
   refine opAppKd _ _ rfl w.heap.size (.slice oD ks0.length cD) ks0 rfl (S3.out.od.below ((Below.refl _ _).alloc (Nat.le_refl _) _)) z2 u2.heap.size 1 rfl (by simp) (by omega) (by have:=S3.out.ef.size;simp;omega) ?_
   intro vd2 w4 ho4 hg4 hn4
   obtain⟨x6,z6,s5⟩:=S3.out.kid ho4 hg4 hn4
   obtain⟨o5,c5,e5⟩:=own_shape ho4
   rw[List.length_append,List.length_singleton] at e5
   subst e5
   have S2:=mkHid s5
   clear s5 ho4 hg4 hn4
   refine hK _ _ ?_
   clear hK K
   go_simp
   refine ta 6 (.pointer (some ⟨B,6,none⟩)) (hQ:=fun _ _ _ h=>nomatch h.1) ?_ ?_
   ·intro w
    go_simp
    all_goals omega
   go_simp
   refine YtkcajnjledldnaaGreatDoor.r1 7 (fun K hK=>?_)
   go_simp
   refine hK _ _ ?_
   clear hK K
   go_simp
   refine wpAny_done (by kernel_rfl) ?_ _
   first|refine⟨rfl,?_⟩|skip
   rw[HRR.out]
   exact⟨z2,X2,j2,bd2,mn2,v2,.slice o5 (ks0.length+1) c5,u2.heap.size,u2,by kernel_rfl,S2,P2⟩
  ·skip
   go_simp
   refine kC.out.mono ?_
   rintro e u2 ⟨z2,X2,j2,bd2,mn2,v2,rfl,hp⟩
   have S3:=mkHid (SD.out.call hp)
   have P2:=mkHid hp
   clear hp
   have y3:u2.cell? ⟨B,6,none⟩=some (.slice oD ks0.length cD):=by simp[World.cell?,S3.out.blk]
   have y4:(u2.alloc (.cells #[.int .i64 z2] 2)).cell? ⟨B,6,none⟩=some (.slice oD ks0.length cD):=(World.cell?_of_block (((Below.refl u2.heap.size u2).alloc (Nat.le_refl _) _).block B (heap_ltM S3.out.blk))).trans y3
   go_simp
   refine hK _ _ ?_
   clear hK K
   go_simp
   refine wpAny_ready (rs:=[1,4]) (by kernel_rfl) (by simp) ?_
   refine AllReady.cons rfl (fun K hK=>?_) (AllReady.cons rfl (fun K hK=>?_) AllReady.nil)
   ·skip
    go_simp
    refine hK _ _ ?_
    clear hK K
    go_simp
    refine YtkcajnjledldnaaGreatDoor.r1 4 (fun K hK=>?_)
    go_simp
    refine hK _ _ ?_
    clear hK K
    go_simp
    refine YtkcajnjledldnaaGreatDoor.r1 5 (fun K hK=>?_)
    refine opAppKd _ _ rfl w.heap.size (.slice oD ks0.length cD) ks0 rfl (S3.out.od.below ((Below.refl _ _).alloc (Nat.le_refl _) _)) z2 u2.heap.size 1 rfl (by simp) (by omega) (by have:=S3.out.ef.size;simp;omega) ?_
    intro vd2 w4 ho4 hg4 hn4
    obtain⟨x6,z6,s5⟩:=S3.out.kid ho4 hg4 hn4
    obtain⟨o5,c5,e5⟩:=own_shape ho4
    rw[List.length_append,List.length_singleton] at e5
    subst e5
    have S2:=mkHid s5
    clear s5 ho4 hg4 hn4
    refine hK _ _ ?_
    clear hK K
    go_simp
    refine ta 6 (.pointer (some ⟨B,6,none⟩)) (hQ:=fun _ _ _ h=>nomatch h.1) ?_ ?_
    ·intro w
     go_simp
     all_goals omega
    go_simp
    refine YtkcajnjledldnaaGreatDoor.r1 7 (fun K hK=>?_)
    go_simp
    refine hK _ _ ?_
    clear hK K
    go_simp
    refine wpAny_done (by kernel_rfl) ?_ _
    first|refine⟨rfl,?_⟩|skip
    rw[HRR.out]
    exact⟨z2,X2,j2,bd2,mn2,v2,.slice o5 (ks0.length+1) c5,u2.heap.size,u2,by kernel_rfl,S2,P2⟩
   ·skip
    go_simp
    refine hK _ _ ?_
    clear hK K
    go_simp
    refine YtkcajnjledldnaaGreatDoor.r1 1 (fun K hK=>?_)
    go_simp
    refine hK _ _ ?_
    clear hK K
    go_simp
    refine YtkcajnjledldnaaGreatDoor.r1 5 (fun K hK=>?_)
    refine opAppKd _ _ rfl w.heap.size (.slice oD ks0.length cD) ks0 rfl (S3.out.od.below ((Below.refl _ _).alloc (Nat.le_refl _) _)) z2 u2.heap.size 1 rfl (by simp) (by omega) (by have:=S3.out.ef.size;simp;omega) ?_
    intro vd2 w4 ho4 hg4 hn4
    obtain⟨x6,z6,s5⟩:=S3.out.kid ho4 hg4 hn4
    obtain⟨o5,c5,e5⟩:=own_shape ho4
    rw[List.length_append,List.length_singleton] at e5
    subst e5
    have S2:=mkHid s5
    clear s5 ho4 hg4 hn4
    refine hK _ _ ?_
    clear hK K
    go_simp
    refine ta 6 (.pointer (some ⟨B,6,none⟩)) (hQ:=fun _ _ _ h=>nomatch h.1) ?_ ?_
    ·intro w
     go_simp
     all_goals omega
    go_simp
    refine YtkcajnjledldnaaGreatDoor.r1 7 (fun K hK=>?_)
    go_simp
    refine hK _ _ ?_
    clear hK K
    go_simp
    refine wpAny_done (by kernel_rfl) ?_ _
    first|refine⟨rfl,?_⟩|skip
    rw[HRR.out]
    exact⟨z2,X2,j2,bd2,mn2,v2,.slice o5 (ks0.length+1) c5,u2.heap.size,u2,by kernel_rfl,S2,P2⟩
 rw[HRR.out]
 clear HRR RR
 rintro a' W2 ⟨z2,X2,j2,bd2,mn2,v2,vd2,hh2,u2,rfl,S2,P2⟩
 obtain⟨ks2,hks2⟩:∃x,ks0 ++ [z2]=x:=⟨_,rfl⟩
 obtain⟨A2,hA2⟩:∃x,A0++X2=x:=⟨_,rfl⟩
 rw[hks2,hA2] at S2
 have q2:=mkHid P2.out.res
 have hlt2:=P2.out.lt
 have hle2:=P2.out.le
 have hcn2:=P2.out.cnt
 have hc02:=mkHid P2.out.cnt0
 have hl2:A2.length=A0.length+X2.length:=by rw[← hA2,List.length_append]
 replace hks2:=mkHid hks2
 replace hA2:=mkHid hA2
 clear P2 S1
 have hk2:ks2.length≤j2:=by rw[← hks2.out,List.length_append,List.length_singleton,hks0.out];simp;omega
 have S3:Hid (TstInv 23 g tv T TE v E w B i many R t W2):=by
  refine⟨j2,bd2,mn2,v2,vd2,A2,ks2,T.length,hlt2,by omega,by omega,hk2,by omega,S2,?_,?_⟩
  all_goals
   have q:=q2.out
   have hA:=hA2.out
   have hk:=hks2.out
   have hr:=r1.out
   have hs:=s1.out
   have hh:=H0.out
   rw[hA0.out] at q hA
   rw[hks0.out] at hk
   rw[List.append_nil] at q
   rw[List.nil_append] at hA hk
   rw[hA] at q
   intro e
  ·have q:=q.1 e
   rw[HR.out,Rf.given,if_neg (by decide),hh]
   cases hb1:bd1
   ·rw[hb1] at hr hs q
    have hy:Rf.is T (i+1) 112 [40]=true:=by simpa using hr.symm
    simp only[Bool.false_eq_true,if_false] at hs
    subst hs
    rw[Rf.given,if_neg (by decide)] at q
    rw[if_pos hy,show t (i+2) (E.map (·.1))=.bad j2 from q]
    rfl
   ·rw[hb1] at hr hs q
    have hy:Rf.is T (i+1) 112 [40]=false:=by simpa using hr.symm
    simp only[if_true] at hs
    subst hs
    rw[Rf.given,if_pos rfl] at q
    rw[if_neg (Bool.eq_false_iff.1 hy)]
    exact q
  ·obtain⟨hb1,p1,p2,p3⟩:=q.2 e
   rw[hb1] at hr hs
   have hy:Rf.is T (i+1) 112 [40]=true:=by simpa using hr.symm
   simp only[Bool.false_eq_true,if_false] at hs
   subst hs
   refine⟨?_,p3⟩
   rw[HR.out,Rf.given,if_neg (by decide),hh,if_pos hy,show t (i+2) (E.map (·.1))=_ from p1,← hk,p2]
   rfl
 clear S2 q2 hks2 hA2 r1 s1 hks0 hA0
 go_wp2
 go_simp
 go_loopw [] (fun wr=>TstInv 23 g tv T TE v E w B i many R t wr) (fun wr=>tstM T g wr)
 case atStart=>exact S3.out
 case round=>
  clear S3
  obtain⟨j,bd,mn,v',vd,A,ks,F,hj,hij,hF,hks,hcn,S,R1,R2⟩:=hrel
  have cJ:=mkHid (five S.out.rs.blk).2.1
  obtain⟨F,rfl⟩:∃F',F=F'+1:=⟨F-1,by omega⟩
  have kM:=mkHid (jMay HK.out S.out.rs hj 112 [44])
  go_wp2_with (go_at_call 89;fail)
  refine kM.out.mono ?_
  rintro e W ⟨jm,ym,rfl,hm,em,hjm,hijm,hijmb,rm,sm⟩
  have S1:=mkHid (S.out.small hm em)
  clear hm em kM S
  cases ym
  case true=>
   obtain⟨rfl,hcm⟩:bd=false∧Rf.is T j 112 [44]=true:=by
    have hx:=rm.out
    cases bd with
    | false=>exact⟨rfl,hx.symm⟩
    | true=>cases hx
   obtain rfl:jm=j+1:=sm.out
   obtain⟨hRb,hmn⟩:=R2.out rfl
   replace hRb:=mkHid hRb
   replace hmn:=mkHid hmn
   clear R1 R2 rm sm
   go_wp2
   obtain⟨RR,hRR⟩:∃RR:Act→Act→World→Prop,RR=(fun a a' w'=>∃ (z5:Int) (X5:List NdE) (j5:Nat) (bd5 mn5:Bool) (v5 vd5:Value) (hh5:Nat) (u5:World),a'=(((((((a.put (some 69) (.pointer (some ⟨B,6,none⟩))).put (some 70) vd).put (some 71) (.pointer (some ⟨g,0,none⟩))).put (some 72) (.int .i64 z5)).put (some 73) (.slice (some ⟨hh5,0,none⟩) 1 1)).put (some 74) vd5).put (some 75) (.pointer (some ⟨B,6,none⟩)))∧Hid (Fm g tv TE v E w B { Rf.zn 23 with kids:=ks ++ [z5] } (.slice none 0 0) (.slice none 0 0) vd5 j5 bd5 mn5 v5 (A++X5) w')∧Hid (RdP g tv T TE 0 t (j+1) false mn v' (E++A) W.drew z5 X5 j5 bd5 mn5 v5 u5)):=⟨_,rfl⟩
   have HRR:=mkHid hRR
   clear hRR
   refine wp_cut RR ?_ ?_
   ·have SD:=mkHid (S1.out.small (S1.out.rs.below (below_drew (Below.refl _ _))) (Ef.of_below (below_drew (Below.refl _ _))))
    have kC:=mkHid (HTst.out (j+1) false mn v' (E++A) W.drew SD.out.rs hjm (by omega) (by have:=HE.out;rw[List.length_append];omega))
    obtain⟨oD,cD,eD⟩:=own_shape S1.out.od
    subst eD
    have y0:W.cell? ⟨B,6,none⟩=some (.slice oD ks.length cD):=by simp[World.cell?,S1.out.blk]
    refine wp_region_any (by kernel_rfl) ?_
    refine ta 0 (.pointer (some ⟨B,6,none⟩)) (hQ:=fun _ _ _ h=>nomatch h.1) ?_ ?_
    ·intro w
     go_simp
     all_goals omega
    go_simp
    refine ta 2 (.pointer (some ⟨g,0,none⟩)) (hQ:=fun _ _ _ h=>nomatch h.1) ?_ ?_
    ·intro w
     go_simp
     all_goals omega
    go_simp
    refine wpAny_ready (rs:=[1,3]) (by kernel_rfl) (by simp) ?_
    refine AllReady.cons rfl (fun K hK=>?_) (AllReady.cons rfl (fun K hK=>?_) AllReady.nil)
    ·skip
     go_simp
     refine hK _ _ ?_
     clear hK K
     go_simp
     refine YtkcajnjledldnaaGreatDoor.r1 3 (fun K hK=>?_)
     go_simp
     refine kC.out.mono ?_
     rintro e u5 ⟨z5,X5,j5,bd5,mn5,v5,rfl,hp⟩
     have S3:=mkHid (SD.out.call hp)
     have P5:=mkHid hp
     clear hp
     have y3:u5.cell? ⟨B,6,none⟩=some (.slice oD ks.length cD):=by simp[World.cell?,S3.out.blk]
     have y4:(u5.alloc (.cells #[.int .i64 z5] 2)).cell? ⟨B,6,none⟩=some (.slice oD ks.length cD):=(World.cell?_of_block (((Below.refl u5.heap.size u5).alloc (Nat.le_refl _) _).block B (heap_ltM S3.out.blk))).trans y3
     go_simp
     refine hK _ _ ?_
     clear hK K
     go_simp
     refine YtkcajnjledldnaaGreatDoor.r1 4 (fun K hK=>?_)
     go_simp
     refine hK _ _ ?_
     clear hK K
     go_simp
     refine YtkcajnjledldnaaGreatDoor.r1 5 (fun K hK=>?_)
     refine opAppKd _ _ rfl w.heap.size (.slice oD ks.length cD) ks rfl (S3.out.od.below ((Below.refl _ _).alloc (Nat.le_refl _) _)) z5 u5.heap.size 1 rfl (by simp) (by omega) (by have:=S3.out.ef.size;simp;omega) ?_
     intro vd5 w4 ho4 hg4 hn4
     obtain⟨x6,z6,s5⟩:=S3.out.kid ho4 hg4 hn4
     obtain⟨o5,c5,e5⟩:=own_shape ho4
     rw[List.length_append,List.length_singleton] at e5
     subst e5
     have S5:=mkHid s5
     clear s5 ho4 hg4 hn4
     refine hK _ _ ?_
     clear hK K
     go_simp
     refine ta 6 (.pointer (some ⟨B,6,none⟩)) (hQ:=fun _ _ _ h=>nomatch h.1) ?_ ?_
     ·intro w
      go_simp
      all_goals omega
     go_simp
     refine YtkcajnjledldnaaGreatDoor.r1 7 (fun K hK=>?_)
     go_simp
     refine hK _ _ ?_
     clear hK K
     go_simp
     refine wpAny_done (by kernel_rfl) ?_ _
     first|refine⟨rfl,?_⟩|skip
     rw[HRR.out]
     exact⟨z5,X5,j5,bd5,mn5,v5,.slice o5 (ks.length+1) c5,u5.heap.size,u5,by kernel_rfl,S5,P5⟩
    ·skip
     go_simp
     refine kC.out.mono ?_
     rintro e u5 ⟨z5,X5,j5,bd5,mn5,v5,rfl,hp⟩
     have S3:=mkHid (SD.out.call hp)
     have P5:=mkHid hp
     clear hp
     have y3:u5.cell? ⟨B,6,none⟩=some (.slice oD ks.length cD):=by simp[World.cell?,S3.out.blk]
     have y4:(u5.alloc (.cells #[.int .i64 z5] 2)).cell? ⟨B,6,none⟩=some (.slice oD ks.length cD):=(World.cell?_of_block (((Below.refl u5.heap.size u5).alloc (Nat.le_refl _) _).block B (heap_ltM S3.out.blk))).trans y3
     go_simp
     refine hK _ _ ?_
     clear hK K
     go_simp
     refine wpAny_ready (rs:=[1,4]) (by kernel_rfl) (by simp) ?_
     refine AllReady.cons rfl (fun K hK=>?_) (AllReady.cons rfl (fun K hK=>?_) AllReady.nil)
     ·skip
      go_simp
      refine hK _ _ ?_
      clear hK K
      go_simp
      refine YtkcajnjledldnaaGreatDoor.r1 4 (fun K hK=>?_)
      go_simp
      refine hK _ _ ?_
      clear hK K
      go_simp
      refine YtkcajnjledldnaaGreatDoor.r1 5 (fun K hK=>?_)
      refine opAppKd _ _ rfl w.heap.size (.slice oD ks.length cD) ks rfl (S3.out.od.below ((Below.refl _ _).alloc (Nat.le_refl _) _)) z5 u5.heap.size 1 rfl (by simp) (by omega) (by have:=S3.out.ef.size;simp;omega) ?_
      intro vd5 w4 ho4 hg4 hn4
      obtain⟨x6,z6,s5⟩:=S3.out.kid ho4 hg4 hn4
      obtain⟨o5,c5,e5⟩:=own_shape ho4
      rw[List.length_append,List.length_singleton] at e5
      subst e5
      have S5:=mkHid s5
      clear s5 ho4 hg4 hn4
      refine hK _ _ ?_
      clear hK K
      go_simp
      refine ta 6 (.pointer (some ⟨B,6,none⟩)) (hQ:=fun _ _ _ h=>nomatch h.1) ?_ ?_
      ·intro w
       go_simp
       all_goals omega
      go_simp
      refine YtkcajnjledldnaaGreatDoor.r1 7 (fun K hK=>?_)
      go_simp
      refine hK _ _ ?_
      clear hK K
      go_simp
      refine wpAny_done (by kernel_rfl) ?_ _
      first|refine⟨rfl,?_⟩|skip
      rw[HRR.out]
      exact⟨z5,X5,j5,bd5,mn5,v5,.slice o5 (ks.length+1) c5,u5.heap.size,u5,by kernel_rfl,S5,P5⟩
     ·skip
      go_simp
      refine hK _ _ ?_
      clear hK K
      go_simp
      refine YtkcajnjledldnaaGreatDoor.r1 1 (fun K hK=>?_)
      go_simp
      refine hK _ _ ?_
      clear hK K
      go_simp
      refine YtkcajnjledldnaaGreatDoor.r1 5 (fun K hK=>?_)
      refine opAppKd _ _ rfl w.heap.size (.slice oD ks.length cD) ks rfl (S3.out.od.below ((Below.refl _ _).alloc (Nat.le_refl _) _)) z5 u5.heap.size 1 rfl (by simp) (by omega) (by have:=S3.out.ef.size;simp;omega) ?_
      intro vd5 w4 ho4 hg4 hn4
      obtain⟨x6,z6,s5⟩:=S3.out.kid ho4 hg4 hn4
      obtain⟨o5,c5,e5⟩:=own_shape ho4
      rw[List.length_append,List.length_singleton] at e5
      subst e5
      have S5:=mkHid s5
      clear s5 ho4 hg4 hn4
      refine hK _ _ ?_
      clear hK K
      go_simp
      refine ta 6 (.pointer (some ⟨B,6,none⟩)) (hQ:=fun _ _ _ h=>nomatch h.1) ?_ ?_
      ·intro w
       go_simp
       all_goals omega
      go_simp
      refine YtkcajnjledldnaaGreatDoor.r1 7 (fun K hK=>?_)
      go_simp
      refine hK _ _ ?_
      clear hK K
      go_simp
      refine wpAny_done (by kernel_rfl) ?_ _
      first|refine⟨rfl,?_⟩|skip
      rw[HRR.out]
      exact⟨z5,X5,j5,bd5,mn5,v5,.slice o5 (ks.length+1) c5,u5.heap.size,u5,by kernel_rfl,S5,P5⟩
   rw[HRR.out]
   clear HRR RR
   rintro a' W5 ⟨z5,X5,j5,bd5,mn5,v5,vd5,hh5,u5,rfl,S5,P5⟩
   obtain⟨ks5,hks5⟩:∃x,ks ++ [z5]=x:=⟨_,rfl⟩
   obtain⟨A5,hA5⟩:∃x,A++X5=x:=⟨_,rfl⟩
   rw[hks5,hA5] at S5
   have q5:=mkHid P5.out.res
   have hlt5:=P5.out.lt
   have hle5:=P5.out.le
   have hcn5:=P5.out.cnt
   have hc05:=mkHid P5.out.cnt0
   have hl5:A5.length=A.length+X5.length:=by rw[← hA5,List.length_append]
   replace hks5:=mkHid hks5
   replace hA5:=mkHid hA5
   clear P5 S1
   have hk5:ks5.length≤j5:=by rw[← hks5.out,List.length_append,List.length_singleton];omega
   have cN:=mkHid (five S5.out.rs.blk).2.1
   have HI:Hid (TstInv 23 g tv T TE v E w B i many R t W5):=by
    refine⟨j5,bd5,mn5,v5,vd5,A5,ks5,F,hlt5,by omega,by omega,hk5,by omega,S5,?_,?_⟩
    all_goals
     have q:=q5.out
     intro e
    ·have q:=q.1 e
     rw[Rf.given,if_neg (by decide)] at q
     rw[hRb.out,Rf.tsts,if_pos hcm,q]
     rfl
    ·obtain⟨-,p1,p2,p3⟩:=q.2 e
     refine⟨?_,?_⟩
     ·rw[hRb.out,Rf.tsts,if_pos hcm,p1,← hA5.out,← hks5.out,← List.append_assoc,p2]
     ·rw[p3,hmn.out,← hA5.out,big_app,Bool.or_assoc]
   have HM:Hid (tstM T g W5<tstM T g wr):=by
    show _<_
    unfold tstM
    rw[cJ.out,cN.out]
    simp[Lib.intOf]
    omega
   clear S5 q5 hks5 hA5 hRb hmn cN cJ
   go_wp2
   go_roundw
   case rel=>first|exact HI.out|exact⟨_, HI.out,rfl⟩|exact⟨_,_, HI.out,rfl⟩|exact⟨_,_,_, HI.out,rfl⟩|exact⟨_,_,_,_, HI.out,rfl⟩|exact⟨_,_,_,_,_, HI.out,rfl⟩|exact⟨_,_,_,_,_,_, HI.out,rfl⟩|exact⟨_,_,_,_,_,_,_, HI.out,rfl⟩|exact⟨_,_,_,_,_,_,_,_, HI.out,rfl⟩|exact⟨_,_,_,_,_,_,_,_,_, HI.out,rfl⟩|exact⟨_,_,_,_,_,_,_,_,_,_, HI.out,rfl⟩|exact⟨_,_,_,_,_,_,_,_,_,_,_, HI.out,rfl⟩|exact⟨_,_,_,_,_,_,_,_,_,_,_,_, HI.out,rfl⟩|exact⟨_,_,_,_,_,_,_,_,_,_,_,_,_, HI.out,rfl⟩|exact⟨_,_,_,_,_,_,_,_,_,_,_,_,_,_, HI.out,rfl⟩|exact⟨_,_,_,_,_,_,_,_,_,_,_,_,_,_,_, HI.out,rfl⟩|exact⟨_,_,_,_,_,_,_,_,_,_,_,_,_,_,_,_, HI.out,rfl⟩|exact⟨_,_,_,_,_,_,_,_,_,_,_,_,_,_,_,_,_, HI.out,rfl⟩|exact⟨_,_,_,_,_,_,_,_,_,_,_,_,_,_,_,_,_,_, HI.out,rfl⟩|exact⟨_,_,_,_,_,_,_,_,_,_,_,_,_,_,_,_,_,_,_, HI.out,rfl⟩|exact⟨_,_,_,_,_,_,_,_,_,_,_,_,_,_,_,_,_,_,_,_, HI.out,rfl⟩|exact⟨_,_,_,_,_,_,_,_,_,_,_,_,_,_,_,_,_,_,_,_,_, HI.out,rfl⟩|exact⟨_,_,_,_,_,_,_,_,_,_,_,_,_,_,_,_,_,_,_,_,_,_, HI.out,rfl⟩|exact⟨_,_,_,_,_,_,_,_,_,_,_,_,_,_,_,_,_,_,_,_,_,_,_, HI.out,rfl⟩|exact⟨_,_,_,_,_,_,_,_,_,_,_,_,_,_,_,_,_,_,_,_,_,_,_,_, HI.out,rfl⟩|exact⟨_,_,_,_,_,_,_,_,_,_,_,_,_,_,_,_,_,_,_,_,_,_,_,_,_, HI.out,rfl⟩
   case measure=>exact HM.out
  case false=>
   obtain rfl:jm=j:=sm.out
   have kW:=mkHid (jWant HK.out S1.out.rs hjm 112 [41])
   go_wp2_with (go_at_call 95;fail)
   refine kW.out.mono ?_
   rintro e W6 ⟨rfl,j6,bd6,h6,e6,hj6,hij6,hij6b,r6,s6⟩
   have S6:=mkHid (S1.out.small h6 e6)
   clear h6 e6 kW S1
   have G1:Hid ((bd6=true→R=.bad j6)∧(bd6=false→R=.ok j6 ((E++A).map (·.1) ++ [{ Rf.zn 23 with kids:=ks }])∧mn=(many || big A))):=by
    have r6:=r6.out
    have s6:=s6.out
    have rm:=rm.out
    cases bd
    ·have hcm:Rf.is T jm 112 [44]=false:=by simpa using rm.symm
     obtain⟨hRb,hmn⟩:=R2.out rfl
     rw[hRb,Rf.tsts,if_neg (Bool.eq_false_iff.1 hcm)]
     cases hy:Rf.is T jm 112 [41]
     ·rw[hy] at r6
      obtain rfl:bd6=true:=r6
      obtain rfl:j6=jm:=s6
      exact⟨fun _=>rfl,fun e=>(by cases e)⟩
     ·rw[hy] at r6
      obtain rfl:bd6=false:=r6
      obtain rfl:j6=jm+1:=s6
      exact⟨fun e=>(by cases e),fun _=>⟨rfl,hmn⟩⟩
    ·obtain rfl:bd6=true:=r6
     obtain rfl:j6=jm:=s6
     exact⟨fun _=>R1.out rfl,fun e=>(by cases e)⟩
   clear r6 s6 rm sm R1 R2 cJ
   obtain⟨oD,cD,eD⟩:=own_shape S6.out.od
   subst eD
   have hbk:=S6.out.blk
   have d0:W6.cell? ⟨B,0,none⟩=some (.int .i64 23):=by simp[World.cell?,hbk];try rfl
   have d1:W6.cell? ⟨B,1,none⟩=some (.int .i64 0):=by simp[World.cell?,hbk];try rfl
   have d2:W6.cell? ⟨B,2,none⟩=some (.int .i64 0):=by simp[World.cell?,hbk];try rfl
   have d3:W6.cell? ⟨B,3,none⟩=some (.string ⟨#[]⟩):=by simp[World.cell?,hbk];try rfl
   have d4:W6.cell? ⟨B,4,none⟩=some (.slice none 0 0):=by simp[World.cell?,hbk];try rfl
   have d5:W6.cell? ⟨B,5,none⟩=some (.slice none 0 0):=by simp[World.cell?,hbk];try rfl
   have d6:W6.cell? ⟨B,6,none⟩=some (.slice oD ks.length cD):=by simp[World.cell?,hbk];try rfl
   clear hbk
   have kP:=mkHid (S6.out.put (by have:=HE.out;first|omega|(simp;omega)))
   clear S6
   go_wp2_with (go_at_call 50;fail)
   refine kP.out.mono ?_
   rintro e w9 ⟨rfl,v9,h9,e9,n9,f9,g9⟩
   clear d0 d1 d2 d3 d4 d5 d6 kP
   go_wp2
   go_ret
   exact⟨_,_,j6,bd6,mn,v9,rfl,RdP.mk2 R HR.out h9 e9 n9 f9 g9 hj6 (by omega) (by simp;omega) (fun e=>⟨by simp;omega,by omega⟩) G1.out.1 (fun e=>⟨by rw[(G1.out.2 e).1];simp,by simp[Rf.last];try omega,by rw[(G1.out.2 e).2,big_app];simp[big,Rf.zn]⟩)⟩
theorem Rf.tst_24 (T:List Rf.Tk)(t:Nat→List Nd→Rf.Out)(i:Nat)(N:List Nd)(hk:Rf.kind T i=119)(hw:Rf.tstK (Rf.text T i)=24):Rf.tst T t i N=if Rf.is T (i+1) 112 [40]=true then Rf.allStart T t 24 (t (i+2) N) else .bad (i+1):=by
 unfold Rf.tst
 rw[hk,hw]
 show(if Rf.is T (i+1) 112 [40]=true then (match t (i+2) N with | .ok i' N'=>_ | .bad j=>_) else _)=_
 split
 ·cases t (i+2) N with
  | bad j=>rfl
  | ok i' N'=>
   show(match Rf.tsts T t T.length i' N' [Rf.last N'] with | .ok i2 N2 ks=>_ | .bad j=>_)=Rf.allEnd 24 (Rf.tsts T t T.length i' N' [Rf.last N'])
   cases Rf.tsts T t T.length i' N' [Rf.last N']<;>rfl
 ·rfl
theorem specTest24 (g:Nat)(tv:Value)(l:List UInt8)(T:List Rf.Tk)(TE:List TkE)(f:Nat)(t:Nat→List Nd→Rf.Out)(hK:Tks l T TE)(hT:T.length≤30000)(hTst:RdC 132 g tv T TE 0 f t)(i:Nat)(many:Bool)(v:Value)(E:List NdE)(w:World)(h:Rs g tv TE i false many v E w)(hi:i<T.length)(hf:T.length≤i+(f+1))(hE:E.length≤3*i+5)(hk:Rf.kind T i=119)(hw:Rf.tstK (Rf.text T i)=24) :
  Calls Tryz.prog 132 #[.pointer (some ⟨g,0,none⟩)] w fun e w'=>∃ z A i' bad' many' v',e=.returned (.int .i64 z)∧RdP g tv T TE 0 (Rf.tst T t) i false many v E w z A i' bad' many' v' w':=by
 obtain⟨R,hR⟩:∃R,R=Rf.given false i (Rf.tst T t i (E.map (·.1))):=⟨_,rfl⟩
 have HR:=mkHid hR
 have H0:=mkHid (Rf.tst_24 T t i (E.map (·.1)) hk hw)
 have hgl:=heap_ltM h.blk
 have hll:=hK.length
 have hl:=hK.len
 have hi2:i<TE.length:=by omega
 have hnx:i+1<T.length:=hK.nxt i hi (by rw[hk];decide) (by rw[hk];decide)
 have hC:∀W:World,Calls Tryz.prog 159 #[.string TE[i].2.1] W fun e w'=>e=.returned (.int .i64 24)∧w'=W:=fun W=>(specTstW TE[i].2.1 W).mono fun _ _ h=>⟨by rw[h.1,hK.text i hi2,Rf.ba_list,hw],h.2.symm⟩
 have cT:∀W:World,Below w.heap.size w W→_:=fun W hb=>specTakeY g tv TE i many v E W 119 (h.below hb) hi2 (by omega) (by rw[hK.kind i hi2];exact hk)
 have hk1:((TE[i].1:Int) != 119)=false:=by rw[bne_eq_false_iff_eq,hK.kind i hi2,hk];rfl
 obtain⟨c0,c1,c2,c3,c4⟩:=five h.blk
 obtain⟨o,cap,htv⟩:=h.tks.shape
 have htk:=h.tks
 rw[htv] at htk c0
 obtain⟨q,ho,-,-,e0,e1,e2⟩:=htk.at i hi2
 subst ho
 clear htk htv
 have hii:(i:Int)<(TE.length:Int):=by omega
 generalize TE[i].1=k1 at *
 generalize TE[i].2.1=t1 at *
 replace hC:=mkHid hC
 replace cT:=mkHid cT
 have HK:=mkHid hK
 have HE:=mkHid hE
 have HTst:=mkHid hTst
 clear hTst
 clear h hk hw hR hK hE
 go_enter Tryz.func132,Tryz.ntmps132
 go_wp2
 go_quiet (exact Calls.quiet_of_same (hC.out _))
 go_wp2_with (go_at_call 94;fail)
 refine(cT.out _ (Go.below_drewN (Below.refl _ _) _)).mono ?_
 rintro e w1 ⟨rfl,h1,e1⟩
 replace h1:=mkHid h1
 replace e1:=mkHid (Ef.ahead (Go.below_drewN (Below.refl _ _) _) e1)
 go_wp2_with (go_at_call 159;fail)
 refine(hC.out _).mono ?_
 rintro e w2 ⟨rfl,rfl⟩
 obtain⟨B,hB⟩:∃B,w2.heap.size=B:=⟨_,rfl⟩
 have S0:=mkHid (Fm.start hgl h1.out e1.out 24)
 rw[hB] at S0
 obtain⟨W0,hW0⟩:∃W0,w2.alloc (.cells #[.int .i64 24,.int .i64 0,.int .i64 0,.string ⟨#[]⟩,.slice none 0 0,.slice none 0 0,.slice none 0 0] 109)=W0:=⟨_,rfl⟩
 rw[show w2.alloc (.cells (sevC (Rf.zn 24) (.slice none 0 0) (.slice none 0 0) (.slice none 0 0)) 109)=W0 from hW0] at S0
 have HW0:=mkHid hW0
 have HB:=mkHid hB
 clear h1 hC cT e0 e1 e2 c0 c1 c2 c3 c4 hii hk1 hW0 hB
 obtain⟨ks0,A0,vd0,hks0,hA0,S0⟩:∃(ks0:List Int) (A0:List NdE) (vd0:Value),Hid (ks0=[])∧Hid (A0=[])∧Hid (Fm g tv TE v E w B { Rf.zn 24 with kids:=ks0 } (.slice none 0 0) (.slice none 0 0) vd0 (i+1) false many v A0 W0):=⟨[],[],.slice none 0 0,rfl,rfl,S0⟩
 have hl0:A0.length<1:=by rw[hA0.out];decide
 have hk0:ks0.length≤5:=by rw[hks0.out];decide
 have kW:=mkHid (jWant HK.out S0.out.rs hnx 112 [40])
 go_wp2_with (go_at_call 95;fail)
 rw[HW0.out,HB.out]
 refine kW.out.mono ?_
 rintro e W1 ⟨rfl,j1,bd1,h1,e1,hj1,hij1,hij1b,r1,s1⟩
 have S1:=mkHid (S0.out.small h1 e1)
 clear h1 e1 kW S0 HW0
 go_wp2
 obtain⟨RR,hRR⟩:∃RR:Act→Act→World→Prop,RR=(fun a a' w'=>∃ (z2:Int) (X2:List NdE) (j2:Nat) (bd2 mn2:Bool) (v2 vd2:Value) (hh2:Nat) (u2:World),a'=(((((((a.put (some 60) (.pointer (some ⟨B,6,none⟩))).put (some 61) vd0).put (some 62) (.pointer (some ⟨g,0,none⟩))).put (some 63) (.int .i64 z2)).put (some 64) (.slice (some ⟨hh2,0,none⟩) 1 1)).put (some 65) vd2).put (some 66) (.pointer (some ⟨B,6,none⟩)))∧Hid (Fm g tv TE v E w B { Rf.zn 24 with kids:=ks0 ++ [z2] } (.slice none 0 0) (.slice none 0 0) vd2 j2 bd2 mn2 v2 (A0++X2) w')∧Hid (RdP g tv T TE 0 t j1 bd1 many v (E++A0) W1.drew z2 X2 j2 bd2 mn2 v2 u2)):=⟨_,rfl⟩
 have HRR:=mkHid hRR
 clear hRR
 refine wp_cut RR ?_ ?_
 ·have SD:=mkHid (S1.out.small (S1.out.rs.below (below_drew (Below.refl _ _))) (Ef.of_below (below_drew (Below.refl _ _))))
  have kC:=mkHid (HTst.out j1 bd1 many v (E++A0) W1.drew SD.out.rs hj1 (by omega) (by have:=HE.out;rw[List.length_append];omega))
  obtain⟨oD,cD,eD⟩:=own_shape S1.out.od
  subst eD
  have y0:W1.cell? ⟨B,6,none⟩=some (.slice oD ks0.length cD):=by simp[World.cell?,S1.out.blk]
  refine wp_region_any (by kernel_rfl) ?_
  refine ta 0 (.pointer (some ⟨B,6,none⟩)) (hQ:=fun _ _ _ h=>nomatch h.1) ?_ ?_
  ·intro w
   go_simp
   all_goals omega
  go_simp
  refine ta 2 (.pointer (some ⟨g,0,none⟩)) (hQ:=fun _ _ _ h=>nomatch h.1) ?_ ?_
  ·intro w
   go_simp
   all_goals omega
  go_simp
  refine wpAny_ready (rs:=[1,3]) (by kernel_rfl) (by simp) ?_
  refine AllReady.cons rfl (fun K hK=>?_) (AllReady.cons rfl (fun K hK=>?_) AllReady.nil)
  ·skip
   go_simp
   refine hK _ _ ?_
   clear hK K
   go_simp
   refine YtkcajnjledldnaaGreatDoor.r1 3 (fun K hK=>?_)
   go_simp
   refine kC.out.mono ?_
   rintro e u2 ⟨z2,X2,j2,bd2,mn2,v2,rfl,hp⟩
   have S3:=mkHid (SD.out.call hp)
   have P2:=mkHid hp
   clear hp
   have y3:u2.cell? ⟨B,6,none⟩=some (.slice oD ks0.length cD):=by simp[World.cell?,S3.out.blk]
   have y4:(u2.alloc (.cells #[.int .i64 z2] 2)).cell? ⟨B,6,none⟩=some (.slice oD ks0.length cD):=(World.cell?_of_block (((Below.refl u2.heap.size u2).alloc (Nat.le_refl _) _).block B (heap_ltM S3.out.blk))).trans y3
   go_simp
   refine hK _ _ ?_
   clear hK K
   go_simp
   refine YtkcajnjledldnaaGreatDoor.r1 4 (fun K hK=>?_)
   go_simp
   refine hK _ _ ?_
   clear hK K
   go_simp
   refine YtkcajnjledldnaaGreatDoor.r1 5 (fun K hK=>?_)
   refine opAppKd _ _ rfl w.heap.size (.slice oD ks0.length cD) ks0 rfl (S3.out.od.below ((Below.refl _ _).alloc (Nat.le_refl _) _)) z2 u2.heap.size 1 rfl (by simp) (by omega) (by have:=S3.out.ef.size;simp;omega) ?_
   intro vd2 w4 ho4 hg4 hn4
   obtain⟨x6,z6,s5⟩:=S3.out.kid ho4 hg4 hn4
   obtain⟨o5,c5,e5⟩:=own_shape ho4
   rw[List.length_append,List.length_singleton] at e5
   subst e5
   have S2:=mkHid s5
   clear s5 ho4 hg4 hn4
   refine hK _ _ ?_
   clear hK K
   go_simp
   refine ta 6 (.pointer (some ⟨B,6,none⟩)) (hQ:=fun _ _ _ h=>nomatch h.1) ?_ ?_
   ·intro w
    go_simp
    all_goals omega
   go_simp
   refine YtkcajnjledldnaaGreatDoor.r1 7 (fun K hK=>?_)
   go_simp
   refine hK _ _ ?_
   clear hK K
   go_simp
   refine wpAny_done (by kernel_rfl) ?_ _
   first|refine⟨rfl,?_⟩|skip
   rw[HRR.out]
   exact⟨z2,X2,j2,bd2,mn2,v2,.slice o5 (ks0.length+1) c5,u2.heap.size,u2,by kernel_rfl,S2,P2⟩
  ·skip
   go_simp
   refine kC.out.mono ?_
   rintro e u2 ⟨z2,X2,j2,bd2,mn2,v2,rfl,hp⟩
   have S3:=mkHid (SD.out.call hp)
   have P2:=mkHid hp
   clear hp
   have y3:u2.cell? ⟨B,6,none⟩=some (.slice oD ks0.length cD):=by simp[World.cell?,S3.out.blk]
   have y4:(u2.alloc (.cells #[.int .i64 z2] 2)).cell? ⟨B,6,none⟩=some (.slice oD ks0.length cD):=(World.cell?_of_block (((Below.refl u2.heap.size u2).alloc (Nat.le_refl _) _).block B (heap_ltM S3.out.blk))).trans y3
   go_simp
   refine hK _ _ ?_
   clear hK K
   go_simp
   refine wpAny_ready (rs:=[1,4]) (by kernel_rfl) (by simp) ?_
   refine AllReady.cons rfl (fun K hK=>?_) (AllReady.cons rfl (fun K hK=>?_) AllReady.nil)
   ·skip
    go_simp
    refine hK _ _ ?_
    clear hK K
    go_simp
    refine YtkcajnjledldnaaGreatDoor.r1 4 (fun K hK=>?_)
    go_simp
    refine hK _ _ ?_
    clear hK K
    go_simp
    refine YtkcajnjledldnaaGreatDoor.r1 5 (fun K hK=>?_)
    refine opAppKd _ _ rfl w.heap.size (.slice oD ks0.length cD) ks0 rfl (S3.out.od.below ((Below.refl _ _).alloc (Nat.le_refl _) _)) z2 u2.heap.size 1 rfl (by simp) (by omega) (by have:=S3.out.ef.size;simp;omega) ?_
    intro vd2 w4 ho4 hg4 hn4
    obtain⟨x6,z6,s5⟩:=S3.out.kid ho4 hg4 hn4
    obtain⟨o5,c5,e5⟩:=own_shape ho4
    rw[List.length_append,List.length_singleton] at e5
    subst e5
    have S2:=mkHid s5
    clear s5 ho4 hg4 hn4
    refine hK _ _ ?_
    clear hK K
    go_simp
    refine ta 6 (.pointer (some ⟨B,6,none⟩)) (hQ:=fun _ _ _ h=>nomatch h.1) ?_ ?_
    ·intro w
     go_simp
     all_goals omega
    go_simp
    refine YtkcajnjledldnaaGreatDoor.r1 7 (fun K hK=>?_)
    go_simp
    refine hK _ _ ?_
    clear hK K
    go_simp
    refine wpAny_done (by kernel_rfl) ?_ _
    first|refine⟨rfl,?_⟩|skip
    rw[HRR.out]
    exact⟨z2,X2,j2,bd2,mn2,v2,.slice o5 (ks0.length+1) c5,u2.heap.size,u2,by kernel_rfl,S2,P2⟩
   ·skip
    go_simp
    refine hK _ _ ?_
    clear hK K
    go_simp
    refine YtkcajnjledldnaaGreatDoor.r1 1 (fun K hK=>?_)
    go_simp
    refine hK _ _ ?_
    clear hK K
    go_simp
    refine YtkcajnjledldnaaGreatDoor.r1 5 (fun K hK=>?_)
    refine opAppKd _ _ rfl w.heap.size (.slice oD ks0.length cD) ks0 rfl (S3.out.od.below ((Below.refl _ _).alloc (Nat.le_refl _) _)) z2 u2.heap.size 1 rfl (by simp) (by omega) (by have:=S3.out.ef.size;simp;omega) ?_
    intro vd2 w4 ho4 hg4 hn4
    obtain⟨x6,z6,s5⟩:=S3.out.kid ho4 hg4 hn4
    obtain⟨o5,c5,e5⟩:=own_shape ho4
    rw[List.length_append,List.length_singleton] at e5
    subst e5
    have S2:=mkHid s5
    clear s5 ho4 hg4 hn4
    refine hK _ _ ?_
    clear hK K
    go_simp
    refine ta 6 (.pointer (some ⟨B,6,none⟩)) (hQ:=fun _ _ _ h=>nomatch h.1) ?_ ?_
    ·intro w
     go_simp
     all_goals omega
    go_simp
    refine YtkcajnjledldnaaGreatDoor.r1 7 (fun K hK=>?_)
    go_simp
    refine hK _ _ ?_
    clear hK K
    go_simp
    refine wpAny_done (by kernel_rfl) ?_ _
    first|refine⟨rfl,?_⟩|skip
    rw[HRR.out]
    exact⟨z2,X2,j2,bd2,mn2,v2,.slice o5 (ks0.length+1) c5,u2.heap.size,u2,by kernel_rfl,S2,P2⟩
 rw[HRR.out]
 clear HRR RR
 rintro a' W2 ⟨z2,X2,j2,bd2,mn2,v2,vd2,hh2,u2,rfl,S2,P2⟩
 obtain⟨ks2,hks2⟩:∃x,ks0 ++ [z2]=x:=⟨_,rfl⟩
 obtain⟨A2,hA2⟩:∃x,A0++X2=x:=⟨_,rfl⟩
 rw[hks2,hA2] at S2
 have q2:=mkHid P2.out.res
 have hlt2:=P2.out.lt
 have hle2:=P2.out.le
 have hcn2:=P2.out.cnt
 have hc02:=mkHid P2.out.cnt0
 have hl2:A2.length=A0.length+X2.length:=by rw[← hA2,List.length_append]
 replace hks2:=mkHid hks2
 replace hA2:=mkHid hA2
 clear P2 S1
 have hk2:ks2.length≤j2:=by rw[← hks2.out,List.length_append,List.length_singleton,hks0.out];simp;omega
 have S3:Hid (TstInv 24 g tv T TE v E w B i many R t W2):=by
  refine⟨j2,bd2,mn2,v2,vd2,A2,ks2,T.length,hlt2,by omega,by omega,hk2,by omega,S2,?_,?_⟩
  all_goals
   have q:=q2.out
   have hA:=hA2.out
   have hk:=hks2.out
   have hr:=r1.out
   have hs:=s1.out
   have hh:=H0.out
   rw[hA0.out] at q hA
   rw[hks0.out] at hk
   rw[List.append_nil] at q
   rw[List.nil_append] at hA hk
   rw[hA] at q
   intro e
  ·have q:=q.1 e
   rw[HR.out,Rf.given,if_neg (by decide),hh]
   cases hb1:bd1
   ·rw[hb1] at hr hs q
    have hy:Rf.is T (i+1) 112 [40]=true:=by simpa using hr.symm
    simp only[Bool.false_eq_true,if_false] at hs
    subst hs
    rw[Rf.given,if_neg (by decide)] at q
    rw[if_pos hy,show t (i+2) (E.map (·.1))=.bad j2 from q]
    rfl
   ·rw[hb1] at hr hs q
    have hy:Rf.is T (i+1) 112 [40]=false:=by simpa using hr.symm
    simp only[if_true] at hs
    subst hs
    rw[Rf.given,if_pos rfl] at q
    rw[if_neg (Bool.eq_false_iff.1 hy)]
    exact q
  ·obtain⟨hb1,p1,p2,p3⟩:=q.2 e
   rw[hb1] at hr hs
   have hy:Rf.is T (i+1) 112 [40]=true:=by simpa using hr.symm
   simp only[Bool.false_eq_true,if_false] at hs
   subst hs
   refine⟨?_,p3⟩
   rw[HR.out,Rf.given,if_neg (by decide),hh,if_pos hy,show t (i+2) (E.map (·.1))=_ from p1,← hk,p2]
   rfl
 clear S2 q2 hks2 hA2 r1 s1 hks0 hA0
 go_wp2
 go_simp
 go_loopw [] (fun wr=>TstInv 24 g tv T TE v E w B i many R t wr) (fun wr=>tstM T g wr)
 case atStart=>exact S3.out
 case round=>
  clear S3
  obtain⟨j,bd,mn,v',vd,A,ks,F,hj,hij,hF,hks,hcn,S,R1,R2⟩:=hrel
  have cJ:=mkHid (five S.out.rs.blk).2.1
  obtain⟨F,rfl⟩:∃F',F=F'+1:=⟨F-1,by omega⟩
  have kM:=mkHid (jMay HK.out S.out.rs hj 112 [44])
  go_wp2_with (go_at_call 89;fail)
  refine kM.out.mono ?_
  rintro e W ⟨jm,ym,rfl,hm,em,hjm,hijm,hijmb,rm,sm⟩
  have S1:=mkHid (S.out.small hm em)
  clear hm em kM S
  cases ym
  case true=>
   obtain⟨rfl,hcm⟩:bd=false∧Rf.is T j 112 [44]=true:=by
    have hx:=rm.out
    cases bd with
    | false=>exact⟨rfl,hx.symm⟩
    | true=>cases hx
   obtain rfl:jm=j+1:=sm.out
   obtain⟨hRb,hmn⟩:=R2.out rfl
   replace hRb:=mkHid hRb
   replace hmn:=mkHid hmn
   clear R1 R2 rm sm
   go_wp2
   obtain⟨RR,hRR⟩:∃RR:Act→Act→World→Prop,RR=(fun a a' w'=>∃ (z5:Int) (X5:List NdE) (j5:Nat) (bd5 mn5:Bool) (v5 vd5:Value) (hh5:Nat) (u5:World),a'=(((((((a.put (some 69) (.pointer (some ⟨B,6,none⟩))).put (some 70) vd).put (some 71) (.pointer (some ⟨g,0,none⟩))).put (some 72) (.int .i64 z5)).put (some 73) (.slice (some ⟨hh5,0,none⟩) 1 1)).put (some 74) vd5).put (some 75) (.pointer (some ⟨B,6,none⟩)))∧Hid (Fm g tv TE v E w B { Rf.zn 24 with kids:=ks ++ [z5] } (.slice none 0 0) (.slice none 0 0) vd5 j5 bd5 mn5 v5 (A++X5) w')∧Hid (RdP g tv T TE 0 t (j+1) false mn v' (E++A) W.drew z5 X5 j5 bd5 mn5 v5 u5)):=⟨_,rfl⟩
   have HRR:=mkHid hRR
   clear hRR
   refine wp_cut RR ?_ ?_
   ·have SD:=mkHid (S1.out.small (S1.out.rs.below (below_drew (Below.refl _ _))) (Ef.of_below (below_drew (Below.refl _ _))))
    have kC:=mkHid (HTst.out (j+1) false mn v' (E++A) W.drew SD.out.rs hjm (by omega) (by have:=HE.out;rw[List.length_append];omega))
    obtain⟨oD,cD,eD⟩:=own_shape S1.out.od
    subst eD
    have y0:W.cell? ⟨B,6,none⟩=some (.slice oD ks.length cD):=by simp[World.cell?,S1.out.blk]
    refine wp_region_any (by kernel_rfl) ?_
    refine ta 0 (.pointer (some ⟨B,6,none⟩)) (hQ:=fun _ _ _ h=>nomatch h.1) ?_ ?_
    ·intro w
     go_simp
     all_goals omega
    go_simp
    refine ta 2 (.pointer (some ⟨g,0,none⟩)) (hQ:=fun _ _ _ h=>nomatch h.1) ?_ ?_
    ·intro w
     go_simp
     all_goals omega
    go_simp
    refine wpAny_ready (rs:=[1,3]) (by kernel_rfl) (by simp) ?_
    refine AllReady.cons rfl (fun K hK=>?_) (AllReady.cons rfl (fun K hK=>?_) AllReady.nil)
    ·skip
     go_simp
     refine hK _ _ ?_
     clear hK K
     go_simp
     refine YtkcajnjledldnaaGreatDoor.r1 3 (fun K hK=>?_)
     go_simp
     refine kC.out.mono ?_
     rintro e u5 ⟨z5,X5,j5,bd5,mn5,v5,rfl,hp⟩
     have S3:=mkHid (SD.out.call hp)
     have P5:=mkHid hp
     clear hp
     have y3:u5.cell? ⟨B,6,none⟩=some (.slice oD ks.length cD):=by simp[World.cell?,S3.out.blk]
     have y4:(u5.alloc (.cells #[.int .i64 z5] 2)).cell? ⟨B,6,none⟩=some (.slice oD ks.length cD):=(World.cell?_of_block (((Below.refl u5.heap.size u5).alloc (Nat.le_refl _) _).block B (heap_ltM S3.out.blk))).trans y3
     go_simp
     refine hK _ _ ?_
     clear hK K
     go_simp
     refine YtkcajnjledldnaaGreatDoor.r1 4 (fun K hK=>?_)
     go_simp
     refine hK _ _ ?_
     clear hK K
     go_simp
     refine YtkcajnjledldnaaGreatDoor.r1 5 (fun K hK=>?_)
     refine opAppKd _ _ rfl w.heap.size (.slice oD ks.length cD) ks rfl (S3.out.od.below ((Below.refl _ _).alloc (Nat.le_refl _) _)) z5 u5.heap.size 1 rfl (by simp) (by omega) (by have:=S3.out.ef.size;simp;omega) ?_
     intro vd5 w4 ho4 hg4 hn4
     obtain⟨x6,z6,s5⟩:=S3.out.kid ho4 hg4 hn4
     obtain⟨o5,c5,e5⟩:=own_shape ho4
     rw[List.length_append,List.length_singleton] at e5
     subst e5
     have S5:=mkHid s5
     clear s5 ho4 hg4 hn4
     refine hK _ _ ?_
     clear hK K
     go_simp
     refine ta 6 (.pointer (some ⟨B,6,none⟩)) (hQ:=fun _ _ _ h=>nomatch h.1) ?_ ?_
     ·intro w
      go_simp
      all_goals omega
     go_simp
     refine YtkcajnjledldnaaGreatDoor.r1 7 (fun K hK=>?_)
     go_simp
     refine hK _ _ ?_
     clear hK K
     go_simp
     refine wpAny_done (by kernel_rfl) ?_ _
     first|refine⟨rfl,?_⟩|skip
     rw[HRR.out]
     exact⟨z5,X5,j5,bd5,mn5,v5,.slice o5 (ks.length+1) c5,u5.heap.size,u5,by kernel_rfl,S5,P5⟩
    ·skip
     go_simp
     refine kC.out.mono ?_
     rintro e u5 ⟨z5,X5,j5,bd5,mn5,v5,rfl,hp⟩
     have S3:=mkHid (SD.out.call hp)
     have P5:=mkHid hp
     clear hp
     have y3:u5.cell? ⟨B,6,none⟩=some (.slice oD ks.length cD):=by simp[World.cell?,S3.out.blk]
     have y4:(u5.alloc (.cells #[.int .i64 z5] 2)).cell? ⟨B,6,none⟩=some (.slice oD ks.length cD):=(World.cell?_of_block (((Below.refl u5.heap.size u5).alloc (Nat.le_refl _) _).block B (heap_ltM S3.out.blk))).trans y3
     go_simp
     refine hK _ _ ?_
     clear hK K
     go_simp
     refine wpAny_ready (rs:=[1,4]) (by kernel_rfl) (by simp) ?_
     refine AllReady.cons rfl (fun K hK=>?_) (AllReady.cons rfl (fun K hK=>?_) AllReady.nil)
     ·skip
      go_simp
      refine hK _ _ ?_
      clear hK K
      go_simp
      refine YtkcajnjledldnaaGreatDoor.r1 4 (fun K hK=>?_)
      go_simp
      refine hK _ _ ?_
      clear hK K
      go_simp
      refine YtkcajnjledldnaaGreatDoor.r1 5 (fun K hK=>?_)
      refine opAppKd _ _ rfl w.heap.size (.slice oD ks.length cD) ks rfl (S3.out.od.below ((Below.refl _ _).alloc (Nat.le_refl _) _)) z5 u5.heap.size 1 rfl (by simp) (by omega) (by have:=S3.out.ef.size;simp;omega) ?_
      intro vd5 w4 ho4 hg4 hn4
      obtain⟨x6,z6,s5⟩:=S3.out.kid ho4 hg4 hn4
      obtain⟨o5,c5,e5⟩:=own_shape ho4
      rw[List.length_append,List.length_singleton] at e5
      subst e5
      have S5:=mkHid s5
      clear s5 ho4 hg4 hn4
      refine hK _ _ ?_
      clear hK K
      go_simp
      refine ta 6 (.pointer (some ⟨B,6,none⟩)) (hQ:=fun _ _ _ h=>nomatch h.1) ?_ ?_
      ·intro w
       go_simp
       all_goals omega
      go_simp
      refine YtkcajnjledldnaaGreatDoor.r1 7 (fun K hK=>?_)
      go_simp
      refine hK _ _ ?_
      clear hK K
      go_simp
      refine wpAny_done (by kernel_rfl) ?_ _
      first|refine⟨rfl,?_⟩|skip
      rw[HRR.out]
      exact⟨z5,X5,j5,bd5,mn5,v5,.slice o5 (ks.length+1) c5,u5.heap.size,u5,by kernel_rfl,S5,P5⟩
     ·skip
      go_simp
      refine hK _ _ ?_
      clear hK K
      go_simp
      refine YtkcajnjledldnaaGreatDoor.r1 1 (fun K hK=>?_)
      go_simp
      refine hK _ _ ?_
      clear hK K
      go_simp
      refine YtkcajnjledldnaaGreatDoor.r1 5 (fun K hK=>?_)
      refine opAppKd _ _ rfl w.heap.size (.slice oD ks.length cD) ks rfl (S3.out.od.below ((Below.refl _ _).alloc (Nat.le_refl _) _)) z5 u5.heap.size 1 rfl (by simp) (by omega) (by have:=S3.out.ef.size;simp;omega) ?_
      intro vd5 w4 ho4 hg4 hn4
      obtain⟨x6,z6,s5⟩:=S3.out.kid ho4 hg4 hn4
      obtain⟨o5,c5,e5⟩:=own_shape ho4
      rw[List.length_append,List.length_singleton] at e5
      subst e5
      have S5:=mkHid s5
      clear s5 ho4 hg4 hn4
      refine hK _ _ ?_
      clear hK K
      go_simp
      refine ta 6 (.pointer (some ⟨B,6,none⟩)) (hQ:=fun _ _ _ h=>nomatch h.1) ?_ ?_
      ·intro w
       go_simp
       all_goals omega
      go_simp
      refine YtkcajnjledldnaaGreatDoor.r1 7 (fun K hK=>?_)
      go_simp
      refine hK _ _ ?_
      clear hK K
      go_simp
      refine wpAny_done (by kernel_rfl) ?_ _
      first|refine⟨rfl,?_⟩|skip
      rw[HRR.out]
      exact⟨z5,X5,j5,bd5,mn5,v5,.slice o5 (ks.length+1) c5,u5.heap.size,u5,by kernel_rfl,S5,P5⟩
   rw[HRR.out]
   clear HRR RR
   rintro a' W5 ⟨z5,X5,j5,bd5,mn5,v5,vd5,hh5,u5,rfl,S5,P5⟩
   obtain⟨ks5,hks5⟩:∃x,ks ++ [z5]=x:=⟨_,rfl⟩
   obtain⟨A5,hA5⟩:∃x,A++X5=x:=⟨_,rfl⟩
   rw[hks5,hA5] at S5
   have q5:=mkHid P5.out.res
   have hlt5:=P5.out.lt
   have hle5:=P5.out.le
   have hcn5:=P5.out.cnt
   have hc05:=mkHid P5.out.cnt0
   have hl5:A5.length=A.length+X5.length:=by rw[← hA5,List.length_append]
   replace hks5:=mkHid hks5
   replace hA5:=mkHid hA5
   clear P5 S1
   have hk5:ks5.length≤j5:=by rw[← hks5.out,List.length_append,List.length_singleton];omega
   have cN:=mkHid (five S5.out.rs.blk).2.1
   have HI:Hid (TstInv 24 g tv T TE v E w B i many R t W5):=by
    refine⟨j5,bd5,mn5,v5,vd5,A5,ks5,F,hlt5,by omega,by omega,hk5,by omega,S5,?_,?_⟩
    all_goals
     have q:=q5.out
     intro e
    ·have q:=q.1 e
     rw[Rf.given,if_neg (by decide)] at q
     rw[hRb.out,Rf.tsts,if_pos hcm,q]
     rfl
    ·obtain⟨-,p1,p2,p3⟩:=q.2 e
     refine⟨?_,?_⟩
     ·rw[hRb.out,Rf.tsts,if_pos hcm,p1,← hA5.out,← hks5.out,← List.append_assoc,p2]
     ·rw[p3,hmn.out,← hA5.out,big_app,Bool.or_assoc]
   have HM:Hid (tstM T g W5<tstM T g wr):=by
    show _<_
    unfold tstM
    rw[cJ.out,cN.out]
    simp[Lib.intOf]
    omega
   clear S5 q5 hks5 hA5 hRb hmn cN cJ
   go_wp2
   go_roundw
   case rel=>first|exact HI.out|exact⟨_, HI.out,rfl⟩|exact⟨_,_, HI.out,rfl⟩|exact⟨_,_,_, HI.out,rfl⟩|exact⟨_,_,_,_, HI.out,rfl⟩|exact⟨_,_,_,_,_, HI.out,rfl⟩|exact⟨_,_,_,_,_,_, HI.out,rfl⟩|exact⟨_,_,_,_,_,_,_, HI.out,rfl⟩|exact⟨_,_,_,_,_,_,_,_, HI.out,rfl⟩|exact⟨_,_,_,_,_,_,_,_,_, HI.out,rfl⟩|exact⟨_,_,_,_,_,_,_,_,_,_, HI.out,rfl⟩|exact⟨_,_,_,_,_,_,_,_,_,_,_, HI.out,rfl⟩|exact⟨_,_,_,_,_,_,_,_,_,_,_,_, HI.out,rfl⟩|exact⟨_,_,_,_,_,_,_,_,_,_,_,_,_, HI.out,rfl⟩|exact⟨_,_,_,_,_,_,_,_,_,_,_,_,_,_, HI.out,rfl⟩|exact⟨_,_,_,_,_,_,_,_,_,_,_,_,_,_,_, HI.out,rfl⟩|exact⟨_,_,_,_,_,_,_,_,_,_,_,_,_,_,_,_, HI.out,rfl⟩|exact⟨_,_,_,_,_,_,_,_,_,_,_,_,_,_,_,_,_, HI.out,rfl⟩|exact⟨_,_,_,_,_,_,_,_,_,_,_,_,_,_,_,_,_,_, HI.out,rfl⟩|exact⟨_,_,_,_,_,_,_,_,_,_,_,_,_,_,_,_,_,_,_, HI.out,rfl⟩|exact⟨_,_,_,_,_,_,_,_,_,_,_,_,_,_,_,_,_,_,_,_, HI.out,rfl⟩|exact⟨_,_,_,_,_,_,_,_,_,_,_,_,_,_,_,_,_,_,_,_,_, HI.out,rfl⟩|exact⟨_,_,_,_,_,_,_,_,_,_,_,_,_,_,_,_,_,_,_,_,_,_, HI.out,rfl⟩|exact⟨_,_,_,_,_,_,_,_,_,_,_,_,_,_,_,_,_,_,_,_,_,_,_, HI.out,rfl⟩|exact⟨_,_,_,_,_,_,_,_,_,_,_,_,_,_,_,_,_,_,_,_,_,_,_,_, HI.out,rfl⟩|exact⟨_,_,_,_,_,_,_,_,_,_,_,_,_,_,_,_,_,_,_,_,_,_,_,_,_, HI.out,rfl⟩
   case measure=>exact HM.out
  case false=>
   obtain rfl:jm=j:=sm.out
   have kW:=mkHid (jWant HK.out S1.out.rs hjm 112 [41])
   go_wp2_with (go_at_call 95;fail)
   refine kW.out.mono ?_
   rintro e W6 ⟨rfl,j6,bd6,h6,e6,hj6,hij6,hij6b,r6,s6⟩
   have S6:=mkHid (S1.out.small h6 e6)
   clear h6 e6 kW S1
   have G1:Hid ((bd6=true→R=.bad j6)∧(bd6=false→R=.ok j6 ((E++A).map (·.1) ++ [{ Rf.zn 24 with kids:=ks }])∧mn=(many || big A))):=by
    have r6:=r6.out
    have s6:=s6.out
    have rm:=rm.out
    cases bd
    ·have hcm:Rf.is T jm 112 [44]=false:=by simpa using rm.symm
     obtain⟨hRb,hmn⟩:=R2.out rfl
     rw[hRb,Rf.tsts,if_neg (Bool.eq_false_iff.1 hcm)]
     cases hy:Rf.is T jm 112 [41]
     ·rw[hy] at r6
      obtain rfl:bd6=true:=r6
      obtain rfl:j6=jm:=s6
      exact⟨fun _=>rfl,fun e=>(by cases e)⟩
     ·rw[hy] at r6
      obtain rfl:bd6=false:=r6
      obtain rfl:j6=jm+1:=s6
      exact⟨fun e=>(by cases e),fun _=>⟨rfl,hmn⟩⟩
    ·obtain rfl:bd6=true:=r6
     obtain rfl:j6=jm:=s6
     exact⟨fun _=>R1.out rfl,fun e=>(by cases e)⟩
   clear r6 s6 rm sm R1 R2 cJ
   obtain⟨oD,cD,eD⟩:=own_shape S6.out.od
   subst eD
   have hbk:=S6.out.blk
   have d0:W6.cell? ⟨B,0,none⟩=some (.int .i64 24):=by simp[World.cell?,hbk];try rfl
   have d1:W6.cell? ⟨B,1,none⟩=some (.int .i64 0):=by simp[World.cell?,hbk];try rfl
   have d2:W6.cell? ⟨B,2,none⟩=some (.int .i64 0):=by simp[World.cell?,hbk];try rfl
   have d3:W6.cell? ⟨B,3,none⟩=some (.string ⟨#[]⟩):=by simp[World.cell?,hbk];try rfl
   have d4:W6.cell? ⟨B,4,none⟩=some (.slice none 0 0):=by simp[World.cell?,hbk];try rfl
   have d5:W6.cell? ⟨B,5,none⟩=some (.slice none 0 0):=by simp[World.cell?,hbk];try rfl
   have d6:W6.cell? ⟨B,6,none⟩=some (.slice oD ks.length cD):=by simp[World.cell?,hbk];try rfl
   clear hbk
   have kP:=mkHid (S6.out.put (by have:=HE.out;first|omega|(simp;omega)))
   clear S6
   go_wp2_with (go_at_call 50;fail)
   refine kP.out.mono ?_
   rintro e w9 ⟨rfl,v9,h9,e9,n9,f9,g9⟩
   clear d0 d1 d2 d3 d4 d5 d6 kP
   go_wp2
   go_ret
   exact⟨_,_,j6,bd6,mn,v9,rfl,RdP.mk2 R HR.out h9 e9 n9 f9 g9 hj6 (by omega) (by simp;omega) (fun e=>⟨by simp;omega,by omega⟩) G1.out.1 (fun e=>⟨by rw[(G1.out.2 e).1];simp,by simp[Rf.last];try omega,by rw[(G1.out.2 e).2,big_app];simp[big,Rf.zn]⟩)⟩
theorem Ef.weak {g:Nat} {r:Option Nat} {w w':World} (h:Ef g none w w'):Ef g r w w':=⟨h.os,h.tape,h.output,h.size,fun k hk hg _=>h.keep k hk hg (by simp)⟩
theorem Rf.tst_no (T:List Rf.Tk)(t:Nat→List Nd→Rf.Out)(i:Nat)(N:List Nd)(h:Rf.kind T i≠119∨Rf.tstK (Rf.text T i)=0):Rf.tst T t i N=.bad i:=by
 unfold Rf.tst
 rw[if_neg]
 intro e
 rw[Bool.and_eq_true,beq_iff_eq,bne_iff_ne] at e
 rcases h with h|h
 ·exact h e.1
 ·exact e.2 h
theorem RdP.none {g:Nat} {tv:Value} {T:List Rf.Tk} {TE:List TkE} {P:Nat→List Nd→Rf.Out} {i:Nat} {bad many:Bool} {v:Value} {E:List NdE} {w w':World} (h:Rs g tv TE i true many v E w')(he:Ef g none w w')(hi:i<T.length)(hR:Rf.given bad i (P i (E.map (·.1)))=.bad i):RdP g tv T TE 0 P i bad many v E w 0 [] i true many v w':=
 RdP.mk2 _ rfl (by rw[List.append_nil];exact h) he.weak (.inl rfl) (fun _ h=>(List.not_mem_nil h).elim) (fun _ h=>(List.not_mem_nil h).elim) hi (Nat.le_refl _) (by simp) (fun e=>(by cases e)) (fun _=>hR) (fun e=>(by cases e))
theorem specTestBad (g:Nat)(tv:Value)(l:List UInt8)(T:List Rf.Tk)(TE:List TkE)(i:Nat)(bad many:Bool)(v:Value)(E:List NdE)(w:World)(hK:Tks l T TE)(h:Rs g tv TE i bad many v E w)(hi:i<T.length)(hy:bad=true∨Rf.kind T i≠119∨Rf.tstK (Rf.text T i)=0) :
  Calls Tryz.prog 132 #[.pointer (some ⟨g,0,none⟩)] w fun e w'=>e=.returned (.int .i64 0)∧Rs g tv TE i true many v E w'∧Ef g none w w':=by
 have hll:=hK.length
 have hi2:i<TE.length:=by omega
 have hC:∀W:World,Calls Tryz.prog 159 #[.string TE[i].2.1] W fun e w'=>e=.returned (.int .i64 (Rf.tstK (Rf.text T i)))∧w'=W:=fun W=>(specTstW TE[i].2.1 W).mono fun _ _ h=>⟨by rw[h.1,hK.text i hi2,Rf.ba_list],h.2.symm⟩
 obtain⟨c0,c1,c2,c3,c4⟩:=five h.blk
 obtain⟨o,cap,rfl⟩:=h.tks.shape
 obtain⟨q,rfl,-,-,e0,e1,e2⟩:=h.tks.at i hi2
 have hii:(i:Int)<(TE.length:Int):=by omega
 have key:∀W,Below w.heap.size w W→Hid (W.frozen? ⟨g,2,none⟩=false∧W.cell? ⟨g,2,none⟩=some (.bool bad)∧Rs g (.slice (some ⟨q,0,none⟩) TE.length cap) TE i true many v E (W.setCell ⟨g,2,none⟩ (.bool true))∧Ef g none w (W.setCell ⟨g,2,none⟩ (.bool true))):=fun W hb=>by
  have h1:=h.below hb
  exact⟨by simp[World.frozen?,h1.blk],(five h1.blk).2.2.1,h1.set 2 (.bool true) i true many rfl,Ef.ahead hb (Ef.set g none W 2 _)⟩
 have hkd:=hK.kind i hi2
 generalize TE[i].1=k1 at *
 generalize TE[i].2.1=t1 at *
 generalize Rf.tstK (Rf.text T i)=z at *
 rw[← hkd] at hy
 clear h hkd hK
 cases bad
 ·by_cases hk:k1=119
  ·have hk1:((k1:Int) != 119)=false:=by rw[bne_eq_false_iff_eq,hk];rfl
   have hmz:z=0:=by rcases hy with hy|hy|hy;cases hy;exact absurd hk hy;exact hy
   subst hmz
   replace hC:=mkHid hC
   clear hy hk
   go_enter Tryz.func132,Tryz.ntmps132
   go_wp2
   go_quiet (exact Calls.quiet_of_same (hC.out _))
   obtain⟨z1,z0,K2⟩:=key (w.drewN nq) (Go.below_drewN (Below.refl _ _) _)
   replace K2:=mkHid K2
   go_wp2
   go_ret
   exact⟨rfl,K2.out.1,K2.out.2⟩
  ·have hk1:((k1:Int) != 119)=true:=by rw[bne_iff_ne];intro e;exact hk (by omega)
   clear hy hk hC
   go_enter Tryz.func132,Tryz.ntmps132
   go_wp2
   go_quiet (fail)
   obtain⟨z1,z0,K2⟩:=key (w.drewN nq) (Go.below_drewN (Below.refl _ _) _)
   replace K2:=mkHid K2
   go_wp2
   go_ret
   exact⟨rfl,K2.out.1,K2.out.2⟩
 ·clear hy hC
  go_enter Tryz.func132,Tryz.ntmps132
  go_wp2
  go_quiet (fail)
  obtain⟨z1,z0,K2⟩:=key (w.drewN nq) (Go.below_drewN (Below.refl _ _) _)
  replace K2:=mkHid K2
  go_wp2
  go_ret
  exact⟨rfl,K2.out.1,K2.out.2⟩
theorem Rf.tstK_cases (x:List UInt8):Rf.tstK x=0∨Rf.tstK x=20∨Rf.tstK x=21∨Rf.tstK x=22∨Rf.tstK x=23∨Rf.tstK x=24∨Rf.tstK x=25∨Rf.tstK x=26∨Rf.tstK x=27∨Rf.tstK x=28∨Rf.tstK x=29∨Rf.tstK x=31:=by
 unfold Rf.tstK
 split
 ·simp
 ·split
  ·simp
  ·split
   ·simp
   ·split
    ·simp
    ·split
     ·simp
     ·split
      ·simp
      ·split
       ·simp
       ·split
        ·simp
        ·split
         ·simp
         ·split
          ·simp
          ·split<;>simp
theorem specTest (g:Nat)(tv:Value)(l:List UInt8)(T:List Rf.Tk)(TE:List TkE)(f:Nat)(t:Nat→List Nd→Rf.Out)(hK:Tks l T TE)(hT:T.length≤30000)(hTst:RdC 132 g tv T TE 0 f t) :
  RdC 132 g tv T TE 0 (f+1) (Rf.tst T t):=by
 intro i bad many v E w h hi hf hE
 by_cases hb:bad=true∨Rf.kind T i≠119∨Rf.tstK (Rf.text T i)=0
 ·refine(specTestBad g tv l T TE i bad many v E w hK h hi hb).mono ?_
  rintro e w' ⟨rfl,h1,e1⟩
  refine⟨0,[],i,true,many,v,rfl,RdP.none h1 e1 hi ?_⟩
  cases hbb:bad
  ·rw[Rf.given,if_neg (by decide)]
   refine Rf.tst_no T t i _ ?_
   rcases hb with hb|hb
   ·rw[hbb] at hb;cases hb
   ·exact hb
  ·rfl
 ·have h1:bad=false:=by cases bad;rfl;exact absurd (.inl rfl) hb
  have h2:Rf.kind T i=119:=Classical.byContradiction fun e=>hb (.inr (.inl e))
  subst h1
  rcases Rf.tstK_cases (Rf.text T i) with e|e|e|e|e|e|e|e|e|e|e|e
  ·exact absurd (.inr (.inr e)) hb
  ·exact specTest20 g tv l T TE f t hK hT i many v E w h hi hf hE h2 e
  ·exact specTest21 g tv l T TE f t hK hT i many v E w h hi hf hE h2 e
  ·exact specTest22 g tv l T TE f t hK hT hTst i many v E w h hi hf hE h2 e
  ·exact specTest23 g tv l T TE f t hK hT hTst i many v E w h hi hf hE h2 e
  ·exact specTest24 g tv l T TE f t hK hT hTst i many v E w h hi hf hE h2 e
  ·exact specTest25 g tv l T TE f t hK hT i many v E w h hi hf hE h2 e
  ·exact specTest26 g tv l T TE f t hK hT i many v E w h hi hf hE h2 e
  ·exact specTest27 g tv l T TE f t hK hT i many v E w h hi hf hE h2 e
  ·exact specTest28 g tv l T TE f t hK hT i many v E w h hi hf hE h2 e
  ·exact specTest29 g tv l T TE f t hK hT i many v E w h hi hf hE h2 e
  ·exact specTest31 g tv l T TE f t hK hT i many v E w h hi hf hE h2 e
end Go.Proofs.YtkcajnjledldnaaGreatDoor
