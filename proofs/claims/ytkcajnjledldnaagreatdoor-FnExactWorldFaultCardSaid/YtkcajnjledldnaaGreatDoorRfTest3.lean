import Derived.Test.YtkcajnjledldnaaGreatDoorRfTest2
set_option maxRecDepth 20000
set_option maxHeartbeats 8000000
namespace Go.Proofs.YtkcajnjledldnaaGreatDoor
open Go.RowKit Go.Lib Go.Maps
def Rf.maEnd (T:List Rf.Tk)(i:Nat)(k:Int)(N:List Nd):Option Int→Rf.Out
 | some m=>match Rf.txts T (i+2) with
  | .ok i1 A=>match Rf.txts T i1 with
   | .ok i2 B=>.ok i2 (N ++ [{ Rf.zn k with mat:=m,names:=A,keys:=B }])
   | .bad j=>.bad j
  | .bad j=>.bad j
 | none=>.bad (i+1)
theorem Rf.tst_25 (T:List Rf.Tk)(t:Nat→List Nd→Rf.Out)(i:Nat)(N:List Nd)(hk:Rf.kind T i=119)(hw:Rf.tstK (Rf.text T i)=25):Rf.tst T t i N=Rf.maEnd T i 25 N (Rf.matchOf T (i+1)):=by
 unfold Rf.tst
 rw[hk,hw]
 show(match Rf.matchOf T (i+1) with|some m=>_|none=>_)=_
 cases Rf.matchOf T (i+1) with
 | none=>rfl
 | some m=>
  unfold Rf.maEnd
  show(match Rf.txts T (i+2) with | .ok i' N'=>_ | .bad j=>_)=(match Rf.txts T (i+2) with | .ok i' N'=>_ | .bad j=>_)
  cases Rf.txts T (i+2) with
  | bad j=>rfl
  | ok i1 A=>
   show(match Rf.txts T i1 with | .ok i' N'=>_ | .bad j=>_)=(match Rf.txts T i1 with | .ok i' N'=>_ | .bad j=>_)
   cases Rf.txts T i1<;>rfl
theorem specTest25 (g:Nat)(tv:Value)(l:List UInt8)(T:List Rf.Tk)(TE:List TkE)(f:Nat)(t:Nat→List Nd→Rf.Out)(hK:Tks l T TE)(hT:T.length≤30000)(i:Nat)(many:Bool)(v:Value)(E:List NdE)(w:World)(h:Rs g tv TE i false many v E w)(hi:i<T.length)(_hf:T.length≤i+(f+1))(hE:E.length≤3*i+5)(hk:Rf.kind T i=119)(hw:Rf.tstK (Rf.text T i)=25) :
  Calls Tryz.prog 132 #[.pointer (some ⟨g,0,none⟩)] w fun e w'=>∃ z A i' bad' many' v',e=.returned (.int .i64 z)∧RdP g tv T TE 0 (Rf.tst T t) i false many v E w z A i' bad' many' v' w':=by
 obtain⟨R,hR⟩:∃R,R=Rf.given false i (Rf.tst T t i (E.map (·.1))):=⟨_,rfl⟩
 have HR:=mkHid hR
 have H0:=mkHid (Rf.tst_25 T t i (E.map (·.1)) hk hw)
 have hgl:=heap_ltM h.blk
 have hll:=hK.length
 have hl:=hK.len
 have hi2:i<TE.length:=by omega
 have hnx:i+1<T.length:=hK.nxt i hi (by rw[hk];decide) (by rw[hk];decide)
 have hC:∀W:World,Calls Tryz.prog 159 #[.string TE[i].2.1] W fun e w'=>e=.returned (.int .i64 25)∧w'=W:=fun W=>(specTstW TE[i].2.1 W).mono fun _ _ h=>⟨by rw[h.1,hK.text i hi2,Rf.ba_list,hw],h.2.symm⟩
 have cT:∀W:World,Below w.heap.size w W→_:=fun W hb=>specTakeY g tv TE i many v E W 119 (h.below hb) hi2 (by omega) (by rw[hK.kind i hi2];exact hk)
 have hk1:((TE[i].1:Int) != 119)=false:=by rw[bne_eq_false_iff_eq,hK.kind i hi2,hk];rfl
 obtain⟨c0,c1,c2,c3,c4⟩:=five h.blk
 obtain⟨o,cap,htv⟩:=h.tks.shape
 have htk:=h.tks
 rw[htv] at htk c0
 obtain⟨q,ho,-,-,e0,e1,e2⟩:=htk.at i hi2
 subst ho
 clear htk htv
 have hii:(i:Int)<(TE.length:Int):=by omega
 generalize TE[i].1=k1 at *
 generalize TE[i].2.1=t1 at *
 replace hC:=mkHid hC
 replace cT:=mkHid cT
 have HK:=mkHid hK
 have HE:=mkHid hE
 clear h hk hw hR hK hE
 go_enter Tryz.func132,Tryz.ntmps132
 go_wp2
 go_quiet (exact Calls.quiet_of_same (hC.out _))
 go_wp2_with (go_at_call 94;fail)
 refine(cT.out _ (Go.below_drewN (Below.refl _ _) _)).mono ?_
 rintro e w1 ⟨rfl,h1,e1⟩
 replace h1:=mkHid h1
 replace e1:=mkHid (Ef.ahead (Go.below_drewN (Below.refl _ _) _) e1)
 go_wp2_with (go_at_call 159;fail)
 refine(hC.out _).mono ?_
 rintro e w2 ⟨rfl,rfl⟩
 obtain⟨B,hB⟩:∃B,w2.heap.size=B:=⟨_,rfl⟩
 have S0:=mkHid (Fm.start hgl h1.out e1.out 25)
 rw[hB] at S0
 obtain⟨W0,hW0⟩:∃W0,w2.alloc (.cells #[.int .i64 25,.int .i64 0,.int .i64 0,.string ⟨#[]⟩,.slice none 0 0,.slice none 0 0,.slice none 0 0] 109)=W0:=⟨_,rfl⟩
 rw[show w2.alloc (.cells (sevC (Rf.zn 25) (.slice none 0 0) (.slice none 0 0) (.slice none 0 0)) 109)=W0 from hW0] at S0
 have HW0:=mkHid hW0
 have HB:=mkHid hB
 clear h1 hC cT e0 e1 e2 c0 c1 c2 c3 c4 hii hk1 hW0 hB
 have kM:=mkHid (jMatch HK.out S0.out.rs hnx)
 go_wp2_with (go_at_call 161;fail)
 rw[HW0.out,HB.out]
 refine kM.out.mono ?_
 rintro e W1 ⟨j1,y1,x1,rfl,h1,e1,hj1,hij1,hij1b,r1,s1,x1e⟩
 have S1:=mkHid (S0.out.small h1 e1)
 clear h1 e1 kM S0 HW0
 have z2:=S1.out.frz 2
 have S2:=mkHid (S1.out.pokeS 2 (.int .i64 x1) { Rf.zn 25 with mat:=x1 } rfl rfl rfl rfl)
 obtain⟨W2,hW2⟩:∃W2,W1.setCell ⟨B,2,none⟩ (.int .i64 x1)=W2:=⟨_,rfl⟩
 rw[hW2] at S2
 have HW2:=mkHid hW2
 clear hW2
 have hbk:=S1.out.blk
 have d0:W1.cell? ⟨B,0,none⟩=some (.int .i64 25):=by simp[World.cell?,hbk];try rfl
 have d1:W1.cell? ⟨B,1,none⟩=some (.int .i64 0):=by simp[World.cell?,hbk];try rfl
 have d2:W1.cell? ⟨B,2,none⟩=some (.int .i64 0):=by simp[World.cell?,hbk];try rfl
 have d3:W1.cell? ⟨B,3,none⟩=some (.string ⟨#[]⟩):=by simp[World.cell?,hbk];try rfl
 have d4:W1.cell? ⟨B,4,none⟩=some (.slice none 0 0):=by simp[World.cell?,hbk];try rfl
 have d5:W1.cell? ⟨B,5,none⟩=some (.slice none 0 0):=by simp[World.cell?,hbk];try rfl
 have d6:W1.cell? ⟨B,6,none⟩=some (.slice none 0 0):=by simp[World.cell?,hbk];try rfl
 clear hbk
 clear S1
 have kT:=mkHid (jTexts HK.out S2.out.rs hj1)
 go_wp2_with (go_at_call 160;fail)
 rw[HW2.out]
 refine kT.out.mono ?_
 rintro e W3 ⟨o3,c3,M3,j3,bd3,mn3,rfl,hO,e3,h3,hj3,hij3,r3,s3⟩
 clear d0 d1 d2 d3 d4 d5 d6 z2
 have S3:=mkHid (S2.out.small h3 e3)
 have S4:=mkHid (S2.out.setNames h3 e3 hO)
 clear hO h3 e3 kT S2 HW2
 have z4:=S3.out.frz 4
 obtain⟨W4,hW4⟩:∃W4,W3.setCell ⟨B,4,none⟩ (.slice o3 M3.length c3)=W4:=⟨_,rfl⟩
 rw[hW4] at S4
 have HW4:=mkHid hW4
 clear hW4
 have hbk:=S3.out.blk
 have d0:W3.cell? ⟨B,0,none⟩=some (.int .i64 25):=by simp[World.cell?,hbk];try rfl
 have d1:W3.cell? ⟨B,1,none⟩=some (.int .i64 0):=by simp[World.cell?,hbk];try rfl
 have d2:W3.cell? ⟨B,2,none⟩=some (.int .i64 x1):=by simp[World.cell?,hbk];try rfl
 have d3:W3.cell? ⟨B,3,none⟩=some (.string ⟨#[]⟩):=by simp[World.cell?,hbk];try rfl
 have d4:W3.cell? ⟨B,4,none⟩=some (.slice none 0 0):=by simp[World.cell?,hbk];try rfl
 have d5:W3.cell? ⟨B,5,none⟩=some (.slice none 0 0):=by simp[World.cell?,hbk];try rfl
 have d6:W3.cell? ⟨B,6,none⟩=some (.slice none 0 0):=by simp[World.cell?,hbk];try rfl
 clear hbk
 clear S3
 have kT:=mkHid (jTexts HK.out S4.out.rs hj3)
 go_wp2_with (go_at_call 160;fail)
 rw[HW4.out]
 refine kT.out.mono ?_
 rintro e W5 ⟨o5,c5,M5,j5,bd5,mn5,rfl,hO,e5,h5,hj5,hij5,r5,s5⟩
 clear d0 d1 d2 d3 d4 d5 d6 z4
 have S5:=mkHid (S4.out.small h5 e5)
 have S6:=mkHid (S4.out.setKeys h5 e5 hO)
 clear hO h5 e5 kT S4 HW4
 have z5:=S5.out.frz 5
 have hbk:=S5.out.blk
 have d0:W5.cell? ⟨B,0,none⟩=some (.int .i64 25):=by simp[World.cell?,hbk];try rfl
 have d1:W5.cell? ⟨B,1,none⟩=some (.int .i64 0):=by simp[World.cell?,hbk];try rfl
 have d2:W5.cell? ⟨B,2,none⟩=some (.int .i64 x1):=by simp[World.cell?,hbk];try rfl
 have d3:W5.cell? ⟨B,3,none⟩=some (.string ⟨#[]⟩):=by simp[World.cell?,hbk];try rfl
 have d4:W5.cell? ⟨B,4,none⟩=some (.slice o3 M3.length c3):=by simp[World.cell?,hbk];try rfl
 have d5:W5.cell? ⟨B,5,none⟩=some (.slice none 0 0):=by simp[World.cell?,hbk];try rfl
 have d6:W5.cell? ⟨B,6,none⟩=some (.slice none 0 0):=by simp[World.cell?,hbk];try rfl
 clear hbk
 clear S5
 have G1:Hid ((bd5=true→R=.bad j5)∧(bd5=false→i+2≤j5∧R=.ok j5 (E.map (·.1) ++ [{ Rf.zn 25 with mat:=x1,names:=M3,keys:=M5 }])∧mn5=((many || decide (100<M3.length)) || decide (100<M5.length)))):=by
  have r1:=r1.out
  have s1:=s1.out
  have x1e:=x1e.out
  have r3:=r3.out
  have s3:=s3.out
  have r5:=r5.out
  have s5:=s5.out
  have hh:=H0.out
  rw[HR.out,Rf.given,if_neg (by decide),hh]
  cases hm:Rf.matchOf T (i+1) with
  | none=>
   rw[hm] at r1
   simp at r1
   subst r1
   simp at s1
   subst s1
   cases bd3
   ·exact absurd (s3 rfl).1 (by decide)
   ·rcases r3 rfl with ⟨-,hj⟩|⟨h,-⟩
    ·subst hj
     cases bd5
     ·exact absurd (s5 rfl).1 (by decide)
     ·rcases r5 rfl with ⟨-,hj⟩|⟨h,-⟩
      ·subst hj
       exact⟨fun _=>rfl,fun e=>(by cases e)⟩
      ·cases h
    ·cases h
  | some m=>
   rw[hm] at r1 x1e
   simp at r1
   subst r1
   simp only[if_true] at s1 x1e
   subst s1
   simp at x1e
   subst x1e
   unfold Rf.maEnd
   cases bd3
   ·obtain⟨-,h3,h3m⟩:=s3 rfl
    show(bd5=true→(match Rf.txts T (i+2) with | .ok i' N'=>_ | .bad j=>_)=_)∧(bd5=false→i+2≤j5∧(match Rf.txts T (i+2) with | .ok i' N'=>_ | .bad j=>_)=_∧_)
    rw[show Rf.txts T (i+2)=.ok j3 M3 from h3]
    refine⟨fun e=>?_,fun e=>?_⟩
    ·rcases r5 e with ⟨h,-⟩|⟨-,h⟩
     ·cases h
     ·show(match Rf.txts T j3 with | .ok i' N'=>_ | .bad j=>_)=_
      rw[h]
    ·obtain⟨-,h5,h5m⟩:=s5 e
     refine⟨by omega,?_,by rw[h5m,h3m]⟩
     show(match Rf.txts T j3 with | .ok i' N'=>_ | .bad j=>_)=_
     rw[h5]
   ·rcases r3 rfl with ⟨h,-⟩|⟨-,h3⟩
    ·cases h
    ·cases bd5
     ·exact absurd (s5 rfl).1 (by decide)
     ·rcases r5 rfl with ⟨-,hj⟩|⟨h,-⟩
      ·subst hj
       refine⟨fun _=>?_,fun e=>(by cases e)⟩
       show(match Rf.txts T (i+2) with | .ok i' N'=>_ | .bad j=>_)=_
       rw[show Rf.txts T (i+2)=.bad j5 from h3]
      ·cases h
 clear r1 s1 x1e r3 s3 r5 s5
 have kP:=mkHid (S6.out.put (by have:=HE.out;first|omega|(simp;omega)))
 clear S6
 go_wp2_with (go_at_call 50;fail)
 refine kP.out.mono ?_
 rintro e w9 ⟨rfl,v9,h9,e9,n9,f9,g9⟩
 clear d0 d1 d2 d3 d4 d5 d6 z5 kP
 go_wp2
 go_ret
 exact⟨_,_,j5,bd5,mn5,v9,rfl,RdP.mk2 R HR.out h9 e9 n9 f9 g9 hj5 (by omega) (by simp;omega) (fun e=>⟨by have:=(G1.out.2 e).1;simp;omega,by have:=(G1.out.2 e).1;omega⟩) G1.out.1 (fun e=>⟨by rw[(G1.out.2 e).2.1];simp,by simp[Rf.last],by rw[(G1.out.2 e).2.2,Bool.or_assoc];simp[big,Rf.zn]⟩)⟩
theorem Rf.tst_26 (T:List Rf.Tk)(t:Nat→List Nd→Rf.Out)(i:Nat)(N:List Nd)(hk:Rf.kind T i=119)(hw:Rf.tstK (Rf.text T i)=26):Rf.tst T t i N=Rf.maEnd T i 26 N (Rf.matchOf T (i+1)):=by
 unfold Rf.tst
 rw[hk,hw]
 show(match Rf.matchOf T (i+1) with|some m=>_|none=>_)=_
 cases Rf.matchOf T (i+1) with
 | none=>rfl
 | some m=>
  unfold Rf.maEnd
  show(match Rf.txts T (i+2) with | .ok i' N'=>_ | .bad j=>_)=(match Rf.txts T (i+2) with | .ok i' N'=>_ | .bad j=>_)
  cases Rf.txts T (i+2) with
  | bad j=>rfl
  | ok i1 A=>
   show(match Rf.txts T i1 with | .ok i' N'=>_ | .bad j=>_)=(match Rf.txts T i1 with | .ok i' N'=>_ | .bad j=>_)
   cases Rf.txts T i1<;>rfl
theorem specTest26 (g:Nat)(tv:Value)(l:List UInt8)(T:List Rf.Tk)(TE:List TkE)(f:Nat)(t:Nat→List Nd→Rf.Out)(hK:Tks l T TE)(hT:T.length≤30000)(i:Nat)(many:Bool)(v:Value)(E:List NdE)(w:World)(h:Rs g tv TE i false many v E w)(hi:i<T.length)(_hf:T.length≤i+(f+1))(hE:E.length≤3*i+5)(hk:Rf.kind T i=119)(hw:Rf.tstK (Rf.text T i)=26) :
  Calls Tryz.prog 132 #[.pointer (some ⟨g,0,none⟩)] w fun e w'=>∃ z A i' bad' many' v',e=.returned (.int .i64 z)∧RdP g tv T TE 0 (Rf.tst T t) i false many v E w z A i' bad' many' v' w':=by
 obtain⟨R,hR⟩:∃R,R=Rf.given false i (Rf.tst T t i (E.map (·.1))):=⟨_,rfl⟩
 have HR:=mkHid hR
 have H0:=mkHid (Rf.tst_26 T t i (E.map (·.1)) hk hw)
 have hgl:=heap_ltM h.blk
 have hll:=hK.length
 have hl:=hK.len
 have hi2:i<TE.length:=by omega
 have hnx:i+1<T.length:=hK.nxt i hi (by rw[hk];decide) (by rw[hk];decide)
 have hC:∀W:World,Calls Tryz.prog 159 #[.string TE[i].2.1] W fun e w'=>e=.returned (.int .i64 26)∧w'=W:=fun W=>(specTstW TE[i].2.1 W).mono fun _ _ h=>⟨by rw[h.1,hK.text i hi2,Rf.ba_list,hw],h.2.symm⟩
 have cT:∀W:World,Below w.heap.size w W→_:=fun W hb=>specTakeY g tv TE i many v E W 119 (h.below hb) hi2 (by omega) (by rw[hK.kind i hi2];exact hk)
 have hk1:((TE[i].1:Int) != 119)=false:=by rw[bne_eq_false_iff_eq,hK.kind i hi2,hk];rfl
 obtain⟨c0,c1,c2,c3,c4⟩:=five h.blk
 obtain⟨o,cap,htv⟩:=h.tks.shape
 have htk:=h.tks
 rw[htv] at htk c0
 obtain⟨q,ho,-,-,e0,e1,e2⟩:=htk.at i hi2
 subst ho
 clear htk htv
 have hii:(i:Int)<(TE.length:Int):=by omega
 generalize TE[i].1=k1 at *
 generalize TE[i].2.1=t1 at *
 replace hC:=mkHid hC
 replace cT:=mkHid cT
 have HK:=mkHid hK
 have HE:=mkHid hE
 clear h hk hw hR hK hE
 go_enter Tryz.func132,Tryz.ntmps132
 go_wp2
 go_quiet (exact Calls.quiet_of_same (hC.out _))
 go_wp2_with (go_at_call 94;fail)
 refine(cT.out _ (Go.below_drewN (Below.refl _ _) _)).mono ?_
 rintro e w1 ⟨rfl,h1,e1⟩
 replace h1:=mkHid h1
 replace e1:=mkHid (Ef.ahead (Go.below_drewN (Below.refl _ _) _) e1)
 go_wp2_with (go_at_call 159;fail)
 refine(hC.out _).mono ?_
 rintro e w2 ⟨rfl,rfl⟩
 obtain⟨B,hB⟩:∃B,w2.heap.size=B:=⟨_,rfl⟩
 have S0:=mkHid (Fm.start hgl h1.out e1.out 26)
 rw[hB] at S0
 obtain⟨W0,hW0⟩:∃W0,w2.alloc (.cells #[.int .i64 26,.int .i64 0,.int .i64 0,.string ⟨#[]⟩,.slice none 0 0,.slice none 0 0,.slice none 0 0] 109)=W0:=⟨_,rfl⟩
 rw[show w2.alloc (.cells (sevC (Rf.zn 26) (.slice none 0 0) (.slice none 0 0) (.slice none 0 0)) 109)=W0 from hW0] at S0
 have HW0:=mkHid hW0
 have HB:=mkHid hB
 clear h1 hC cT e0 e1 e2 c0 c1 c2 c3 c4 hii hk1 hW0 hB
 have kM:=mkHid (jMatch HK.out S0.out.rs hnx)
 go_wp2_with (go_at_call 161;fail)
 rw[HW0.out,HB.out]
 refine kM.out.mono ?_
 rintro e W1 ⟨j1,y1,x1,rfl,h1,e1,hj1,hij1,hij1b,r1,s1,x1e⟩
 have S1:=mkHid (S0.out.small h1 e1)
 clear h1 e1 kM S0 HW0
 have z2:=S1.out.frz 2
 have S2:=mkHid (S1.out.pokeS 2 (.int .i64 x1) { Rf.zn 26 with mat:=x1 } rfl rfl rfl rfl)
 obtain⟨W2,hW2⟩:∃W2,W1.setCell ⟨B,2,none⟩ (.int .i64 x1)=W2:=⟨_,rfl⟩
 rw[hW2] at S2
 have HW2:=mkHid hW2
 clear hW2
 have hbk:=S1.out.blk
 have d0:W1.cell? ⟨B,0,none⟩=some (.int .i64 26):=by simp[World.cell?,hbk];try rfl
 have d1:W1.cell? ⟨B,1,none⟩=some (.int .i64 0):=by simp[World.cell?,hbk];try rfl
 have d2:W1.cell? ⟨B,2,none⟩=some (.int .i64 0):=by simp[World.cell?,hbk];try rfl
 have d3:W1.cell? ⟨B,3,none⟩=some (.string ⟨#[]⟩):=by simp[World.cell?,hbk];try rfl
 have d4:W1.cell? ⟨B,4,none⟩=some (.slice none 0 0):=by simp[World.cell?,hbk];try rfl
 have d5:W1.cell? ⟨B,5,none⟩=some (.slice none 0 0):=by simp[World.cell?,hbk];try rfl
 have d6:W1.cell? ⟨B,6,none⟩=some (.slice none 0 0):=by simp[World.cell?,hbk];try rfl
 clear hbk
 clear S1
 have kT:=mkHid (jTexts HK.out S2.out.rs hj1)
 go_wp2_with (go_at_call 160;fail)
 rw[HW2.out]
 refine kT.out.mono ?_
 rintro e W3 ⟨o3,c3,M3,j3,bd3,mn3,rfl,hO,e3,h3,hj3,hij3,r3,s3⟩
 clear d0 d1 d2 d3 d4 d5 d6 z2
 have S3:=mkHid (S2.out.small h3 e3)
 have S4:=mkHid (S2.out.setNames h3 e3 hO)
 clear hO h3 e3 kT S2 HW2
 have z4:=S3.out.frz 4
 obtain⟨W4,hW4⟩:∃W4,W3.setCell ⟨B,4,none⟩ (.slice o3 M3.length c3)=W4:=⟨_,rfl⟩
 rw[hW4] at S4
 have HW4:=mkHid hW4
 clear hW4
 have hbk:=S3.out.blk
 have d0:W3.cell? ⟨B,0,none⟩=some (.int .i64 26):=by simp[World.cell?,hbk];try rfl
 have d1:W3.cell? ⟨B,1,none⟩=some (.int .i64 0):=by simp[World.cell?,hbk];try rfl
 have d2:W3.cell? ⟨B,2,none⟩=some (.int .i64 x1):=by simp[World.cell?,hbk];try rfl
 have d3:W3.cell? ⟨B,3,none⟩=some (.string ⟨#[]⟩):=by simp[World.cell?,hbk];try rfl
 have d4:W3.cell? ⟨B,4,none⟩=some (.slice none 0 0):=by simp[World.cell?,hbk];try rfl
 have d5:W3.cell? ⟨B,5,none⟩=some (.slice none 0 0):=by simp[World.cell?,hbk];try rfl
 have d6:W3.cell? ⟨B,6,none⟩=some (.slice none 0 0):=by simp[World.cell?,hbk];try rfl
 clear hbk
 clear S3
 have kT:=mkHid (jTexts HK.out S4.out.rs hj3)
 go_wp2_with (go_at_call 160;fail)
 rw[HW4.out]
 refine kT.out.mono ?_
 rintro e W5 ⟨o5,c5,M5,j5,bd5,mn5,rfl,hO,e5,h5,hj5,hij5,r5,s5⟩
 clear d0 d1 d2 d3 d4 d5 d6 z4
 have S5:=mkHid (S4.out.small h5 e5)
 have S6:=mkHid (S4.out.setKeys h5 e5 hO)
 clear hO h5 e5 kT S4 HW4
 have z5:=S5.out.frz 5
 have hbk:=S5.out.blk
 have d0:W5.cell? ⟨B,0,none⟩=some (.int .i64 26):=by simp[World.cell?,hbk];try rfl
 have d1:W5.cell? ⟨B,1,none⟩=some (.int .i64 0):=by simp[World.cell?,hbk];try rfl
 have d2:W5.cell? ⟨B,2,none⟩=some (.int .i64 x1):=by simp[World.cell?,hbk];try rfl
 have d3:W5.cell? ⟨B,3,none⟩=some (.string ⟨#[]⟩):=by simp[World.cell?,hbk];try rfl
 have d4:W5.cell? ⟨B,4,none⟩=some (.slice o3 M3.length c3):=by simp[World.cell?,hbk];try rfl
 have d5:W5.cell? ⟨B,5,none⟩=some (.slice none 0 0):=by simp[World.cell?,hbk];try rfl
 have d6:W5.cell? ⟨B,6,none⟩=some (.slice none 0 0):=by simp[World.cell?,hbk];try rfl
 clear hbk
 clear S5
 have G1:Hid ((bd5=true→R=.bad j5)∧(bd5=false→i+2≤j5∧R=.ok j5 (E.map (·.1) ++ [{ Rf.zn 26 with mat:=x1,names:=M3,keys:=M5 }])∧mn5=((many || decide (100<M3.length)) || decide (100<M5.length)))):=by
  have r1:=r1.out
  have s1:=s1.out
  have x1e:=x1e.out
  have r3:=r3.out
  have s3:=s3.out
  have r5:=r5.out
  have s5:=s5.out
  have hh:=H0.out
  rw[HR.out,Rf.given,if_neg (by decide),hh]
  cases hm:Rf.matchOf T (i+1) with
  | none=>
   rw[hm] at r1
   simp at r1
   subst r1
   simp at s1
   subst s1
   cases bd3
   ·exact absurd (s3 rfl).1 (by decide)
   ·rcases r3 rfl with ⟨-,hj⟩|⟨h,-⟩
    ·subst hj
     cases bd5
     ·exact absurd (s5 rfl).1 (by decide)
     ·rcases r5 rfl with ⟨-,hj⟩|⟨h,-⟩
      ·subst hj
       exact⟨fun _=>rfl,fun e=>(by cases e)⟩
      ·cases h
    ·cases h
  | some m=>
   rw[hm] at r1 x1e
   simp at r1
   subst r1
   simp only[if_true] at s1 x1e
   subst s1
   simp at x1e
   subst x1e
   unfold Rf.maEnd
   cases bd3
   ·obtain⟨-,h3,h3m⟩:=s3 rfl
    show(bd5=true→(match Rf.txts T (i+2) with | .ok i' N'=>_ | .bad j=>_)=_)∧(bd5=false→i+2≤j5∧(match Rf.txts T (i+2) with | .ok i' N'=>_ | .bad j=>_)=_∧_)
    rw[show Rf.txts T (i+2)=.ok j3 M3 from h3]
    refine⟨fun e=>?_,fun e=>?_⟩
    ·rcases r5 e with ⟨h,-⟩|⟨-,h⟩
     ·cases h
     ·show(match Rf.txts T j3 with | .ok i' N'=>_ | .bad j=>_)=_
      rw[h]
    ·obtain⟨-,h5,h5m⟩:=s5 e
     refine⟨by omega,?_,by rw[h5m,h3m]⟩
     show(match Rf.txts T j3 with | .ok i' N'=>_ | .bad j=>_)=_
     rw[h5]
   ·rcases r3 rfl with ⟨h,-⟩|⟨-,h3⟩
    ·cases h
    ·cases bd5
     ·exact absurd (s5 rfl).1 (by decide)
     ·rcases r5 rfl with ⟨-,hj⟩|⟨h,-⟩
      ·subst hj
       refine⟨fun _=>?_,fun e=>(by cases e)⟩
       show(match Rf.txts T (i+2) with | .ok i' N'=>_ | .bad j=>_)=_
       rw[show Rf.txts T (i+2)=.bad j5 from h3]
      ·cases h
 clear r1 s1 x1e r3 s3 r5 s5
 have kP:=mkHid (S6.out.put (by have:=HE.out;first|omega|(simp;omega)))
 clear S6
 go_wp2_with (go_at_call 50;fail)
 refine kP.out.mono ?_
 rintro e w9 ⟨rfl,v9,h9,e9,n9,f9,g9⟩
 clear d0 d1 d2 d3 d4 d5 d6 z5 kP
 go_wp2
 go_ret
 exact⟨_,_,j5,bd5,mn5,v9,rfl,RdP.mk2 R HR.out h9 e9 n9 f9 g9 hj5 (by omega) (by simp;omega) (fun e=>⟨by have:=(G1.out.2 e).1;simp;omega,by have:=(G1.out.2 e).1;omega⟩) G1.out.1 (fun e=>⟨by rw[(G1.out.2 e).2.1];simp,by simp[Rf.last],by rw[(G1.out.2 e).2.2,Bool.or_assoc];simp[big,Rf.zn]⟩)⟩
theorem Rf.tst_27 (T:List Rf.Tk)(t:Nat→List Nd→Rf.Out)(i:Nat)(N:List Nd)(hk:Rf.kind T i=119)(hw:Rf.tstK (Rf.text T i)=27):Rf.tst T t i N=Rf.maEnd T i 27 N (Rf.matchOf T (i+1)):=by
 unfold Rf.tst
 rw[hk,hw]
 show(match Rf.matchOf T (i+1) with|some m=>_|none=>_)=_
 cases Rf.matchOf T (i+1) with
 | none=>rfl
 | some m=>
  unfold Rf.maEnd
  show(match Rf.txts T (i+2) with | .ok i' N'=>_ | .bad j=>_)=(match Rf.txts T (i+2) with | .ok i' N'=>_ | .bad j=>_)
  cases Rf.txts T (i+2) with
  | bad j=>rfl
  | ok i1 A=>
   show(match Rf.txts T i1 with | .ok i' N'=>_ | .bad j=>_)=(match Rf.txts T i1 with | .ok i' N'=>_ | .bad j=>_)
   cases Rf.txts T i1<;>rfl
theorem specTest27 (g:Nat)(tv:Value)(l:List UInt8)(T:List Rf.Tk)(TE:List TkE)(f:Nat)(t:Nat→List Nd→Rf.Out)(hK:Tks l T TE)(hT:T.length≤30000)(i:Nat)(many:Bool)(v:Value)(E:List NdE)(w:World)(h:Rs g tv TE i false many v E w)(hi:i<T.length)(_hf:T.length≤i+(f+1))(hE:E.length≤3*i+5)(hk:Rf.kind T i=119)(hw:Rf.tstK (Rf.text T i)=27) :
  Calls Tryz.prog 132 #[.pointer (some ⟨g,0,none⟩)] w fun e w'=>∃ z A i' bad' many' v',e=.returned (.int .i64 z)∧RdP g tv T TE 0 (Rf.tst T t) i false many v E w z A i' bad' many' v' w':=by
 obtain⟨R,hR⟩:∃R,R=Rf.given false i (Rf.tst T t i (E.map (·.1))):=⟨_,rfl⟩
 have HR:=mkHid hR
 have H0:=mkHid (Rf.tst_27 T t i (E.map (·.1)) hk hw)
 have hgl:=heap_ltM h.blk
 have hll:=hK.length
 have hl:=hK.len
 have hi2:i<TE.length:=by omega
 have hnx:i+1<T.length:=hK.nxt i hi (by rw[hk];decide) (by rw[hk];decide)
 have hC:∀W:World,Calls Tryz.prog 159 #[.string TE[i].2.1] W fun e w'=>e=.returned (.int .i64 27)∧w'=W:=fun W=>(specTstW TE[i].2.1 W).mono fun _ _ h=>⟨by rw[h.1,hK.text i hi2,Rf.ba_list,hw],h.2.symm⟩
 have cT:∀W:World,Below w.heap.size w W→_:=fun W hb=>specTakeY g tv TE i many v E W 119 (h.below hb) hi2 (by omega) (by rw[hK.kind i hi2];exact hk)
 have hk1:((TE[i].1:Int) != 119)=false:=by rw[bne_eq_false_iff_eq,hK.kind i hi2,hk];rfl
 obtain⟨c0,c1,c2,c3,c4⟩:=five h.blk
 obtain⟨o,cap,htv⟩:=h.tks.shape
 have htk:=h.tks
 rw[htv] at htk c0
 obtain⟨q,ho,-,-,e0,e1,e2⟩:=htk.at i hi2
 subst ho
 clear htk htv
 have hii:(i:Int)<(TE.length:Int):=by omega
 generalize TE[i].1=k1 at *
 generalize TE[i].2.1=t1 at *
 replace hC:=mkHid hC
 replace cT:=mkHid cT
 have HK:=mkHid hK
 have HE:=mkHid hE
 clear h hk hw hR hK hE
 go_enter Tryz.func132,Tryz.ntmps132
 go_wp2
 go_quiet (exact Calls.quiet_of_same (hC.out _))
 go_wp2_with (go_at_call 94;fail)
 refine(cT.out _ (Go.below_drewN (Below.refl _ _) _)).mono ?_
 rintro e w1 ⟨rfl,h1,e1⟩
 replace h1:=mkHid h1
 replace e1:=mkHid (Ef.ahead (Go.below_drewN (Below.refl _ _) _) e1)
 go_wp2_with (go_at_call 159;fail)
 refine(hC.out _).mono ?_
 rintro e w2 ⟨rfl,rfl⟩
 obtain⟨B,hB⟩:∃B,w2.heap.size=B:=⟨_,rfl⟩
 have S0:=mkHid (Fm.start hgl h1.out e1.out 27)
 rw[hB] at S0
 obtain⟨W0,hW0⟩:∃W0,w2.alloc (.cells #[.int .i64 27,.int .i64 0,.int .i64 0,.string ⟨#[]⟩,.slice none 0 0,.slice none 0 0,.slice none 0 0] 109)=W0:=⟨_,rfl⟩
 rw[show w2.alloc (.cells (sevC (Rf.zn 27) (.slice none 0 0) (.slice none 0 0) (.slice none 0 0)) 109)=W0 from hW0] at S0
 have HW0:=mkHid hW0
 have HB:=mkHid hB
 clear h1 hC cT e0 e1 e2 c0 c1 c2 c3 c4 hii hk1 hW0 hB
 have kM:=mkHid (jMatch HK.out S0.out.rs hnx)
 go_wp2_with (go_at_call 161;fail)
 rw[HW0.out,HB.out]
 refine kM.out.mono ?_
 rintro e W1 ⟨j1,y1,x1,rfl,h1,e1,hj1,hij1,hij1b,r1,s1,x1e⟩
 have S1:=mkHid (S0.out.small h1 e1)
 clear h1 e1 kM S0 HW0
 have z2:=S1.out.frz 2
 have S2:=mkHid (S1.out.pokeS 2 (.int .i64 x1) { Rf.zn 27 with mat:=x1 } rfl rfl rfl rfl)
 obtain⟨W2,hW2⟩:∃W2,W1.setCell ⟨B,2,none⟩ (.int .i64 x1)=W2:=⟨_,rfl⟩
 rw[hW2] at S2
 have HW2:=mkHid hW2
 clear hW2
 have hbk:=S1.out.blk
 have d0:W1.cell? ⟨B,0,none⟩=some (.int .i64 27):=by simp[World.cell?,hbk];try rfl
 have d1:W1.cell? ⟨B,1,none⟩=some (.int .i64 0):=by simp[World.cell?,hbk];try rfl
 have d2:W1.cell? ⟨B,2,none⟩=some (.int .i64 0):=by simp[World.cell?,hbk];try rfl
 have d3:W1.cell? ⟨B,3,none⟩=some (.string ⟨#[]⟩):=by simp[World.cell?,hbk];try rfl
 have d4:W1.cell? ⟨B,4,none⟩=some (.slice none 0 0):=by simp[World.cell?,hbk];try rfl
 have d5:W1.cell? ⟨B,5,none⟩=some (.slice none 0 0):=by simp[World.cell?,hbk];try rfl
 have d6:W1.cell? ⟨B,6,none⟩=some (.slice none 0 0):=by simp[World.cell?,hbk];try rfl
 clear hbk
 clear S1
 have kT:=mkHid (jTexts HK.out S2.out.rs hj1)
 go_wp2_with (go_at_call 160;fail)
 rw[HW2.out]
 refine kT.out.mono ?_
 rintro e W3 ⟨o3,c3,M3,j3,bd3,mn3,rfl,hO,e3,h3,hj3,hij3,r3,s3⟩
 clear d0 d1 d2 d3 d4 d5 d6 z2
 have S3:=mkHid (S2.out.small h3 e3)
 have S4:=mkHid (S2.out.setNames h3 e3 hO)
 clear hO h3 e3 kT S2 HW2
 have z4:=S3.out.frz 4
 obtain⟨W4,hW4⟩:∃W4,W3.setCell ⟨B,4,none⟩ (.slice o3 M3.length c3)=W4:=⟨_,rfl⟩
 rw[hW4] at S4
 have HW4:=mkHid hW4
 clear hW4
 have hbk:=S3.out.blk
 have d0:W3.cell? ⟨B,0,none⟩=some (.int .i64 27):=by simp[World.cell?,hbk];try rfl
 have d1:W3.cell? ⟨B,1,none⟩=some (.int .i64 0):=by simp[World.cell?,hbk];try rfl
 have d2:W3.cell? ⟨B,2,none⟩=some (.int .i64 x1):=by simp[World.cell?,hbk];try rfl
 have d3:W3.cell? ⟨B,3,none⟩=some (.string ⟨#[]⟩):=by simp[World.cell?,hbk];try rfl
 have d4:W3.cell? ⟨B,4,none⟩=some (.slice none 0 0):=by simp[World.cell?,hbk];try rfl
 have d5:W3.cell? ⟨B,5,none⟩=some (.slice none 0 0):=by simp[World.cell?,hbk];try rfl
 have d6:W3.cell? ⟨B,6,none⟩=some (.slice none 0 0):=by simp[World.cell?,hbk];try rfl
 clear hbk
 clear S3
 have kT:=mkHid (jTexts HK.out S4.out.rs hj3)
 go_wp2_with (go_at_call 160;fail)
 rw[HW4.out]
 refine kT.out.mono ?_
 rintro e W5 ⟨o5,c5,M5,j5,bd5,mn5,rfl,hO,e5,h5,hj5,hij5,r5,s5⟩
 clear d0 d1 d2 d3 d4 d5 d6 z4
 have S5:=mkHid (S4.out.small h5 e5)
 have S6:=mkHid (S4.out.setKeys h5 e5 hO)
 clear hO h5 e5 kT S4 HW4
 have z5:=S5.out.frz 5
 have hbk:=S5.out.blk
 have d0:W5.cell? ⟨B,0,none⟩=some (.int .i64 27):=by simp[World.cell?,hbk];try rfl
 have d1:W5.cell? ⟨B,1,none⟩=some (.int .i64 0):=by simp[World.cell?,hbk];try rfl
 have d2:W5.cell? ⟨B,2,none⟩=some (.int .i64 x1):=by simp[World.cell?,hbk];try rfl
 have d3:W5.cell? ⟨B,3,none⟩=some (.string ⟨#[]⟩):=by simp[World.cell?,hbk];try rfl
 have d4:W5.cell? ⟨B,4,none⟩=some (.slice o3 M3.length c3):=by simp[World.cell?,hbk];try rfl
 have d5:W5.cell? ⟨B,5,none⟩=some (.slice none 0 0):=by simp[World.cell?,hbk];try rfl
 have d6:W5.cell? ⟨B,6,none⟩=some (.slice none 0 0):=by simp[World.cell?,hbk];try rfl
 clear hbk
 clear S5
 have G1:Hid ((bd5=true→R=.bad j5)∧(bd5=false→i+2≤j5∧R=.ok j5 (E.map (·.1) ++ [{ Rf.zn 27 with mat:=x1,names:=M3,keys:=M5 }])∧mn5=((many || decide (100<M3.length)) || decide (100<M5.length)))):=by
  have r1:=r1.out
  have s1:=s1.out
  have x1e:=x1e.out
  have r3:=r3.out
  have s3:=s3.out
  have r5:=r5.out
  have s5:=s5.out
  have hh:=H0.out
  rw[HR.out,Rf.given,if_neg (by decide),hh]
  cases hm:Rf.matchOf T (i+1) with
  | none=>
   rw[hm] at r1
   simp at r1
   subst r1
   simp at s1
   subst s1
   cases bd3
   ·exact absurd (s3 rfl).1 (by decide)
   ·rcases r3 rfl with ⟨-,hj⟩|⟨h,-⟩
    ·subst hj
     cases bd5
     ·exact absurd (s5 rfl).1 (by decide)
     ·rcases r5 rfl with ⟨-,hj⟩|⟨h,-⟩
      ·subst hj
       exact⟨fun _=>rfl,fun e=>(by cases e)⟩
      ·cases h
    ·cases h
  | some m=>
   rw[hm] at r1 x1e
   simp at r1
   subst r1
   simp only[if_true] at s1 x1e
   subst s1
   simp at x1e
   subst x1e
   unfold Rf.maEnd
   cases bd3
   ·obtain⟨-,h3,h3m⟩:=s3 rfl
    show(bd5=true→(match Rf.txts T (i+2) with | .ok i' N'=>_ | .bad j=>_)=_)∧(bd5=false→i+2≤j5∧(match Rf.txts T (i+2) with | .ok i' N'=>_ | .bad j=>_)=_∧_)
    rw[show Rf.txts T (i+2)=.ok j3 M3 from h3]
    refine⟨fun e=>?_,fun e=>?_⟩
    ·rcases r5 e with ⟨h,-⟩|⟨-,h⟩
     ·cases h
     ·show(match Rf.txts T j3 with | .ok i' N'=>_ | .bad j=>_)=_
      rw[h]
    ·obtain⟨-,h5,h5m⟩:=s5 e
     refine⟨by omega,?_,by rw[h5m,h3m]⟩
     show(match Rf.txts T j3 with | .ok i' N'=>_ | .bad j=>_)=_
     rw[h5]
   ·rcases r3 rfl with ⟨h,-⟩|⟨-,h3⟩
    ·cases h
    ·cases bd5
     ·exact absurd (s5 rfl).1 (by decide)
     ·rcases r5 rfl with ⟨-,hj⟩|⟨h,-⟩
      ·subst hj
       refine⟨fun _=>?_,fun e=>(by cases e)⟩
       show(match Rf.txts T (i+2) with | .ok i' N'=>_ | .bad j=>_)=_
       rw[show Rf.txts T (i+2)=.bad j5 from h3]
      ·cases h
 clear r1 s1 x1e r3 s3 r5 s5
 have kP:=mkHid (S6.out.put (by have:=HE.out;first|omega|(simp;omega)))
 clear S6
 go_wp2_with (go_at_call 50;fail)
 refine kP.out.mono ?_
 rintro e w9 ⟨rfl,v9,h9,e9,n9,f9,g9⟩
 clear d0 d1 d2 d3 d4 d5 d6 z5 kP
 go_wp2
 go_ret
 exact⟨_,_,j5,bd5,mn5,v9,rfl,RdP.mk2 R HR.out h9 e9 n9 f9 g9 hj5 (by omega) (by simp;omega) (fun e=>⟨by have:=(G1.out.2 e).1;simp;omega,by have:=(G1.out.2 e).1;omega⟩) G1.out.1 (fun e=>⟨by rw[(G1.out.2 e).2.1];simp,by simp[Rf.last],by rw[(G1.out.2 e).2.2,Bool.or_assoc];simp[big,Rf.zn]⟩)⟩
theorem Rf.tst_31 (T:List Rf.Tk)(t:Nat→List Nd→Rf.Out)(i:Nat)(N:List Nd)(hk:Rf.kind T i=119)(hw:Rf.tstK (Rf.text T i)=31):Rf.tst T t i N=Rf.maEnd T i 31 N (Rf.matchOf T (i+1)):=by
 unfold Rf.tst
 rw[hk,hw]
 show(match Rf.matchOf T (i+1) with|some m=>_|none=>_)=_
 cases Rf.matchOf T (i+1) with
 | none=>rfl
 | some m=>
  unfold Rf.maEnd
  show(match Rf.txts T (i+2) with | .ok i' N'=>_ | .bad j=>_)=(match Rf.txts T (i+2) with | .ok i' N'=>_ | .bad j=>_)
  cases Rf.txts T (i+2) with
  | bad j=>rfl
  | ok i1 A=>
   show(match Rf.txts T i1 with | .ok i' N'=>_ | .bad j=>_)=(match Rf.txts T i1 with | .ok i' N'=>_ | .bad j=>_)
   cases Rf.txts T i1<;>rfl
theorem specTest31 (g:Nat)(tv:Value)(l:List UInt8)(T:List Rf.Tk)(TE:List TkE)(f:Nat)(t:Nat→List Nd→Rf.Out)(hK:Tks l T TE)(hT:T.length≤30000)(i:Nat)(many:Bool)(v:Value)(E:List NdE)(w:World)(h:Rs g tv TE i false many v E w)(hi:i<T.length)(_hf:T.length≤i+(f+1))(hE:E.length≤3*i+5)(hk:Rf.kind T i=119)(hw:Rf.tstK (Rf.text T i)=31) :
  Calls Tryz.prog 132 #[.pointer (some ⟨g,0,none⟩)] w fun e w'=>∃ z A i' bad' many' v',e=.returned (.int .i64 z)∧RdP g tv T TE 0 (Rf.tst T t) i false many v E w z A i' bad' many' v' w':=by
 obtain⟨R,hR⟩:∃R,R=Rf.given false i (Rf.tst T t i (E.map (·.1))):=⟨_,rfl⟩
 have HR:=mkHid hR
 have H0:=mkHid (Rf.tst_31 T t i (E.map (·.1)) hk hw)
 have hgl:=heap_ltM h.blk
 have hll:=hK.length
 have hl:=hK.len
 have hi2:i<TE.length:=by omega
 have hnx:i+1<T.length:=hK.nxt i hi (by rw[hk];decide) (by rw[hk];decide)
 have hC:∀W:World,Calls Tryz.prog 159 #[.string TE[i].2.1] W fun e w'=>e=.returned (.int .i64 31)∧w'=W:=fun W=>(specTstW TE[i].2.1 W).mono fun _ _ h=>⟨by rw[h.1,hK.text i hi2,Rf.ba_list,hw],h.2.symm⟩
 have cT:∀W:World,Below w.heap.size w W→_:=fun W hb=>specTakeY g tv TE i many v E W 119 (h.below hb) hi2 (by omega) (by rw[hK.kind i hi2];exact hk)
 have hk1:((TE[i].1:Int) != 119)=false:=by rw[bne_eq_false_iff_eq,hK.kind i hi2,hk];rfl
 obtain⟨c0,c1,c2,c3,c4⟩:=five h.blk
 obtain⟨o,cap,htv⟩:=h.tks.shape
 have htk:=h.tks
 rw[htv] at htk c0
 obtain⟨q,ho,-,-,e0,e1,e2⟩:=htk.at i hi2
 subst ho
 clear htk htv
 have hii:(i:Int)<(TE.length:Int):=by omega
 generalize TE[i].1=k1 at *
 generalize TE[i].2.1=t1 at *
 replace hC:=mkHid hC
 replace cT:=mkHid cT
 have HK:=mkHid hK
 have HE:=mkHid hE
 clear h hk hw hR hK hE
 go_enter Tryz.func132,Tryz.ntmps132
 go_wp2
 go_quiet (exact Calls.quiet_of_same (hC.out _))
 go_wp2_with (go_at_call 94;fail)
 refine(cT.out _ (Go.below_drewN (Below.refl _ _) _)).mono ?_
 rintro e w1 ⟨rfl,h1,e1⟩
 replace h1:=mkHid h1
 replace e1:=mkHid (Ef.ahead (Go.below_drewN (Below.refl _ _) _) e1)
 go_wp2_with (go_at_call 159;fail)
 refine(hC.out _).mono ?_
 rintro e w2 ⟨rfl,rfl⟩
 obtain⟨B,hB⟩:∃B,w2.heap.size=B:=⟨_,rfl⟩
 have S0:=mkHid (Fm.start hgl h1.out e1.out 31)
 rw[hB] at S0
 obtain⟨W0,hW0⟩:∃W0,w2.alloc (.cells #[.int .i64 31,.int .i64 0,.int .i64 0,.string ⟨#[]⟩,.slice none 0 0,.slice none 0 0,.slice none 0 0] 109)=W0:=⟨_,rfl⟩
 rw[show w2.alloc (.cells (sevC (Rf.zn 31) (.slice none 0 0) (.slice none 0 0) (.slice none 0 0)) 109)=W0 from hW0] at S0
 have HW0:=mkHid hW0
 have HB:=mkHid hB
 clear h1 hC cT e0 e1 e2 c0 c1 c2 c3 c4 hii hk1 hW0 hB
 have kM:=mkHid (jMatch HK.out S0.out.rs hnx)
 go_wp2_with (go_at_call 161;fail)
 rw[HW0.out,HB.out]
 refine kM.out.mono ?_
 rintro e W1 ⟨j1,y1,x1,rfl,h1,e1,hj1,hij1,hij1b,r1,s1,x1e⟩
 have S1:=mkHid (S0.out.small h1 e1)
 clear h1 e1 kM S0 HW0
 have z2:=S1.out.frz 2
 have S2:=mkHid (S1.out.pokeS 2 (.int .i64 x1) { Rf.zn 31 with mat:=x1 } rfl rfl rfl rfl)
 obtain⟨W2,hW2⟩:∃W2,W1.setCell ⟨B,2,none⟩ (.int .i64 x1)=W2:=⟨_,rfl⟩
 rw[hW2] at S2
 have HW2:=mkHid hW2
 clear hW2
 have hbk:=S1.out.blk
 have d0:W1.cell? ⟨B,0,none⟩=some (.int .i64 31):=by simp[World.cell?,hbk];try rfl
 have d1:W1.cell? ⟨B,1,none⟩=some (.int .i64 0):=by simp[World.cell?,hbk];try rfl
 have d2:W1.cell? ⟨B,2,none⟩=some (.int .i64 0):=by simp[World.cell?,hbk];try rfl
 have d3:W1.cell? ⟨B,3,none⟩=some (.string ⟨#[]⟩):=by simp[World.cell?,hbk];try rfl
 have d4:W1.cell? ⟨B,4,none⟩=some (.slice none 0 0):=by simp[World.cell?,hbk];try rfl
 have d5:W1.cell? ⟨B,5,none⟩=some (.slice none 0 0):=by simp[World.cell?,hbk];try rfl
 have d6:W1.cell? ⟨B,6,none⟩=some (.slice none 0 0):=by simp[World.cell?,hbk];try rfl
 clear hbk
 clear S1
 have kT:=mkHid (jTexts HK.out S2.out.rs hj1)
 go_wp2_with (go_at_call 160;fail)
 rw[HW2.out]
 refine kT.out.mono ?_
 rintro e W3 ⟨o3,c3,M3,j3,bd3,mn3,rfl,hO,e3,h3,hj3,hij3,r3,s3⟩
 clear d0 d1 d2 d3 d4 d5 d6 z2
 have S3:=mkHid (S2.out.small h3 e3)
 have S4:=mkHid (S2.out.setNames h3 e3 hO)
 clear hO h3 e3 kT S2 HW2
 have z4:=S3.out.frz 4
 obtain⟨W4,hW4⟩:∃W4,W3.setCell ⟨B,4,none⟩ (.slice o3 M3.length c3)=W4:=⟨_,rfl⟩
 rw[hW4] at S4
 have HW4:=mkHid hW4
 clear hW4
 have hbk:=S3.out.blk
 have d0:W3.cell? ⟨B,0,none⟩=some (.int .i64 31):=by simp[World.cell?,hbk];try rfl
 have d1:W3.cell? ⟨B,1,none⟩=some (.int .i64 0):=by simp[World.cell?,hbk];try rfl
 have d2:W3.cell? ⟨B,2,none⟩=some (.int .i64 x1):=by simp[World.cell?,hbk];try rfl
 have d3:W3.cell? ⟨B,3,none⟩=some (.string ⟨#[]⟩):=by simp[World.cell?,hbk];try rfl
 have d4:W3.cell? ⟨B,4,none⟩=some (.slice none 0 0):=by simp[World.cell?,hbk];try rfl
 have d5:W3.cell? ⟨B,5,none⟩=some (.slice none 0 0):=by simp[World.cell?,hbk];try rfl
 have d6:W3.cell? ⟨B,6,none⟩=some (.slice none 0 0):=by simp[World.cell?,hbk];try rfl
 clear hbk
 clear S3
 have kT:=mkHid (jTexts HK.out S4.out.rs hj3)
 go_wp2_with (go_at_call 160;fail)
 rw[HW4.out]
 refine kT.out.mono ?_
 rintro e W5 ⟨o5,c5,M5,j5,bd5,mn5,rfl,hO,e5,h5,hj5,hij5,r5,s5⟩
 clear d0 d1 d2 d3 d4 d5 d6 z4
 have S5:=mkHid (S4.out.small h5 e5)
 have S6:=mkHid (S4.out.setKeys h5 e5 hO)
 clear hO h5 e5 kT S4 HW4
 have z5:=S5.out.frz 5
 have hbk:=S5.out.blk
 have d0:W5.cell? ⟨B,0,none⟩=some (.int .i64 31):=by simp[World.cell?,hbk];try rfl
 have d1:W5.cell? ⟨B,1,none⟩=some (.int .i64 0):=by simp[World.cell?,hbk];try rfl
 have d2:W5.cell? ⟨B,2,none⟩=some (.int .i64 x1):=by simp[World.cell?,hbk];try rfl
 have d3:W5.cell? ⟨B,3,none⟩=some (.string ⟨#[]⟩):=by simp[World.cell?,hbk];try rfl
 have d4:W5.cell? ⟨B,4,none⟩=some (.slice o3 M3.length c3):=by simp[World.cell?,hbk];try rfl
 have d5:W5.cell? ⟨B,5,none⟩=some (.slice none 0 0):=by simp[World.cell?,hbk];try rfl
 have d6:W5.cell? ⟨B,6,none⟩=some (.slice none 0 0):=by simp[World.cell?,hbk];try rfl
 clear hbk
 clear S5
 have G1:Hid ((bd5=true→R=.bad j5)∧(bd5=false→i+2≤j5∧R=.ok j5 (E.map (·.1) ++ [{ Rf.zn 31 with mat:=x1,names:=M3,keys:=M5 }])∧mn5=((many || decide (100<M3.length)) || decide (100<M5.length)))):=by
  have r1:=r1.out
  have s1:=s1.out
  have x1e:=x1e.out
  have r3:=r3.out
  have s3:=s3.out
  have r5:=r5.out
  have s5:=s5.out
  have hh:=H0.out
  rw[HR.out,Rf.given,if_neg (by decide),hh]
  cases hm:Rf.matchOf T (i+1) with
  | none=>
   rw[hm] at r1
   simp at r1
   subst r1
   simp at s1
   subst s1
   cases bd3
   ·exact absurd (s3 rfl).1 (by decide)
   ·rcases r3 rfl with ⟨-,hj⟩|⟨h,-⟩
    ·subst hj
     cases bd5
     ·exact absurd (s5 rfl).1 (by decide)
     ·rcases r5 rfl with ⟨-,hj⟩|⟨h,-⟩
      ·subst hj
       exact⟨fun _=>rfl,fun e=>(by cases e)⟩
      ·cases h
    ·cases h
  | some m=>
   rw[hm] at r1 x1e
   simp at r1
   subst r1
   simp only[if_true] at s1 x1e
   subst s1
   simp at x1e
   subst x1e
   unfold Rf.maEnd
   cases bd3
   ·obtain⟨-,h3,h3m⟩:=s3 rfl
    show(bd5=true→(match Rf.txts T (i+2) with | .ok i' N'=>_ | .bad j=>_)=_)∧(bd5=false→i+2≤j5∧(match Rf.txts T (i+2) with | .ok i' N'=>_ | .bad j=>_)=_∧_)
    rw[show Rf.txts T (i+2)=.ok j3 M3 from h3]
    refine⟨fun e=>?_,fun e=>?_⟩
    ·rcases r5 e with ⟨h,-⟩|⟨-,h⟩
     ·cases h
     ·show(match Rf.txts T j3 with | .ok i' N'=>_ | .bad j=>_)=_
      rw[h]
    ·obtain⟨-,h5,h5m⟩:=s5 e
     refine⟨by omega,?_,by rw[h5m,h3m]⟩
     show(match Rf.txts T j3 with | .ok i' N'=>_ | .bad j=>_)=_
     rw[h5]
   ·rcases r3 rfl with ⟨h,-⟩|⟨-,h3⟩
    ·cases h
    ·cases bd5
     ·exact absurd (s5 rfl).1 (by decide)
     ·rcases r5 rfl with ⟨-,hj⟩|⟨h,-⟩
      ·subst hj
       refine⟨fun _=>?_,fun e=>(by cases e)⟩
       show(match Rf.txts T (i+2) with | .ok i' N'=>_ | .bad j=>_)=_
       rw[show Rf.txts T (i+2)=.bad j5 from h3]
      ·cases h
 clear r1 s1 x1e r3 s3 r5 s5
 have kP:=mkHid (S6.out.put (by have:=HE.out;first|omega|(simp;omega)))
 clear S6
 go_wp2_with (go_at_call 50;fail)
 refine kP.out.mono ?_
 rintro e w9 ⟨rfl,v9,h9,e9,n9,f9,g9⟩
 clear d0 d1 d2 d3 d4 d5 d6 z5 kP
 go_wp2
 go_ret
 exact⟨_,_,j5,bd5,mn5,v9,rfl,RdP.mk2 R HR.out h9 e9 n9 f9 g9 hj5 (by omega) (by simp;omega) (fun e=>⟨by have:=(G1.out.2 e).1;simp;omega,by have:=(G1.out.2 e).1;omega⟩) G1.out.1 (fun e=>⟨by rw[(G1.out.2 e).2.1];simp,by simp[Rf.last],by rw[(G1.out.2 e).2.2,Bool.or_assoc];simp[big,Rf.zn]⟩)⟩
end Go.Proofs.YtkcajnjledldnaaGreatDoor
