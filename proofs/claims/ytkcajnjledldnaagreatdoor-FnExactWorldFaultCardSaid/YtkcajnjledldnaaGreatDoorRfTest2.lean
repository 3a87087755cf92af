import Derived.Test.YtkcajnjledldnaaGreatDoorTk
import Derived.Test.YtkcajnjledldnaaGreatDoorRfJoin
set_option maxRecDepth 20000
set_option maxHeartbeats 8000000
namespace Go.Proofs.YtkcajnjledldnaaGreatDoor
open Go.RowKit Go.Lib Go.Maps
section
variable {g:Nat} {tv:Value} {T:List Rf.Tk} {TE:List TkE} {v v':Value} {E A:List NdE} {w wr:World} {b:Nat} {n:Nd} {vn vk vd:Value} {i:Nat} {bad many:Bool}
theorem Fm.setNames {j:Nat} {bd mn:Bool} {w1:World} {x:Value} {M:List ByteArray} (h:Fm g tv TE v E w b n vn vk vd i bad many v' A wr)(h1:Rs g tv TE j bd mn v' (E++A) w1)(e1:Ef g none wr w1)(hO:OwnX wr.heap.size x M w1) :
  Fm g tv TE v E w b { n with names:=M } x vk vd j bd mn v' A (w1.setCell ⟨b,4,none⟩ x):=by
 have h':=h.small h1 e1
 have far:∀k,x.ownBlock=some k→wr.heap.size≤k:=fun k hk=>(World.ownsRow.lt hO k hk).1
 refine h'.poke 4 x { n with names:=M } x vk vd rfl (own_base hO h.ef.size) h'.ok h'.od ?_ ?_ h'.fk h'.fd
 ·cases hx:x.ownBlock with
  | none=>exact .inl rfl
  | some k=>exact .inr (fun e=>by have:=(World.ownsRow.lt h.ok k e.symm).2;have:=far k hx;omega)
 ·intro s hs
  by_cases hn:s.2=[]
  ·exact .inl hn
  ·right
   cases ho:s.1.ownBlock with
   | none=>exact .inl rfl
   | some k=>exact .inr (fun e=>by have:=slot_lt h.rs.nt s hs hn k ho;have:=far k e.symm;omega)
theorem Fm.setKeys {j:Nat} {bd mn:Bool} {w1:World} {x:Value} {M:List ByteArray} (h:Fm g tv TE v E w b n vn vk vd i bad many v' A wr)(h1:Rs g tv TE j bd mn v' (E++A) w1)(e1:Ef g none wr w1)(hO:OwnX wr.heap.size x M w1) :
  Fm g tv TE v E w b { n with keys:=M } vn x vd j bd mn v' A (w1.setCell ⟨b,5,none⟩ x):=by
 have h':=h.small h1 e1
 have far:∀k,x.ownBlock=some k→wr.heap.size≤k:=fun k hk=>(World.ownsRow.lt hO k hk).1
 refine h'.poke 5 x { n with keys:=M } vn x vd rfl h'.on (own_base hO h.ef.size) h'.od ?_ h'.fn ?_ h'.fd
 ·cases hx:vn.ownBlock with
  | none=>exact .inl rfl
  | some k=>exact .inr (fun e=>by have:=(World.ownsRow.lt h.on k hx).2;have:=far k e.symm;omega)
 ·intro s hs
  by_cases hn:s.2=[]
  ·exact .inl hn
  ·right
   cases ho:s.1.ownBlock with
   | none=>exact .inl rfl
   | some k=>exact .inr (fun e=>by have:=slot_lt h.rs.nt s hs hn k ho;have:=far k e.symm;omega)
theorem Fm.frz (h:Fm g tv TE v E w b n vn vk vd i bad many v' A wr)(j:Nat):wr.frozen? ⟨b,j,none⟩=false:=by simp[World.frozen?,h.blk]
end
theorem Rf.tst_20 (T:List Rf.Tk)(t:Nat→List Nd→Rf.Out)(i:Nat)(N:List Nd)(hk:Rf.kind T i=119)(hw:Rf.tstK (Rf.text T i)=20):Rf.tst T t i N=.ok (i+1) (N ++ [Rf.zn 20]):=by
 unfold Rf.tst
 rw[hk,hw]
 rfl
theorem Rf.tst_21 (T:List Rf.Tk)(t:Nat→List Nd→Rf.Out)(i:Nat)(N:List Nd)(hk:Rf.kind T i=119)(hw:Rf.tstK (Rf.text T i)=21):Rf.tst T t i N=.ok (i+1) (N ++ [Rf.zn 21]):=by
 unfold Rf.tst
 rw[hk,hw]
 rfl
theorem specTest20 (g:Nat)(tv:Value)(l:List UInt8)(T:List Rf.Tk)(TE:List TkE)(f:Nat)(t:Nat→List Nd→Rf.Out)(hK:Tks l T TE)(hT:T.length≤30000)(i:Nat)(many:Bool)(v:Value)(E:List NdE)(w:World)(h:Rs g tv TE i false many v E w)(hi:i<T.length)(_hf:T.length≤i+(f+1))(hE:E.length≤3*i+5)(hk:Rf.kind T i=119)(hw:Rf.tstK (Rf.text T i)=20) :
  Calls Tryz.prog 132 #[.pointer (some ⟨g,0,none⟩)] w fun e w'=>∃ z A i' bad' many' v',e=.returned (.int .i64 z)∧RdP g tv T TE 0 (Rf.tst T t) i false many v E w z A i' bad' many' v' w':=by
 obtain⟨R,hR⟩:∃R,R=Rf.given false i (Rf.tst T t i (E.map (·.1))):=⟨_,rfl⟩
 have HR:=mkHid hR
 have H0:=mkHid (Rf.tst_20 T t i (E.map (·.1)) hk hw)
 have hgl:=heap_ltM h.blk
 have hll:=hK.length
 have hl:=hK.len
 have hi2:i<TE.length:=by omega
 have hnx:i+1<T.length:=hK.nxt i hi (by rw[hk];decide) (by rw[hk];decide)
 have hC:∀W:World,Calls Tryz.prog 159 #[.string TE[i].2.1] W fun e w'=>e=.returned (.int .i64 20)∧w'=W:=fun W=>(specTstW TE[i].2.1 W).mono fun _ _ h=>⟨by rw[h.1,hK.text i hi2,Rf.ba_list,hw],h.2.symm⟩
 have cT:∀W:World,Below w.heap.size w W→_:=fun W hb=>specTakeY g tv TE i many v E W 119 (h.below hb) hi2 (by omega) (by rw[hK.kind i hi2];exact hk)
 have hk1:((TE[i].1:Int) != 119)=false:=by rw[bne_eq_false_iff_eq,hK.kind i hi2,hk];rfl
 obtain⟨c0,c1,c2,c3,c4⟩:=five h.blk
 obtain⟨o,cap,htv⟩:=h.tks.shape
 have htk:=h.tks
 rw[htv] at htk c0
 obtain⟨q,ho,-,-,e0,e1,e2⟩:=htk.at i hi2
 subst ho
 clear htk htv
 have hii:(i:Int)<(TE.length:Int):=by omega
 generalize TE[i].1=k1 at *
 generalize TE[i].2.1=t1 at *
 replace hC:=mkHid hC
 replace cT:=mkHid cT
 have HK:=mkHid hK
 have HE:=mkHid hE
 clear h hk hw hR hK hE
 go_enter Tryz.func132,Tryz.ntmps132
 go_wp2
 go_quiet (exact Calls.quiet_of_same (hC.out _))
 go_wp2_with (go_at_call 94;fail)
 refine(cT.out _ (Go.below_drewN (Below.refl _ _) _)).mono ?_
 rintro e w1 ⟨rfl,h1,e1⟩
 replace h1:=mkHid h1
 replace e1:=mkHid (Ef.ahead (Go.below_drewN (Below.refl _ _) _) e1)
 go_wp2_with (go_at_call 159;fail)
 refine(hC.out _).mono ?_
 rintro e w2 ⟨rfl,rfl⟩
 obtain⟨B,hB⟩:∃B,w2.heap.size=B:=⟨_,rfl⟩
 have S0:=mkHid (Fm.start hgl h1.out e1.out 20)
 rw[hB] at S0
 obtain⟨W0,hW0⟩:∃W0,w2.alloc (.cells #[.int .i64 20,.int .i64 0,.int .i64 0,.string ⟨#[]⟩,.slice none 0 0,.slice none 0 0,.slice none 0 0] 109)=W0:=⟨_,rfl⟩
 rw[show w2.alloc (.cells (sevC (Rf.zn 20) (.slice none 0 0) (.slice none 0 0) (.slice none 0 0)) 109)=W0 from hW0] at S0
 have HW0:=mkHid hW0
 have HB:=mkHid hB
 clear h1 hC cT e0 e1 e2 c0 c1 c2 c3 c4 hii hk1 hW0 hB
 have hbk:=S0.out.blk
 have d0:W0.cell? ⟨B,0,none⟩=some (.int .i64 20):=by simp[World.cell?,hbk];try rfl
 have d1:W0.cell? ⟨B,1,none⟩=some (.int .i64 0):=by simp[World.cell?,hbk];try rfl
 have d2:W0.cell? ⟨B,2,none⟩=some (.int .i64 0):=by simp[World.cell?,hbk];try rfl
 have d3:W0.cell? ⟨B,3,none⟩=some (.string ⟨#[]⟩):=by simp[World.cell?,hbk];try rfl
 have d4:W0.cell? ⟨B,4,none⟩=some (.slice none 0 0):=by simp[World.cell?,hbk];try rfl
 have d5:W0.cell? ⟨B,5,none⟩=some (.slice none 0 0):=by simp[World.cell?,hbk];try rfl
 have d6:W0.cell? ⟨B,6,none⟩=some (.slice none 0 0):=by simp[World.cell?,hbk];try rfl
 clear hbk
 go_wp2_with fail
 rw[HW0.out,HB.out]
 have kP:=mkHid (S0.out.put (by have:=HE.out;first|omega|(simp;omega)))
 clear S0
 go_wp2_with (go_at_call 50;fail)
 refine kP.out.mono ?_
 rintro e w9 ⟨rfl,v9,h9,e9,n9,f9,g9⟩
 clear d0 d1 d2 d3 d4 d5 d6 kP
 go_wp2
 go_ret
 exact⟨_,_,i+1,false,many,v9,rfl,RdP.mk2 R HR.out h9 e9 n9 f9 g9 hnx (by omega) (by simp;omega) (fun _=>⟨by simp;omega,by omega⟩) (fun e=>(by cases e)) (fun _=>⟨by rw[HR.out,Rf.given,if_neg (by decide),H0.out];simp,by simp[Rf.last],by simp[big,Rf.zn]⟩)⟩
theorem specTest21 (g:Nat)(tv:Value)(l:List UInt8)(T:List Rf.Tk)(TE:List TkE)(f:Nat)(t:Nat→List Nd→Rf.Out)(hK:Tks l T TE)(hT:T.length≤30000)(i:Nat)(many:Bool)(v:Value)(E:List NdE)(w:World)(h:Rs g tv TE i false many v E w)(hi:i<T.length)(_hf:T.length≤i+(f+1))(hE:E.length≤3*i+5)(hk:Rf.kind T i=119)(hw:Rf.tstK (Rf.text T i)=21) :
  Calls Tryz.prog 132 #[.pointer (some ⟨g,0,none⟩)] w fun e w'=>∃ z A i' bad' many' v',e=.returned (.int .i64 z)∧RdP g tv T TE 0 (Rf.tst T t) i false many v E w z A i' bad' many' v' w':=by
 obtain⟨R,hR⟩:∃R,R=Rf.given false i (Rf.tst T t i (E.map (·.1))):=⟨_,rfl⟩
 have HR:=mkHid hR
 have H0:=mkHid (Rf.tst_21 T t i (E.map (·.1)) hk hw)
 have hgl:=heap_ltM h.blk
 have hll:=hK.length
 have hl:=hK.len
 have hi2:i<TE.length:=by omega
 have hnx:i+1<T.length:=hK.nxt i hi (by rw[hk];decide) (by rw[hk];decide)
 have hC:∀W:World,Calls Tryz.prog 159 #[.string TE[i].2.1] W fun e w'=>e=.returned (.int .i64 21)∧w'=W:=fun W=>(specTstW TE[i].2.1 W).mono fun _ _ h=>⟨by rw[h.1,hK.text i hi2,Rf.ba_list,hw],h.2.symm⟩
 have cT:∀W:World,Below w.heap.size w W→_:=fun W hb=>specTakeY g tv TE i many v E W 119 (h.below hb) hi2 (by omega) (by rw[hK.kind i hi2];exact hk)
 have hk1:((TE[i].1:Int) != 119)=false:=by rw[bne_eq_false_iff_eq,hK.kind i hi2,hk];rfl
 obtain⟨c0,c1,c2,c3,c4⟩:=five h.blk
 obtain⟨o,cap,htv⟩:=h.tks.shape
 have htk:=h.tks
 rw[htv] at htk c0
 obtain⟨q,ho,-,-,e0,e1,e2⟩:=htk.at i hi2
 subst ho
 clear htk htv
 have hii:(i:Int)<(TE.length:Int):=by omega
 generalize TE[i].1=k1 at *
 generalize TE[i].2.1=t1 at *
 replace hC:=mkHid hC
 replace cT:=mkHid cT
 have HK:=mkHid hK
 have HE:=mkHid hE
 clear h hk hw hR hK hE
 go_enter Tryz.func132,Tryz.ntmps132
 go_wp2
 go_quiet (exact Calls.quiet_of_same (hC.out _))
 go_wp2_with (go_at_call 94;fail)
 refine(cT.out _ (Go.below_drewN (Below.refl _ _) _)).mono ?_
 rintro e w1 ⟨rfl,h1,e1⟩
 replace h1:=mkHid h1
 replace e1:=mkHid (Ef.ahead (Go.below_drewN (Below.refl _ _) _) e1)
 go_wp2_with (go_at_call 159;fail)
 refine(hC.out _).mono ?_
 rintro e w2 ⟨rfl,rfl⟩
 obtain⟨B,hB⟩:∃B,w2.heap.size=B:=⟨_,rfl⟩
 have S0:=mkHid (Fm.start hgl h1.out e1.out 21)
 rw[hB] at S0
 obtain⟨W0,hW0⟩:∃W0,w2.alloc (.cells #[.int .i64 21,.int .i64 0,.int .i64 0,.string ⟨#[]⟩,.slice none 0 0,.slice none 0 0,.slice none 0 0] 109)=W0:=⟨_,rfl⟩
 rw[show w2.alloc (.cells (sevC (Rf.zn 21) (.slice none 0 0) (.slice none 0 0) (.slice none 0 0)) 109)=W0 from hW0] at S0
 have HW0:=mkHid hW0
 have HB:=mkHid hB
 clear h1 hC cT e0 e1 e2 c0 c1 c2 c3 c4 hii hk1 hW0 hB
 have hbk:=S0.out.blk
 have d0:W0.cell? ⟨B,0,none⟩=some (.int .i64 21):=by simp[World.cell?,hbk];try rfl
 have d1:W0.cell? ⟨B,1,none⟩=some (.int .i64 0):=by simp[World.cell?,hbk];try rfl
 have d2:W0.cell? ⟨B,2,none⟩=some (.int .i64 0):=by simp[World.cell?,hbk];try rfl
 have d3:W0.cell? ⟨B,3,none⟩=some (.string ⟨#[]⟩):=by simp[World.cell?,hbk];try rfl
 have d4:W0.cell? ⟨B,4,none⟩=some (.slice none 0 0):=by simp[World.cell?,hbk];try rfl
 have d5:W0.cell? ⟨B,5,none⟩=some (.slice none 0 0):=by simp[World.cell?,hbk];try rfl
 have d6:W0.cell? ⟨B,6,none⟩=some (.slice none 0 0):=by simp[World.cell?,hbk];try rfl
 clear hbk
 go_wp2_with fail
 rw[HW0.out,HB.out]
 have kP:=mkHid (S0.out.put (by have:=HE.out;first|omega|(simp;omega)))
 clear S0
 go_wp2_with (go_at_call 50;fail)
 refine kP.out.mono ?_
 rintro e w9 ⟨rfl,v9,h9,e9,n9,f9,g9⟩
 clear d0 d1 d2 d3 d4 d5 d6 kP
 go_wp2
 go_ret
 exact⟨_,_,i+1,false,many,v9,rfl,RdP.mk2 R HR.out h9 e9 n9 f9 g9 hnx (by omega) (by simp;omega) (fun _=>⟨by simp;omega,by omega⟩) (fun e=>(by cases e)) (fun _=>⟨by rw[HR.out,Rf.given,if_neg (by decide),H0.out];simp,by simp[Rf.last],by simp[big,Rf.zn]⟩)⟩
def Rf.notEnd:Rf.Out→Rf.Out
 | .ok i' N'=>.ok i' (N' ++ [{ Rf.zn 22 with kids:=[Rf.last N'] }])
 | .bad j=>.bad j
theorem Rf.tst_22 (T:List Rf.Tk)(t:Nat→List Nd→Rf.Out)(i:Nat)(N:List Nd)(hk:Rf.kind T i=119)(hw:Rf.tstK (Rf.text T i)=22):Rf.tst T t i N=Rf.notEnd (t (i+1) N):=by
 unfold Rf.tst
 rw[hk,hw]
 show(match t (i+1) N with | .ok i' N'=>_ | .bad j=>_)=_
 cases t (i+1) N<;>rfl
theorem specTest22 (g:Nat)(tv:Value)(l:List UInt8)(T:List Rf.Tk)(TE:List TkE)(f:Nat)(t:Nat→List Nd→Rf.Out)(hK:Tks l T TE)(hT:T.length≤30000)(hTst:RdC 132 g tv T TE 0 f t)(i:Nat)(many:Bool)(v:Value)(E:List NdE)(w:World)(h:Rs g tv TE i false many v E w)(hi:i<T.length)(hf:T.length≤i+(f+1))(hE:E.length≤3*i+5)(hk:Rf.kind T i=119)(hw:Rf.tstK (Rf.text T i)=22) :
  Calls Tryz.prog 132 #[.pointer (some ⟨g,0,none⟩)] w fun e w'=>∃ z A i' bad' many' v',e=.returned (.int .i64 z)∧RdP g tv T TE 0 (Rf.tst T t) i false many v E w z A i' bad' many' v' w':=by
 obtain⟨R,hR⟩:∃R,R=Rf.given false i (Rf.tst T t i (E.map (·.1))):=⟨_,rfl⟩
 have HR:=mkHid hR
 have H0:=mkHid (Rf.tst_22 T t i (E.map (·.1)) hk hw)
 have hgl:=heap_ltM h.blk
 have hll:=hK.length
 have hl:=hK.len
 have hi2:i<TE.length:=by omega
 have hnx:i+1<T.length:=hK.nxt i hi (by rw[hk];decide) (by rw[hk];decide)
 have hC:∀W:World,Calls Tryz.prog 159 #[.string TE[i].2.1] W fun e w'=>e=.returned (.int .i64 22)∧w'=W:=fun W=>(specTstW TE[i].2.1 W).mono fun _ _ h=>⟨by rw[h.1,hK.text i hi2,Rf.ba_list,hw],h.2.symm⟩
 have cT:∀W:World,Below w.heap.size w W→_:=fun W hb=>specTakeY g tv TE i many v E W 119 (h.below hb) hi2 (by omega) (by rw[hK.kind i hi2];exact hk)
 have hk1:((TE[i].1:Int) != 119)=false:=by rw[bne_eq_false_iff_eq,hK.kind i hi2,hk];rfl
 obtain⟨c0,c1,c2,c3,c4⟩:=five h.blk
 obtain⟨o,cap,htv⟩:=h.tks.shape
 have htk:=h.tks
 rw[htv] at htk c0
 obtain⟨q,ho,-,-,e0,e1,e2⟩:=htk.at i hi2
 subst ho
 clear htk htv
 have hii:(i:Int)<(TE.length:Int):=by omega
 generalize TE[i].1=k1 at *
 generalize TE[i].2.1=t1 at *
 replace hC:=mkHid hC
 replace cT:=mkHid cT
 have HK:=mkHid hK
 have HE:=mkHid hE
 have HTst:=mkHid hTst
 clear hTst
 clear h hk hw hR hK hE
 go_enter Tryz.func132,Tryz.ntmps132
 go_wp2
 go_quiet (exact Calls.quiet_of_same (hC.out _))
 go_wp2_with (go_at_call 94;fail)
 refine(cT.out _ (Go.below_drewN (Below.refl _ _) _)).mono ?_
 rintro e w1 ⟨rfl,h1,e1⟩
 replace h1:=mkHid h1
 replace e1:=mkHid (Ef.ahead (Go.below_drewN (Below.refl _ _) _) e1)
 go_wp2_with (go_at_call 159;fail)
 refine(hC.out _).mono ?_
 rintro e w2 ⟨rfl,rfl⟩
 obtain⟨B,hB⟩:∃B,w2.heap.size=B:=⟨_,rfl⟩
 have S0:=mkHid (Fm.start hgl h1.out e1.out 22)
 rw[hB] at S0
 obtain⟨W0,hW0⟩:∃W0,w2.alloc (.cells #[.int .i64 22,.int .i64 0,.int .i64 0,.string ⟨#[]⟩,.slice none 0 0,.slice none 0 0,.slice none 0 0] 109)=W0:=⟨_,rfl⟩
 rw[show w2.alloc (.cells (sevC (Rf.zn 22) (.slice none 0 0) (.slice none 0 0) (.slice none 0 0)) 109)=W0 from hW0] at S0
 have HW0:=mkHid hW0
 have HB:=mkHid hB
 clear h1 hC cT e0 e1 e2 c0 c1 c2 c3 c4 hii hk1 hW0 hB
 obtain⟨ks0,A0,vd0,hks0,hA0,S0⟩:∃(ks0:List Int) (A0:List NdE) (vd0:Value),Hid (ks0=[])∧Hid (A0=[])∧Hid (Fm g tv TE v E w B { Rf.zn 22 with kids:=ks0 } (.slice none 0 0) (.slice none 0 0) vd0 (i+1) false many v A0 W0):=⟨[],[],.slice none 0 0,rfl,rfl,S0⟩
 have hl0:A0.length<1:=by rw[hA0.out];decide
 have hk0:ks0.length≤5:=by rw[hks0.out];decide
 go_wp2
 rw[HW0.out,HB.out]
 obtain⟨RR,hRR⟩:∃RR:Act→Act→World→Prop,RR=(fun a a' w'=>∃ (z1:Int) (X1:List NdE) (j1:Nat) (bd1 mn1:Bool) (v1 vd1:Value) (hh1:Nat) (u1:World),a'=(((((((a.put (some 48) (.pointer (some ⟨B,6,none⟩))).put (some 49) vd0).put (some 50) (.pointer (some ⟨g,0,none⟩))).put (some 51) (.int .i64 z1)).put (some 52) (.slice (some ⟨hh1,0,none⟩) 1 1)).put (some 53) vd1).put (some 54) (.pointer (some ⟨B,6,none⟩)))∧Hid (Fm g tv TE v E w B { Rf.zn 22 with kids:=ks0 ++ [z1] } (.slice none 0 0) (.slice none 0 0) vd1 j1 bd1 mn1 v1 (A0++X1) w')∧Hid (RdP g tv T TE 0 t (i+1) false many v (E++A0) W0.drew z1 X1 j1 bd1 mn1 v1 u1)):=⟨_,rfl⟩
 have HRR:=mkHid hRR
 clear hRR
 refine wp_cut RR ?_ ?_
 ·have SD:=mkHid (S0.out.small (S0.out.rs.below (below_drew (Below.refl _ _))) (Ef.of_below (below_drew (Below.refl _ _))))
  have kC:=mkHid (HTst.out (i+1) false many v (E++A0) W0.drew SD.out.rs hnx (by omega) (by have:=HE.out;rw[List.length_append];omega))
  obtain⟨oD,cD,eD⟩:=own_shape S0.out.od
  subst eD
  have y0:W0.cell? ⟨B,6,none⟩=some (.slice oD ks0.length cD):=by simp[World.cell?,S0.out.blk]
  refine wp_region_any (by kernel_rfl) ?_
  refine ta 0 (.pointer (some ⟨B,6,none⟩)) (hQ:=fun _ _ _ h=>nomatch h.1) ?_ ?_
  ·intro w
   go_simp
   all_goals omega
  go_simp
  refine ta 2 (.pointer (some ⟨g,0,none⟩)) (hQ:=fun _ _ _ h=>nomatch h.1) ?_ ?_
  ·intro w
   go_simp
   all_goals omega
  go_simp
  refine wpAny_ready (rs:=[1,3]) (by kernel_rfl) (by simp) ?_
  refine AllReady.cons rfl (fun K hK=>?_) (AllReady.cons rfl (fun K hK=>?_) AllReady.nil)
  ·skip
   go_simp
   refine hK _ _ ?_
   clear hK K
   go_simp
   refine r1 3 (fun K hK=>?_)
   go_simp
   refine kC.out.mono ?_
   rintro e u1 ⟨z1,X1,j1,bd1,mn1,v1,rfl,hp⟩
   have S3:=mkHid (SD.out.call hp)
   have P1:=mkHid hp
   clear hp
   have y3:u1.cell? ⟨B,6,none⟩=some (.slice oD ks0.length cD):=by simp[World.cell?,S3.out.blk]
   have y4:(u1.alloc (.cells #[.int .i64 z1] 2)).cell? ⟨B,6,none⟩=some (.slice oD ks0.length cD):=(World.cell?_of_block (((Below.refl u1.heap.size u1).alloc (Nat.le_refl _) _).block B (heap_ltM S3.out.blk))).trans y3
   go_simp
   refine hK _ _ ?_
   clear hK K
   go_simp
   refine r1 4 (fun K hK=>?_)
   go_simp
   refine hK _ _ ?_
   clear hK K
   go_simp
   refine r1 5 (fun K hK=>?_)
   refine opAppKd _ _ rfl w.heap.size (.slice oD ks0.length cD) ks0 rfl (S3.out.od.below ((Below.refl _ _).alloc (Nat.le_refl _) _)) z1 u1.heap.size 1 rfl (by simp) (by omega) (by have:=S3.out.ef.size;simp;omega) ?_
   intro vd1 w4 ho4 hg4 hn4
   obtain⟨x6,z6,s5⟩:=S3.out.kid ho4 hg4 hn4
   obtain⟨o5,c5,e5⟩:=own_shape ho4
   rw[List.length_append,List.length_singleton] at e5
   subst e5
   have S1:=mkHid s5
   clear s5 ho4 hg4 hn4
   refine hK _ _ ?_
   clear hK K
   go_simp
   refine ta 6 (.pointer (some ⟨B,6,none⟩)) (hQ:=fun _ _ _ h=>nomatch h.1) ?_ ?_
   ·intro w
    go_simp
    all_goals omega
   go_simp
   refine r1 7 (fun K hK=>?_)
   go_simp
   refine hK _ _ ?_
   clear hK K
   go_simp
   refine wpAny_done (by kernel_rfl) ?_ _
   first|refine⟨rfl,?_⟩|skip
   rw[HRR.out]
   exact⟨z1,X1,j1,bd1,mn1,v1,.slice o5 (ks0.length+1) c5,u1.heap.size,u1,by kernel_rfl,S1,P1⟩
  ·skip
   go_simp
   refine kC.out.mono ?_
   rintro e u1 ⟨z1,X1,j1,bd1,mn1,v1,rfl,hp⟩
   have S3:=mkHid (SD.out.call hp)
   have P1:=mkHid hp
   clear hp
   have y3:u1.cell? ⟨B,6,none⟩=some (.slice oD ks0.length cD):=by simp[World.cell?,S3.out.blk]
   have y4:(u1.alloc (.cells #[.int .i64 z1] 2)).cell? ⟨B,6,none⟩=some (.slice oD ks0.length cD):=(World.cell?_of_block (((Below.refl u1.heap.size u1).alloc (Nat.le_refl _) _).block B (heap_ltM S3.out.blk))).trans y3
   go_simp
   refine hK _ _ ?_
   clear hK K
   go_simp
   refine wpAny_ready (rs:=[1,4]) (by kernel_rfl) (by simp) ?_
   refine AllReady.cons rfl (fun K hK=>?_) (AllReady.cons rfl (fun K hK=>?_) AllReady.nil)
   ·skip
    go_simp
    refine hK _ _ ?_
    clear hK K
    go_simp
    refine r1 4 (fun K hK=>?_)
    go_simp
    refine hK _ _ ?_
    clear hK K
    go_simp
    refine r1 5 (fun K hK=>?_)
    refine opAppKd _ _ rfl w.heap.size (.slice oD ks0.length cD) ks0 rfl (S3.out.od.below ((Below.refl _ _).alloc (Nat.le_refl _) _)) z1 u1.heap.size 1 rfl (by simp) (by omega) (by have:=S3.out.ef.size;simp;omega) ?_
    intro vd1 w4 ho4 hg4 hn4
    obtain⟨x6,z6,s5⟩:=S3.out.kid ho4 hg4 hn4
    obtain⟨o5,c5,e5⟩:=own_shape ho4
    rw[List.length_append,List.length_singleton] at e5
    subst e5
    have S1:=mkHid s5
    clear s5 ho4 hg4 hn4
    refine hK _ _ ?_
    clear hK K
    go_simp
    refine ta 6 (.pointer (some ⟨B,6,none⟩)) (hQ:=fun _ _ _ h=>nomatch h.1) ?_ ?_
    ·intro w
     go_simp
     all_goals omega
    go_simp
    refine r1 7 (fun K hK=>?_)
    go_simp
    refine hK _ _ ?_
    clear hK K
    go_simp
    refine wpAny_done (by kernel_rfl) ?_ _
    first|refine⟨rfl,?_⟩|skip
    rw[HRR.out]
    exact⟨z1,X1,j1,bd1,mn1,v1,.slice o5 (ks0.length+1) c5,u1.heap.size,u1,by kernel_rfl,S1,P1⟩
   ·skip
    go_simp
    refine hK _ _ ?_
    clear hK K
    go_simp
    refine r1 1 (fun K hK=>?_)
    go_simp
    refine hK _ _ ?_
    clear hK K
    go_simp
    refine r1 5 (fun K hK=>?_)
    refine opAppKd _ _ rfl w.heap.size (.slice oD ks0.length cD) ks0 rfl (S3.out.od.below ((Below.refl _ _).alloc (Nat.le_refl _) _)) z1 u1.heap.size 1 rfl (by simp) (by omega) (by have:=S3.out.ef.size;simp;omega) ?_
    intro vd1 w4 ho4 hg4 hn4
    obtain⟨x6,z6,s5⟩:=S3.out.kid ho4 hg4 hn4
    obtain⟨o5,c5,e5⟩:=own_shape ho4
    rw[List.length_append,List.length_singleton] at e5
    subst e5
    have S1:=mkHid s5
    clear s5 ho4 hg4 hn4
    refine hK _ _ ?_
    clear hK K
    go_simp
    refine ta 6 (.pointer (some ⟨B,6,none⟩)) (hQ:=fun _ _ _ h=>nomatch h.1) ?_ ?_
    ·intro w
     go_simp
     all_goals omega
    go_simp
    refine r1 7 (fun K hK=>?_)
    go_simp
    refine hK _ _ ?_
    clear hK K
    go_simp
    refine wpAny_done (by kernel_rfl) ?_ _
    first|refine⟨rfl,?_⟩|skip
    rw[HRR.out]
    exact⟨z1,X1,j1,bd1,mn1,v1,.slice o5 (ks0.length+1) c5,u1.heap.size,u1,by kernel_rfl,S1,P1⟩
 rw[HRR.out]
 clear HRR RR
 rintro a' W1 ⟨z1,X1,j1,bd1,mn1,v1,vd1,hh1,u1,rfl,S1,P1⟩
 obtain⟨ks1,hks1⟩:∃x,ks0 ++ [z1]=x:=⟨_,rfl⟩
 obtain⟨A1,hA1⟩:∃x,A0++X1=x:=⟨_,rfl⟩
 rw[hks1,hA1] at S1
 have q1:=mkHid P1.out.res
 have hlt1:=P1.out.lt
 have hle1:=P1.out.le
 have hcn1:=P1.out.cnt
 have hc01:=mkHid P1.out.cnt0
 have hl1:A1.length=A0.length+X1.length:=by rw[← hA1,List.length_append]
 replace hks1:=mkHid hks1
 replace hA1:=mkHid hA1
 clear P1 S0
 have G1:Hid ((bd1=true→R=.bad j1)∧(bd1=false→R=.ok j1 ((E++A1).map (·.1) ++ [{ Rf.zn 22 with kids:=ks1 }])∧mn1=(many || big A1))):=by
  have q:=q1.out
  have hA:=hA1.out
  have hk:=hks1.out
  rw[hA0.out] at q hA
  rw[hks0.out] at hk
  rw[List.append_nil] at q
  rw[List.nil_append] at hA hk
  rw[hA] at q
  refine⟨fun e=>?_,fun e=>?_⟩
  ·have q:=q.1 e
   rw[Rf.given,if_neg (by decide)] at q
   rw[HR.out,Rf.given,if_neg (by decide),H0.out,q]
   rfl
  ·obtain⟨-,q1,q2,q3⟩:=q.2 e
   refine⟨?_,q3⟩
   rw[HR.out,Rf.given,if_neg (by decide),H0.out,q1,← hk,q2]
   rfl
 clear q1
 obtain⟨oD,cD,eD⟩:=own_shape S1.out.od
 subst eD
 have hbk:=S1.out.blk
 have d0:W1.cell? ⟨B,0,none⟩=some (.int .i64 22):=by simp[World.cell?,hbk];try rfl
 have d1:W1.cell? ⟨B,1,none⟩=some (.int .i64 0):=by simp[World.cell?,hbk];try rfl
 have d2:W1.cell? ⟨B,2,none⟩=some (.int .i64 0):=by simp[World.cell?,hbk];try rfl
 have d3:W1.cell? ⟨B,3,none⟩=some (.string ⟨#[]⟩):=by simp[World.cell?,hbk];try rfl
 have d4:W1.cell? ⟨B,4,none⟩=some (.slice none 0 0):=by simp[World.cell?,hbk];try rfl
 have d5:W1.cell? ⟨B,5,none⟩=some (.slice none 0 0):=by simp[World.cell?,hbk];try rfl
 have d6:W1.cell? ⟨B,6,none⟩=some (.slice oD ks1.length cD):=by simp[World.cell?,hbk];try rfl
 clear hbk
 have kP:=mkHid (S1.out.put (by have:=HE.out;first|omega|(simp;omega)))
 clear S1
 go_wp2_with (go_at_call 50;fail)
 refine kP.out.mono ?_
 rintro e w9 ⟨rfl,v9,h9,e9,n9,f9,g9⟩
 clear d0 d1 d2 d3 d4 d5 d6 kP
 go_wp2
 go_ret
 exact⟨_,_,j1,bd1,mn1,v9,rfl,RdP.mk2 R HR.out h9 e9 n9 f9 g9 hlt1 (by omega) (by simp;omega) (fun e=>⟨by have:=hc01.out e;simp;omega,by omega⟩) G1.out.1 (fun e=>⟨by rw[(G1.out.2 e).1];simp,by simp[Rf.last];try omega,by rw[(G1.out.2 e).2,big_app];simp[big,Rf.zn]⟩)⟩
def Rf.exEnd (N:List Nd):Rf.TO→Rf.Out
 | .ok i1 A=>.ok i1 (N ++ [{ Rf.zn 28 with names:=A }])
 | .bad j=>.bad j
theorem Rf.tst_28 (T:List Rf.Tk)(t:Nat→List Nd→Rf.Out)(i:Nat)(N:List Nd)(hk:Rf.kind T i=119)(hw:Rf.tstK (Rf.text T i)=28):Rf.tst T t i N=Rf.exEnd N (Rf.txts T (i+1)):=by
 unfold Rf.tst
 rw[hk,hw]
 show(match Rf.txts T (i+1) with | .ok i' N'=>_ | .bad j=>_)=_
 cases Rf.txts T (i+1)<;>rfl
theorem specTest28 (g:Nat)(tv:Value)(l:List UInt8)(T:List Rf.Tk)(TE:List TkE)(f:Nat)(t:Nat→List Nd→Rf.Out)(hK:Tks l T TE)(hT:T.length≤30000)(i:Nat)(many:Bool)(v:Value)(E:List NdE)(w:World)(h:Rs g tv TE i false many v E w)(hi:i<T.length)(_hf:T.length≤i+(f+1))(hE:E.length≤3*i+5)(hk:Rf.kind T i=119)(hw:Rf.tstK (Rf.text T i)=28) :
  Calls Tryz.prog 132 #[.pointer (some ⟨g,0,none⟩)] w fun e w'=>∃ z A i' bad' many' v',e=.returned (.int .i64 z)∧RdP g tv T TE 0 (Rf.tst T t) i false many v E w z A i' bad' many' v' w':=by
 obtain⟨R,hR⟩:∃R,R=Rf.given false i (Rf.tst T t i (E.map (·.1))):=⟨_,rfl⟩
 have HR:=mkHid hR
 have H0:=mkHid (Rf.tst_28 T t i (E.map (·.1)) hk hw)
 have hgl:=heap_ltM h.blk
 have hll:=hK.length
 have hl:=hK.len
 have hi2:i<TE.length:=by omega
 have hnx:i+1<T.length:=hK.nxt i hi (by rw[hk];decide) (by rw[hk];decide)
 have hC:∀W:World,Calls Tryz.prog 159 #[.string TE[i].2.1] W fun e w'=>e=.returned (.int .i64 28)∧w'=W:=fun W=>(specTstW TE[i].2.1 W).mono fun _ _ h=>⟨by rw[h.1,hK.text i hi2,Rf.ba_list,hw],h.2.symm⟩
 have cT:∀W:World,Below w.heap.size w W→_:=fun W hb=>specTakeY g tv TE i many v E W 119 (h.below hb) hi2 (by omega) (by rw[hK.kind i hi2];exact hk)
 have hk1:((TE[i].1:Int) != 119)=false:=by rw[bne_eq_false_iff_eq,hK.kind i hi2,hk];rfl
 obtain⟨c0,c1,c2,c3,c4⟩:=five h.blk
 obtain⟨o,cap,htv⟩:=h.tks.shape
 have htk:=h.tks
 rw[htv] at htk c0
 obtain⟨q,ho,-,-,e0,e1,e2⟩:=htk.at i hi2
 subst ho
 clear htk htv
 have hii:(i:Int)<(TE.length:Int):=by omega
 generalize TE[i].1=k1 at *
 generalize TE[i].2.1=t1 at *
 replace hC:=mkHid hC
 replace cT:=mkHid cT
 have HK:=mkHid hK
 have HE:=mkHid hE
 clear h hk hw hR hK hE
 go_enter Tryz.func132,Tryz.ntmps132
 go_wp2
 go_quiet (exact Calls.quiet_of_same (hC.out _))
 go_wp2_with (go_at_call 94;fail)
 refine(cT.out _ (Go.below_drewN (Below.refl _ _) _)).mono ?_
 rintro e w1 ⟨rfl,h1,e1⟩
 replace h1:=mkHid h1
 replace e1:=mkHid (Ef.ahead (Go.below_drewN (Below.refl _ _) _) e1)
 go_wp2_with (go_at_call 159;fail)
 refine(hC.out _).mono ?_
 rintro e w2 ⟨rfl,rfl⟩
 obtain⟨B,hB⟩:∃B,w2.heap.size=B:=⟨_,rfl⟩
 have S0:=mkHid (Fm.start hgl h1.out e1.out 28)
 rw[hB] at S0
 obtain⟨W0,hW0⟩:∃W0,w2.alloc (.cells #[.int .i64 28,.int .i64 0,.int .i64 0,.string ⟨#[]⟩,.slice none 0 0,.slice none 0 0,.slice none 0 0] 109)=W0:=⟨_,rfl⟩
 rw[show w2.alloc (.cells (sevC (Rf.zn 28) (.slice none 0 0) (.slice none 0 0) (.slice none 0 0)) 109)=W0 from hW0] at S0
 have HW0:=mkHid hW0
 have HB:=mkHid hB
 clear h1 hC cT e0 e1 e2 c0 c1 c2 c3 c4 hii hk1 hW0 hB
 have kT:=mkHid (jTexts HK.out S0.out.rs hnx)
 go_wp2_with (go_at_call 160;fail)
 rw[HW0.out,HB.out]
 refine kT.out.mono ?_
 rintro e W1 ⟨o1,c1,M,j1,bd1,mn1,rfl,hO,e1,h1,hj1,hij,r1,r2⟩
 have S1:=mkHid (S0.out.small h1 e1)
 have S2:=mkHid (S0.out.setNames h1 e1 hO)
 clear hO h1 e1 kT S0 HW0
 have z4:=S1.out.frz 4
 have hbk:=S1.out.blk
 have d0:W1.cell? ⟨B,0,none⟩=some (.int .i64 28):=by simp[World.cell?,hbk];try rfl
 have d1:W1.cell? ⟨B,1,none⟩=some (.int .i64 0):=by simp[World.cell?,hbk];try rfl
 have d2:W1.cell? ⟨B,2,none⟩=some (.int .i64 0):=by simp[World.cell?,hbk];try rfl
 have d3:W1.cell? ⟨B,3,none⟩=some (.string ⟨#[]⟩):=by simp[World.cell?,hbk];try rfl
 have d4:W1.cell? ⟨B,4,none⟩=some (.slice none 0 0):=by simp[World.cell?,hbk];try rfl
 have d5:W1.cell? ⟨B,5,none⟩=some (.slice none 0 0):=by simp[World.cell?,hbk];try rfl
 have d6:W1.cell? ⟨B,6,none⟩=some (.slice none 0 0):=by simp[World.cell?,hbk];try rfl
 clear hbk
 clear S1
 have G1:Hid ((bd1=true→R=.bad j1)∧(bd1=false→R=.ok j1 (E.map (·.1) ++ [{ Rf.zn 28 with names:=M }])∧mn1=(many || decide (100<M.length)))):=by
  refine⟨fun e=>?_,fun e=>?_⟩
  ·rcases r1.out e with ⟨h,-⟩|⟨-,h⟩
   ·cases h
   ·rw[HR.out,Rf.given,if_neg (by decide),H0.out,h];rfl
  ·obtain⟨-,q1,q2⟩:=r2.out e
   exact⟨by rw[HR.out,Rf.given,if_neg (by decide),H0.out,q1];rfl,q2⟩
 clear r1 r2
 have kP:=mkHid (S2.out.put (by have:=HE.out;first|omega|(simp;omega)))
 clear S2
 go_wp2_with (go_at_call 50;fail)
 refine kP.out.mono ?_
 rintro e w9 ⟨rfl,v9,h9,e9,n9,f9,g9⟩
 clear d0 d1 d2 d3 d4 d5 d6 z4 kP
 go_wp2
 go_ret
 exact⟨_,_,j1,bd1,mn1,v9,rfl,RdP.mk2 R HR.out h9 e9 n9 f9 g9 hj1 (by omega) (by simp;omega) (fun e=>⟨by simp;omega,by omega⟩) G1.out.1 (fun e=>⟨by rw[(G1.out.2 e).1];simp,by simp[Rf.last],by rw[(G1.out.2 e).2];simp[big,Rf.zn]⟩)⟩
theorem Rf.tst_29 (T:List Rf.Tk)(t:Nat→List Nd→Rf.Out)(i:Nat)(N:List Nd)(hk:Rf.kind T i=119)(hw:Rf.tstK (Rf.text T i)=29):Rf.tst T t i N=(if (Rf.is T (i+1) 58 Rf.wUnder || Rf.is T (i+1) 58 Rf.wOver)=true then (if (Rf.kind T (i+2)==110 && decide (Rf.num (Rf.text T (i+2))≤999999999))=true then .ok (i+3) (N ++ [{ Rf.zn (if Rf.is T (i+1) 58 Rf.wUnder=true then 30 else 29) with num:=(Rf.num (Rf.text T (i+2)):Int) }]) else .bad (i+2)) else .bad (i+1)):=by
 unfold Rf.tst
 rw[hk,hw]
 rfl
theorem specTest29 (g:Nat)(tv:Value)(l:List UInt8)(T:List Rf.Tk)(TE:List TkE)(f:Nat)(t:Nat→List Nd→Rf.Out)(hK:Tks l T TE)(hT:T.length≤30000)(i:Nat)(many:Bool)(v:Value)(E:List NdE)(w:World)(h:Rs g tv TE i false many v E w)(hi:i<T.length)(_hf:T.length≤i+(f+1))(hE:E.length≤3*i+5)(hk:Rf.kind T i=119)(hw:Rf.tstK (Rf.text T i)=29) :
  Calls Tryz.prog 132 #[.pointer (some ⟨g,0,none⟩)] w fun e w'=>∃ z A i' bad' many' v',e=.returned (.int .i64 z)∧RdP g tv T TE 0 (Rf.tst T t) i false many v E w z A i' bad' many' v' w':=by
 obtain⟨R,hR⟩:∃R,R=Rf.given false i (Rf.tst T t i (E.map (·.1))):=⟨_,rfl⟩
 have HR:=mkHid hR
 have H0:=mkHid (Rf.tst_29 T t i (E.map (·.1)) hk hw)
 have hgl:=heap_ltM h.blk
 have hll:=hK.length
 have hl:=hK.len
 have hi2:i<TE.length:=by omega
 have hnx:i+1<T.length:=hK.nxt i hi (by rw[hk];decide) (by rw[hk];decide)
 have hC:∀W:World,Calls Tryz.prog 159 #[.string TE[i].2.1] W fun e w'=>e=.returned (.int .i64 29)∧w'=W:=fun W=>(specTstW TE[i].2.1 W).mono fun _ _ h=>⟨by rw[h.1,hK.text i hi2,Rf.ba_list,hw],h.2.symm⟩
 have cT:∀W:World,Below w.heap.size w W→_:=fun W hb=>specTakeY g tv TE i many v E W 119 (h.below hb) hi2 (by omega) (by rw[hK.kind i hi2];exact hk)
 have hk1:((TE[i].1:Int) != 119)=false:=by rw[bne_eq_false_iff_eq,hK.kind i hi2,hk];rfl
 obtain⟨c0,c1,c2,c3,c4⟩:=five h.blk
 obtain⟨o,cap,htv⟩:=h.tks.shape
 have htk:=h.tks
 rw[htv] at htk c0
 obtain⟨q,ho,-,-,e0,e1,e2⟩:=htk.at i hi2
 subst ho
 clear htk htv
 have hii:(i:Int)<(TE.length:Int):=by omega
 generalize TE[i].1=k1 at *
 generalize TE[i].2.1=t1 at *
 replace hC:=mkHid hC
 replace cT:=mkHid cT
 have HK:=mkHid hK
 have HE:=mkHid hE
 clear h hk hw hR hK hE
 go_enter Tryz.func132,Tryz.ntmps132
 go_wp2
 go_quiet (exact Calls.quiet_of_same (hC.out _))
 go_wp2_with (go_at_call 94;fail)
 refine(cT.out _ (Go.below_drewN (Below.refl _ _) _)).mono ?_
 rintro e w1 ⟨rfl,h1,e1⟩
 replace h1:=mkHid h1
 replace e1:=mkHid (Ef.ahead (Go.below_drewN (Below.refl _ _) _) e1)
 go_wp2_with (go_at_call 159;fail)
 refine(hC.out _).mono ?_
 rintro e w2 ⟨rfl,rfl⟩
 obtain⟨B,hB⟩:∃B,w2.heap.size=B:=⟨_,rfl⟩
 have S0:=mkHid (Fm.start hgl h1.out e1.out 29)
 rw[hB] at S0
 obtain⟨W0,hW0⟩:∃W0,w2.alloc (.cells #[.int .i64 29,.int .i64 0,.int .i64 0,.string ⟨#[]⟩,.slice none 0 0,.slice none 0 0,.slice none 0 0] 109)=W0:=⟨_,rfl⟩
 rw[show w2.alloc (.cells (sevC (Rf.zn 29) (.slice none 0 0) (.slice none 0 0) (.slice none 0 0)) 109)=W0 from hW0] at S0
 have HW0:=mkHid hW0
 have HB:=mkHid hB
 clear h1 hC cT e0 e1 e2 c0 c1 c2 c3 c4 hii hk1 hW0 hB
 have kM:=mkHid (jMay HK.out S0.out.rs hnx 58 Rf.wUnder)
 go_wp2_with (go_at_call 89;fail)
 rw[HW0.out,HB.out]
 refine kM.out.mono ?_
 rintro e W1 ⟨j1,y1,rfl,h1,e1,hj1,hij1,hij1b,r1,s1⟩
 have S1:=mkHid (S0.out.small h1 e1)
 clear h1 e1 kM S0 HW0
 cases y1
 case true=>
  have u1:Rf.is T (i+1) 58 Rf.wUnder=true:=by have:=r1.out;simpa using this.symm
  obtain rfl:j1=i+1+1:=s1.out
  have z0:=S1.out.frz 0
  have S2:=mkHid (S1.out.pokeS 0 (.int .i64 30) (Rf.zn 30) rfl rfl rfl rfl)
  obtain⟨W2,hW2⟩:∃W2,W1.setCell ⟨B,0,none⟩ (.int .i64 30)=W2:=⟨_,rfl⟩
  rw[hW2] at S2
  have HW2:=mkHid hW2
  clear hW2
  have hbk:=S1.out.blk
  have d0:W1.cell? ⟨B,0,none⟩=some (.int .i64 29):=by simp[World.cell?,hbk];try rfl
  have d1:W1.cell? ⟨B,1,none⟩=some (.int .i64 0):=by simp[World.cell?,hbk];try rfl
  have d2:W1.cell? ⟨B,2,none⟩=some (.int .i64 0):=by simp[World.cell?,hbk];try rfl
  have d3:W1.cell? ⟨B,3,none⟩=some (.string ⟨#[]⟩):=by simp[World.cell?,hbk];try rfl
  have d4:W1.cell? ⟨B,4,none⟩=some (.slice none 0 0):=by simp[World.cell?,hbk];try rfl
  have d5:W1.cell? ⟨B,5,none⟩=some (.slice none 0 0):=by simp[World.cell?,hbk];try rfl
  have d6:W1.cell? ⟨B,6,none⟩=some (.slice none 0 0):=by simp[World.cell?,hbk];try rfl
  clear hbk
  clear S1
  have kN:=mkHid (jNumber HK.out S2.out.rs hj1 999999999)
  go_wp2_with (go_at_call 91;fail)
  rw[HW2.out]
  refine kN.out.mono ?_
  rintro e W3 ⟨j3,y3,x3,rfl,h3,e3,hj3,hij3,hij3b,r3,s3,x3e⟩
  clear d0 d1 d2 d3 d4 d5 d6
  have S3:=mkHid (S2.out.small h3 e3)
  have S4:=mkHid (S3.out.pokeS 1 (.int .i64 (x3:Int)) { Rf.zn 30 with num:=(x3:Int) } rfl rfl rfl rfl)
  have z1:=S3.out.frz 1
  have hbk:=S3.out.blk
  have d0:W3.cell? ⟨B,0,none⟩=some (.int .i64 30):=by simp[World.cell?,hbk];try rfl
  have d1:W3.cell? ⟨B,1,none⟩=some (.int .i64 0):=by simp[World.cell?,hbk];try rfl
  have d2:W3.cell? ⟨B,2,none⟩=some (.int .i64 0):=by simp[World.cell?,hbk];try rfl
  have d3:W3.cell? ⟨B,3,none⟩=some (.string ⟨#[]⟩):=by simp[World.cell?,hbk];try rfl
  have d4:W3.cell? ⟨B,4,none⟩=some (.slice none 0 0):=by simp[World.cell?,hbk];try rfl
  have d5:W3.cell? ⟨B,5,none⟩=some (.slice none 0 0):=by simp[World.cell?,hbk];try rfl
  have d6:W3.cell? ⟨B,6,none⟩=some (.slice none 0 0):=by simp[World.cell?,hbk];try rfl
  clear hbk
  clear S3 S2 kN h3 e3 HW2 z0
  have G1:Hid (((!y3)=true→R=.bad j3)∧((!y3)=false→R=.ok j3 (E.map (·.1) ++ [{ Rf.zn 30 with num:=(x3:Int) }])∧many=(many || false))):=by
   have r3:=r3.out
   have s3:=s3.out
   have x3e:=x3e.out
   have hh:=H0.out
   rw[u1] at hh
   refine⟨fun e=>?_,fun e=>?_⟩
   ·cases y3
    ·simp only[Bool.false_eq_true,if_false] at s3
     rw[HR.out,Rf.given,if_neg (by decide),hh,if_pos (by rfl),if_neg (Bool.eq_false_iff.1 (show(Rf.kind T (i+2)==110 && decide (Rf.num (Rf.text T (i+2))≤999999999))=false from r3.symm)),s3]
    ·cases e
   ·cases y3
    ·cases e
    ·simp only[if_true] at s3 x3e
     rw[HR.out,Rf.given,if_neg (by decide),hh,if_pos (by rfl),if_pos (show(Rf.kind T (i+2)==110 && decide (Rf.num (Rf.text T (i+2))≤999999999))=true from r3.symm),s3,x3e]
     exact⟨rfl,by simp⟩
  clear r3 s3 x3e
  have kP:=mkHid (S4.out.put (by have:=HE.out;first|omega|(simp;omega)))
  clear S4
  go_wp2_with (go_at_call 50;fail)
  refine kP.out.mono ?_
  rintro e w9 ⟨rfl,v9,h9,e9,n9,f9,g9⟩
  clear d0 d1 d2 d3 d4 d5 d6 z1 kP
  go_wp2
  go_ret
  exact⟨_,_,j3,(!y3),many,v9,rfl,RdP.mk2 R HR.out h9 e9 n9 f9 g9 hj3 (by omega) (by simp;omega) (fun e=>⟨by simp;omega,by omega⟩) G1.out.1 (fun e=>⟨by rw[(G1.out.2 e).1];simp,by simp[Rf.last],by rw[(G1.out.2 e).2];simp[big,Rf.zn]⟩)⟩
 case false=>
  have u1:Rf.is T (i+1) 58 Rf.wUnder=false:=by have:=r1.out;simpa using this.symm
  obtain rfl:j1=i+1:=s1.out
  have kW:=mkHid (jWant HK.out S1.out.rs hj1 58 Rf.wOver)
  go_wp2_with (go_at_call 95;fail)
  refine kW.out.mono ?_
  rintro e W2 ⟨rfl,j2,bd2,h2,e2,hj2,hij2,hij2b,r2,s2⟩
  have S2:=mkHid (S1.out.small h2 e2)
  clear S1 h2 e2 kW
  have kN:=mkHid (jNumber HK.out S2.out.rs hj2 999999999)
  go_wp2_with (go_at_call 91;fail)
  refine kN.out.mono ?_
  rintro e W3 ⟨j3,y3,x3,rfl,h3,e3,hj3,hij3,hij3b,r3,s3,x3e⟩
  have S3:=mkHid (S2.out.small h3 e3)
  have S4:=mkHid (S3.out.pokeS 1 (.int .i64 (x3:Int)) { Rf.zn 29 with num:=(x3:Int) } rfl rfl rfl rfl)
  have z1:=S3.out.frz 1
  have hbk:=S3.out.blk
  have d0:W3.cell? ⟨B,0,none⟩=some (.int .i64 29):=by simp[World.cell?,hbk];try rfl
  have d1:W3.cell? ⟨B,1,none⟩=some (.int .i64 0):=by simp[World.cell?,hbk];try rfl
  have d2:W3.cell? ⟨B,2,none⟩=some (.int .i64 0):=by simp[World.cell?,hbk];try rfl
  have d3:W3.cell? ⟨B,3,none⟩=some (.string ⟨#[]⟩):=by simp[World.cell?,hbk];try rfl
  have d4:W3.cell? ⟨B,4,none⟩=some (.slice none 0 0):=by simp[World.cell?,hbk];try rfl
  have d5:W3.cell? ⟨B,5,none⟩=some (.slice none 0 0):=by simp[World.cell?,hbk];try rfl
  have d6:W3.cell? ⟨B,6,none⟩=some (.slice none 0 0):=by simp[World.cell?,hbk];try rfl
  clear hbk
  clear S3 S2 kN h3 e3
  have G1:Hid (((!y3)=true→R=.bad j3)∧((!y3)=false→R=.ok j3 (E.map (·.1) ++ [{ Rf.zn 29 with num:=(x3:Int) }])∧many=(many || false))):=by
   have r2:=r2.out
   have s2:=s2.out
   have r3:=r3.out
   have s3:=s3.out
   have x3e:=x3e.out
   have hh:=H0.out
   rw[u1] at hh
   cases hov:Rf.is T (i+1) 58 Rf.wOver
   ·rw[hov] at r2 hh
    simp at r2
    subst r2
    simp at r3 s2
    subst r3
    simp at s3
    refine⟨fun e=>?_,fun e=>(by cases e)⟩
    rw[HR.out,Rf.given,if_neg (by decide),hh,if_neg (by decide),s3,s2]
   ·rw[hov] at r2 hh
    simp at r2
    subst r2
    simp only[Bool.false_eq_true,if_false] at s2
    subst s2
    refine⟨fun e=>?_,fun e=>?_⟩
    ·cases y3
     ·simp only[Bool.false_eq_true,if_false] at s3
      rw[HR.out,Rf.given,if_neg (by decide),hh,if_pos (by rfl),if_neg (Bool.eq_false_iff.1 (show(Rf.kind T (i+2)==110 && decide (Rf.num (Rf.text T (i+2))≤999999999))=false from r3.symm)),s3]
     ·cases e
    ·cases y3
     ·cases e
     ·simp only[if_true] at s3 x3e
      rw[HR.out,Rf.given,if_neg (by decide),hh,if_pos (by rfl),if_pos (show(Rf.kind T (i+2)==110 && decide (Rf.num (Rf.text T (i+2))≤999999999))=true from r3.symm),s3,x3e]
      exact⟨rfl,by simp⟩
  have hij4:(!y3)=false→i+2≤j3:=by
   intro e
   have s3:=s3.out
   cases y3
   ·cases e
   ·simp only[if_true] at s3
    omega
  clear r3 s3 x3e r2 s2
  have kP:=mkHid (S4.out.put (by have:=HE.out;first|omega|(simp;omega)))
  clear S4
  go_wp2_with (go_at_call 50;fail)
  refine kP.out.mono ?_
  rintro e w9 ⟨rfl,v9,h9,e9,n9,f9,g9⟩
  clear d0 d1 d2 d3 d4 d5 d6 z1 kP
  go_wp2
  go_ret
  exact⟨_,_,j3,(!y3),many,v9,rfl,RdP.mk2 R HR.out h9 e9 n9 f9 g9 hj3 (by omega) (by simp;omega) (fun e=>⟨by simp;omega,by omega⟩) G1.out.1 (fun e=>⟨by rw[(G1.out.2 e).1];simp,by simp[Rf.last],by rw[(G1.out.2 e).2];simp[big,Rf.zn]⟩)⟩
end Go.Proofs.YtkcajnjledldnaaGreatDoor
