import Derived.Test.YtkcajnjledldnaaGreatDoorTk
import Derived.Test.YtkcajnjledldnaaGreatDoorRfTest5
set_option maxRecDepth 20000
set_option maxHeartbeats 8000000
namespace Go.Proofs.YtkcajnjledldnaaGreatDoor
open Go.RowKit Go.Lib Go.Maps
theorem RdC.less {fn g:Nat} {tv:Value} {T:List Rf.Tk} {TE:List TkE} {c f f':Nat} {P:Nat→List Nd→Rf.Out} (h:RdC fn g tv T TE c f P)(hf:f'≤f):RdC fn g tv T TE c f' P:=
 fun i bad many v E w h1 h2 h3 h4=>h i bad many v E w h1 h2 (by omega) h4
theorem Rf.is_eq {T:List Rf.Tk} {i k:Nat} {t:List UInt8} (h:Rf.is T i k t=true):Rf.kind T i=k∧Rf.text T i=t:=by
 unfold Rf.is at h
 simpa using h
theorem Rf.is_ne {T:List Rf.Tk} {i k:Nat} {t:List UInt8} (h:Rf.is T i k t=false)(hk:Rf.kind T i=k):(Rf.text T i==t)=false:=by
 unfold Rf.is at h
 rw[hk] at h
 simpa using h
theorem Rf.cmd_if (T:List Rf.Tk)(t c:Nat→List Nd→Rf.Out)(i:Nat)(N:List Nd)(h:Rf.is T i 119 Rf.wIf=true):Rf.cmd T t c i N=Rf.cho T t c T.length (i+1) N:=by
 obtain⟨h1,h2⟩:=Rf.is_eq h
 unfold Rf.cmd
 rw[h1,h2]
 rfl
def Rf.repEnd (n:Int):Rf.Out→Rf.Out
 | .ok i' N'=>.ok i' (N' ++ [{ Rf.zn 3 with num:=n,kids:=[Rf.last N'] }])
 | .bad j=>.bad j
theorem Rf.cmd_rep (T:List Rf.Tk)(t c:Nat→List Nd→Rf.Out)(i:Nat)(N:List Nd)(h:Rf.is T i 119 Rf.wRepeat=true):Rf.cmd T t c i N=if (Rf.kind T (i+1)==110 && decide (Rf.num (Rf.text T (i+1))≤100))=true then Rf.repEnd (Rf.num (Rf.text T (i+1)):Int) (Rf.blk T c (i+2) N) else .bad (i+1):=by
 obtain⟨h1,h2⟩:=Rf.is_eq h
 unfold Rf.cmd
 rw[h1,h2]
 show(if (Rf.kind T (i+1)==110 && decide (Rf.num (Rf.text T (i+1))≤100))=true then (match Rf.blk T c (i+2) N with | .ok i' N'=>_ | .bad j=>_) else _)=_
 split
 ·cases Rf.blk T c (i+2) N<;>rfl
 ·rfl
theorem Rf.cmd_set (T:List Rf.Tk)(t c:Nat→List Nd→Rf.Out)(i:Nat)(N:List Nd)(h:Rf.is T i 119 Rf.wSet=true):Rf.cmd T t c i N=if (Rf.kind T (i+1)==116 && Rf.isName (Rf.text T (i+1)))=true then (if (Rf.kind T (i+2)==116)=true then (if Rf.is T (i+3) 112 [59]=true then .ok (i+4) (N ++ [{ Rf.zn 11 with names:=[Rf.ba (Rf.text T (i+1))],text:=Rf.ba (Rf.text T (i+2)) }]) else .bad (i+3)) else .bad (i+2)) else .bad (i+1):=by
 obtain⟨h1,h2⟩:=Rf.is_eq h
 unfold Rf.cmd
 rw[h1,h2]
 rfl
theorem Rf.cmd_one (T:List Rf.Tk)(t c:Nat→List Nd→Rf.Out)(i:Nat)(N:List Nd)(k:Int)(hk:Rf.kind T i=119)(h1:(Rf.text T i==Rf.wIf)=false)(h2:(Rf.text T i==Rf.wRepeat)=false)(h3:(Rf.text T i==Rf.wSet)=false)(h4:Rf.cmdK (Rf.text T i)=k)(h0:k≠0)(h7:¬7≤k):Rf.cmd T t c i N=if Rf.is T (i+1) 112 [59]=true then .ok (i+2) (N ++ [Rf.zn k]) else .bad (i+1):=by
 unfold Rf.cmd
 rw[hk,h1,h2,h3,h4]
 simp only[beq_self_eq_true,if_true,Bool.false_eq_true,if_false]
 rw[if_neg (by simpa using h0),if_neg h7]
theorem Rf.cmd_two (T:List Rf.Tk)(t c:Nat→List Nd→Rf.Out)(i:Nat)(N:List Nd)(k:Int)(hk:Rf.kind T i=119)(h1:(Rf.text T i==Rf.wIf)=false)(h2:(Rf.text T i==Rf.wRepeat)=false)(h3:(Rf.text T i==Rf.wSet)=false)(h4:Rf.cmdK (Rf.text T i)=k)(h0:k≠0)(h7:7≤k):Rf.cmd T t c i N=if (Rf.kind T (i+1)==116)=true then (if Rf.is T (i+2) 112 [59]=true then .ok (i+3) (N ++ [{ Rf.zn k with text:=Rf.ba (Rf.text T (i+1)) }]) else .bad (i+2)) else .bad (i+1):=by
 unfold Rf.cmd
 rw[hk,h1,h2,h3,h4]
 simp only[beq_self_eq_true,if_true,Bool.false_eq_true,if_false]
 rw[if_neg (by simpa using h0),if_pos h7]
theorem Rf.cmd_no (T:List Rf.Tk)(t c:Nat→List Nd→Rf.Out)(i:Nat)(N:List Nd)(h:Rf.kind T i≠119∨(Rf.is T i 119 Rf.wIf=false∧Rf.is T i 119 Rf.wRepeat=false∧Rf.is T i 119 Rf.wSet=false∧Rf.cmdK (Rf.text T i)=0)):Rf.cmd T t c i N=.bad i:=by
 unfold Rf.cmd
 by_cases hk:Rf.kind T i=119
 ·rcases h with h|⟨h1,h2,h3,h4⟩
  ·exact absurd hk h
  ·rw[Rf.is_ne h1 hk,Rf.is_ne h2 hk,Rf.is_ne h3 hk,h4,hk]
   rfl
 ·rw[if_neg (by simpa using hk)]
theorem RdP.behind {g:Nat} {tv:Value} {T:List Rf.Tk} {TE:List TkE} {c:Nat} {P Q:Nat→List Nd→Rf.Out} {i:Nat} {many:Bool} {v:Value} {E:List NdE} {w w1:World} {z:Int} {A:List NdE} {i':Nat} {bad' many':Bool} {v':Value} {w':World} (e1:Ef g Option.none w w1)(h:RdP g tv T TE c P (i+1) false many v E w1 z A i' bad' many' v' w')(hc:c≤2)(hQ:Q i (E.map (·.1))=P (i+1) (E.map (·.1))):RdP g tv T TE 0 Q i false many v E w z A i' bad' many' v' w':=by
 have hs:=e1.size
 have h1:=h.lt
 have h2:=h.le
 have h3:=h.cnt
 obtain⟨q1,q2⟩:=h.given
 refine RdP.mk2 _ rfl h.rs (Ef.trans e1.weak (.inl rfl) h.ef) (h.nw.ahead hs) ?_ ?_ h1 (by omega) (by omega) (fun e=>⟨by have:=h.cnt0 e;omega,by omega⟩) (fun e=>?_) (fun e=>?_)
 ·exact fun s hm=>(h.fr s hm).imp id fun hx k hk=>Nat.le_trans hs (hx k hk)
 ·exact fun s hm=>(h.frN s hm).imp id fun hx k hk=>Nat.le_trans hs (hx k hk)
 ·rw[Rf.given,if_neg (by decide),hQ];exact q1 e
 ·rw[Rf.given,if_neg (by decide),hQ];exact q2 e
theorem name_same (t:List UInt8):Fn.nameOk (Rf.ba t)=Rf.isName t:=by
 have e:(Rf.ba t).data.toList=t:=by simp[Rf.ba]
 have e2:(Rf.ba t).size=t.length:=by simp[Rf.ba,ByteArray.size]
 unfold Fn.nameOk Rf.isName
 rw[e,e2,Bool.and_assoc]
 rfl
theorem specCmdIf (g:Nat)(tv:Value)(l:List UInt8)(T:List Rf.Tk)(TE:List TkE)(t c:Nat→List Nd→Rf.Out)(hK:Tks l T TE)(_hT:T.length≤30000)(f:Nat)(hBr:RdC 90 g tv T TE 2 f (Rf.cho T t c T.length))(i:Nat)(many:Bool)(v:Value)(E:List NdE)(w:World)(h:Rs g tv TE i false many v E w)(hi:i<T.length)(hE:E.length≤3*i+5)(hf:T.length≤i+1+f)(hy:Rf.is T i 119 Rf.wIf=true) :
  Calls Tryz.prog 49 #[.pointer (some ⟨g,0,none⟩)] w fun e w'=>∃ z A i' bad' many' v',e=.returned (.int .i64 z)∧RdP g tv T TE 0 (Rf.cmd T t c) i false many v E w z A i' bad' many' v' w':=by
 have hnx:i+1<T.length:=hK.is_nxt i hi 119 _ hy
 have H0:=mkHid (Rf.cmd_if T t c i (E.map (·.1)) hy)
 have HB:=mkHid hBr
 have kM:=mkHid (jMay hK h hi 119 Rf.wIf)
 have HE:=mkHid hE
 have Hy:=mkHid hy
 clear h hK hBr hE hy
 go_enter Tryz.func49,Tryz.ntmps49
 go_wp2_with (go_at_call 89;fail)
 refine kM.out.mono ?_
 rintro e W1 ⟨j1,y1,rfl,h1,e1,hj1,hij1,hij1b,r1,s1⟩
 obtain rfl:y1=true:=by rw[r1.out,Hy.out];rfl
 obtain rfl:j1=i+1:=s1.out
 have kB:=mkHid (HB.out (i+1) false many v E W1 h1 hj1 hf (by have:=HE.out;omega))
 replace e1:=mkHid e1
 clear h1 kM r1 s1
 go_wp2_with (go_at_call 90;fail)
 refine kB.out.mono ?_
 rintro e W2 ⟨z,A,i',bad',many',v',rfl,hp⟩
 replace hp:=mkHid hp
 go_wp2
 go_ret
 exact⟨z,A,i',bad',many',v',rfl,hp.out.behind e1.out (by decide) H0.out⟩
theorem specCmdRep (g:Nat)(tv:Value)(l:List UInt8)(T:List Rf.Tk)(TE:List TkE)(t c:Nat→List Nd→Rf.Out)(hK:Tks l T TE)(hT:T.length≤30000)(f:Nat)(hBlk:RdC 92 g tv T TE 1 f (Rf.blk T c))(i:Nat)(many:Bool)(v:Value)(E:List NdE)(w:World)(h:Rs g tv TE i false many v E w)(hi:i<T.length)(hE:E.length≤3*i+5)(hf:T.length≤i+1+f)(n1:Rf.is T i 119 Rf.wIf=false)(hy:Rf.is T i 119 Rf.wRepeat=true) :
  Calls Tryz.prog 49 #[.pointer (some ⟨g,0,none⟩)] w fun e w'=>∃ z A i' bad' many' v',e=.returned (.int .i64 z)∧RdP g tv T TE 0 (Rf.cmd T t c) i false many v E w z A i' bad' many' v' w':=by
 have hnx:i+1<T.length:=hK.is_nxt i hi 119 _ hy
 obtain⟨R,hR⟩:∃R,R=Rf.given false i (Rf.cmd T t c i (E.map (·.1))):=⟨_,rfl⟩
 have HR:=mkHid hR
 have H0:=mkHid (Rf.cmd_rep T t c i (E.map (·.1)) hy)
 have hgl:=heap_ltM h.blk
 have hll:=hK.length
 have hl:=hK.len
 have hi2:i<TE.length:=by omega
 have HK:=mkHid hK
 have HE:=mkHid hE
 have kM:=mkHid (jMay hK h hi 119 Rf.wIf)
 have nIf:=mkHid n1
 have HBlk:=mkHid hBlk
 have Hy:=mkHid hy
 clear h hK hE hR n1 hBlk hy
 go_enter Tryz.func49,Tryz.ntmps49
 go_wp2_with (go_at_call 89;fail)
 refine kM.out.mono ?_
 rintro e w1 ⟨j1,y1,rfl,h1,e1,hj1,hij1,hij1b,r1,s1⟩
 obtain rfl:y1=false:=by rw[r1.out,nIf.out];rfl
 obtain rfl:j1=i:=s1.out
 obtain⟨B,hB⟩:∃B,w1.heap.size=B:=⟨_,rfl⟩
 have S0:=mkHid (Fm.start hgl h1 e1 0)
 rw[hB] at S0
 obtain⟨W0,hW0⟩:∃W0,w1.alloc (.cells #[.int .i64 0,.int .i64 0,.int .i64 0,.string ⟨#[]⟩,.slice none 0 0,.slice none 0 0,.slice none 0 0] 109)=W0:=⟨_,rfl⟩
 rw[show w1.alloc (.cells (sevC (Rf.zn 0) (.slice none 0 0) (.slice none 0 0) (.slice none 0 0)) 109)=W0 from hW0] at S0
 have HW0:=mkHid hW0
 have HB:=mkHid hB
 clear h1 e1 kM hW0 hB r1 s1
 have kM:=mkHid (jMay HK.out S0.out.rs hi 119 Rf.wRepeat)
 go_wp2_with (go_at_call 89;fail)
 rw[HW0.out,HB.out]
 refine kM.out.mono ?_
 rintro e W1 ⟨j2,y2,rfl,h2,e2,hj2,hij2,hij2b,r2,s2⟩
 have S1:=mkHid (S0.out.small h2 e2)
 clear h2 e2 kM S0 HW0 HB
 obtain rfl:y2=true:=by rw[r2.out,Hy.out];rfl
 obtain rfl:j2=j1+1:=s2.out
 clear r2 s2
 have z0:=S1.out.frz 0
 have S2:=mkHid (S1.out.pokeS 0 (.int .i64 3) (Rf.zn 3) rfl rfl rfl rfl)
 obtain⟨W2,hW2⟩:∃W2,W1.setCell ⟨B,0,none⟩ (.int .i64 3)=W2:=⟨_,rfl⟩
 rw[hW2] at S2
 have HW2:=mkHid hW2
 clear hW2
 have hbk:=S1.out.blk
 have d0:W1.cell? ⟨B,0,none⟩=some (.int .i64 0):=by simp[World.cell?,hbk];try rfl
 have d1:W1.cell? ⟨B,1,none⟩=some (.int .i64 0):=by simp[World.cell?,hbk];try rfl
 have d2:W1.cell? ⟨B,2,none⟩=some (.int .i64 0):=by simp[World.cell?,hbk];try rfl
 have d3:W1.cell? ⟨B,3,none⟩=some (.string ⟨#[]⟩):=by simp[World.cell?,hbk];try rfl
 have d4:W1.cell? ⟨B,4,none⟩=some (.slice none 0 0):=by simp[World.cell?,hbk];try rfl
 have d5:W1.cell? ⟨B,5,none⟩=some (.slice none 0 0):=by simp[World.cell?,hbk];try rfl
 have d6:W1.cell? ⟨B,6,none⟩=some (.slice none 0 0):=by simp[World.cell?,hbk];try rfl
 clear hbk
 clear S1
 have kN:=mkHid (jNumber HK.out S2.out.rs hj2 100)
 go_wp2_with (go_at_call 91;fail)
 rw[HW2.out]
 refine kN.out.mono ?_
 rintro e W3 ⟨j3,y3,x3,rfl,h3,e3,hj3,hij3,hij3b,r3,s3,x3e⟩
 clear d0 d1 d2 d3 d4 d5 d6
 have S3:=mkHid (S2.out.small h3 e3)
 have z1:=S3.out.frz 1
 have S4':=mkHid (S3.out.pokeS 1 (.int .i64 (x3:Int)) { Rf.zn 3 with num:=(x3:Int) } rfl rfl rfl rfl)
 obtain⟨W4,hW4⟩:∃W4,W3.setCell ⟨B,1,none⟩ (.int .i64 (x3:Int))=W4:=⟨_,rfl⟩
 rw[hW4] at S4'
 have HW4:=mkHid hW4
 clear hW4
 have hbk:=S3.out.blk
 have d0:W3.cell? ⟨B,0,none⟩=some (.int .i64 3):=by simp[World.cell?,hbk];try rfl
 have d1:W3.cell? ⟨B,1,none⟩=some (.int .i64 0):=by simp[World.cell?,hbk];try rfl
 have d2:W3.cell? ⟨B,2,none⟩=some (.int .i64 0):=by simp[World.cell?,hbk];try rfl
 have d3:W3.cell? ⟨B,3,none⟩=some (.string ⟨#[]⟩):=by simp[World.cell?,hbk];try rfl
 have d4:W3.cell? ⟨B,4,none⟩=some (.slice none 0 0):=by simp[World.cell?,hbk];try rfl
 have d5:W3.cell? ⟨B,5,none⟩=some (.slice none 0 0):=by simp[World.cell?,hbk];try rfl
 have d6:W3.cell? ⟨B,6,none⟩=some (.slice none 0 0):=by simp[World.cell?,hbk];try rfl
 clear hbk
 clear S3 S2 kN h3 e3 HW2 z0
 obtain⟨bd3,hbd3⟩:∃b,(!y3)=b:=⟨_,rfl⟩
 rw[hbd3] at S4'
 replace hbd3:=mkHid hbd3
 obtain⟨nn,hnn⟩:∃x:Nd,x = { Rf.zn 3 with num:=(x3:Int) }:=⟨_,rfl⟩
 obtain⟨ks0,A0,vd0,hks0,hA0,S4⟩:∃(ks0:List Int) (A0:List NdE) (vd0:Value),Hid (ks0=[])∧Hid (A0=[])∧Hid (Fm g tv TE v E w B { ({ Rf.zn 3 with num:=(x3:Int) }:Nd) with kids:=ks0 } (.slice none 0 0) (.slice none 0 0) vd0 j3 bd3 many v A0 W4):=⟨[],[],.slice none 0 0,rfl,rfl,S4'⟩
 clear hnn nn S4'
 have hl0:A0.length<1:=by rw[hA0.out];decide
 have hk0:ks0.length≤5:=by rw[hks0.out];decide
 go_wp2
 rw[HW4.out]
 clear d0 d1 d2 d3 d4 d5 d6 z1
 obtain⟨RR,hRR⟩:∃RR:Act→Act→World→Prop,RR=(fun a a' w'=>∃ (z5:Int) (X5:List NdE) (j5:Nat) (bd5 mn5:Bool) (v5 vd5:Value) (hh5:Nat) (u5:World),a'=(((((((a.put (some 16) (.pointer (some ⟨B,6,none⟩))).put (some 17) vd0).put (some 18) (.pointer (some ⟨g,0,none⟩))).put (some 19) (.int .i64 z5)).put (some 20) (.slice (some ⟨hh5,0,none⟩) 1 1)).put (some 21) vd5).put (some 22) (.pointer (some ⟨B,6,none⟩)))∧Hid (Fm g tv TE v E w B { ({ Rf.zn 3 with num:=(x3:Int) }:Nd) with kids:=ks0 ++ [z5] } (.slice none 0 0) (.slice none 0 0) vd5 j5 bd5 mn5 v5 (A0++X5) w')∧Hid (RdP g tv T TE 1 (Rf.blk T c) j3 bd3 many v (E++A0) W4.drew z5 X5 j5 bd5 mn5 v5 u5)):=⟨_,rfl⟩
 have HRR:=mkHid hRR
 clear hRR
 refine wp_cut RR ?_ ?_
 ·have SD:=mkHid (S4.out.small (S4.out.rs.below (below_drew (Below.refl _ _))) (Ef.of_below (below_drew (Below.refl _ _))))
  have kC:=mkHid (HBlk.out j3 bd3 many v (E++A0) W4.drew SD.out.rs hj3 (by omega) (by have:=HE.out;rw[List.length_append];omega))
  obtain⟨oD,cD,eD⟩:=own_shape S4.out.od
  subst eD
  have y0:W4.cell? ⟨B,6,none⟩=some (.slice oD ks0.length cD):=by simp[World.cell?,S4.out.blk]
  refine wp_region_any (by kernel_rfl) ?_
  refine ta 0 (.pointer (some ⟨B,6,none⟩)) (hQ:=fun _ _ _ h=>nomatch h.1) ?_ ?_
  ·intro w
   go_simp
   all_goals omega
  go_simp
  refine ta 2 (.pointer (some ⟨g,0,none⟩)) (hQ:=fun _ _ _ h=>nomatch h.1) ?_ ?_
  ·intro w
   go_simp
   all_goals omega
  go_simp
  refine wpAny_ready (rs:=[1,3]) (by kernel_rfl) (by simp) ?_
  refine AllReady.cons rfl (fun K hK=>?_) (AllReady.cons rfl (fun K hK=>?_) AllReady.nil)
  ·skip
   go_simp
   refine hK _ _ ?_
   clear hK K
   go_simp
   refine YtkcajnjledldnaaGreatDoor.r1 3 (fun K hK=>?_)
   go_simp
   refine kC.out.mono ?_
   rintro e u5 ⟨z5,X5,j5,bd5,mn5,v5,rfl,hp⟩
   have S3:=mkHid (SD.out.call hp)
   have P5:=mkHid hp
   clear hp
   have y3:u5.cell? ⟨B,6,none⟩=some (.slice oD ks0.length cD):=by simp[World.cell?,S3.out.blk]
   have y4:(u5.alloc (.cells #[.int .i64 z5] 2)).cell? ⟨B,6,none⟩=some (.slice oD ks0.length cD):=(World.cell?_of_block (((Below.refl u5.heap.size u5).alloc (Nat.le_refl _) _).block B (heap_ltM S3.out.blk))).trans y3
   go_simp
   refine hK _ _ ?_
   clear hK K
   go_simp
   refine YtkcajnjledldnaaGreatDoor.r1 4 (fun K hK=>?_)
   go_simp
   refine hK _ _ ?_
   clear hK K
   go_simp
   refine YtkcajnjledldnaaGreatDoor.r1 5 (fun K hK=>?_)
   refine opAppKd _ _ rfl w.heap.size (.slice oD ks0.length cD) ks0 rfl (S3.out.od.below ((Below.refl _ _).alloc (Nat.le_refl _) _)) z5 u5.heap.size 1 rfl (by simp) (by omega) (by have:=S3.out.ef.size;simp;omega) ?_
   intro vd5 w4 ho4 hg4 hn4
   obtain⟨x6,z6,s5⟩:=S3.out.kid ho4 hg4 hn4
   obtain⟨o5,c5,e5⟩:=own_shape ho4
   rw[List.length_append,List.length_singleton] at e5
   subst e5
   have S5:=mkHid s5
   clear s5 ho4 hg4 hn4
   refine hK _ _ ?_
   clear hK K
   go_simp
   refine ta 6 (.pointer (some ⟨B,6,none⟩)) (hQ:=fun _ _ _ h=>nomatch h.1) ?_ ?_
   ·intro w
    go_simp
    all_goals omega
   go_simp
   refine YtkcajnjledldnaaGreatDoor.r1 7 (fun K hK=>?_)
   go_simp
   refine hK _ _ ?_
   clear hK K
   go_simp
   refine wpAny_done (by kernel_rfl) ?_ _
   first|refine⟨rfl,?_⟩|skip
   rw[HRR.out]
   exact⟨z5,X5,j5,bd5,mn5,v5,.slice o5 (ks0.length+1) c5,u5.heap.size,u5,by kernel_rfl,S5,P5⟩
  ·skip
   go_simp
   refine kC.out.mono ?_
   rintro e u5 ⟨z5,X5,j5,bd5,mn5,v5,rfl,hp⟩
   have S3:=mkHid (SD.out.call hp)
   have P5:=mkHid hp
   clear hp
   have y3:u5.cell? ⟨B,6,none⟩=some (.slice oD ks0.length cD):=by simp[World.cell?,S3.out.blk]
   have y4:(u5.alloc (.cells #[.int .i64 z5] 2)).cell? ⟨B,6,none⟩=some (.slice oD ks0.length cD):=(World.cell?_of_block (((Below.refl u5.heap.size u5).alloc (Nat.le_refl _) _).block B (heap_ltM S3.out.blk))).trans y3
   go_simp
   refine hK _ _ ?_
   clear hK K
   go_simp
   refine wpAny_ready (rs:=[1,4]) (by kernel_rfl) (by simp) ?_
   refine AllReady.cons rfl (fun K hK=>?_) (AllReady.cons rfl (fun K hK=>?_) AllReady.nil)
   ·skip
    go_simp
    refine hK _ _ ?_
    clear hK K
    go_simp
    refine YtkcajnjledldnaaGreatDoor.r1 4 (fun K hK=>?_)
    go_simp
    refine hK _ _ ?_
    clear hK K
    go_simp
    refine YtkcajnjledldnaaGreatDoor.r1 5 (fun K hK=>?_)
    refine opAppKd _ _ rfl w.heap.size (.slice oD ks0.length cD) ks0 rfl (S3.out.od.below ((Below.refl _ _).alloc (Nat.le_refl _) _)) z5 u5.heap.size 1 rfl (by simp) (by omega) (by have:=S3.out.ef.size;simp;omega) ?_
    intro vd5 w4 ho4 hg4 hn4
    obtain⟨x6,z6,s5⟩:=S3.out.kid ho4 hg4 hn4
    obtain⟨o5,c5,e5⟩:=own_shape ho4
    rw[List.length_append,List.length_singleton] at e5
    subst e5
    have S5:=mkHid s5
    clear s5 ho4 hg4 hn4
    refine hK _ _ ?_
    clear hK K
    go_simp
    refine ta 6 (.pointer (some ⟨B,6,none⟩)) (hQ:=fun _ _ _ h=>nomatch h.1) ?_ ?_
    ·intro w
     go_simp
     all_goals omega
    go_simp
    refine YtkcajnjledldnaaGreatDoor.r1 7 (fun K hK=>?_)
    go_simp
    refine hK _ _ ?_
    clear hK K
    go_simp
    refine wpAny_done (by kernel_rfl) ?_ _
    first|refine⟨rfl,?_⟩|skip
    rw[HRR.out]
    exact⟨z5,X5,j5,bd5,mn5,v5,.slice o5 (ks0.length+1) c5,u5.heap.size,u5,by kernel_rfl,S5,P5⟩
   ·skip
    go_simp
    refine hK _ _ ?_
    clear hK K
    go_simp
    refine YtkcajnjledldnaaGreatDoor.r1 1 (fun K hK=>?_)
    go_simp
    refine hK _ _ ?_
    clear hK K
    go_simp
    refine YtkcajnjledldnaaGreatDoor.r1 5 (fun K hK=>?_)
    refine opAppKd _ _ rfl w.heap.size (.slice oD ks0.length cD) ks0 rfl (S3.out.od.below ((Below.refl _ _).alloc (Nat.le_refl _) _)) z5 u5.heap.size 1 rfl (by simp) (by omega) (by have:=S3.out.ef.size;simp;omega) ?_
    intro vd5 w4 ho4 hg4 hn4
    obtain⟨x6,z6,s5⟩:=S3.out.kid ho4 hg4 hn4
    obtain⟨o5,c5,e5⟩:=own_shape ho4
    rw[List.length_append,List.length_singleton] at e5
    subst e5
    have S5:=mkHid s5
    clear s5 ho4 hg4 hn4
    refine hK _ _ ?_
    clear hK K
    go_simp
    refine ta 6 (.pointer (some ⟨B,6,none⟩)) (hQ:=fun _ _ _ h=>nomatch h.1) ?_ ?_
    ·intro w
     go_simp
     all_goals omega
    go_simp
    refine YtkcajnjledldnaaGreatDoor.r1 7 (fun K hK=>?_)
    go_simp
    refine hK _ _ ?_
    clear hK K
    go_simp
    refine wpAny_done (by kernel_rfl) ?_ _
    first|refine⟨rfl,?_⟩|skip
    rw[HRR.out]
    exact⟨z5,X5,j5,bd5,mn5,v5,.slice o5 (ks0.length+1) c5,u5.heap.size,u5,by kernel_rfl,S5,P5⟩
 rw[HRR.out]
 clear HRR RR
 rintro a' W5 ⟨z5,X5,j5,bd5,mn5,v5,vd5,hh5,u5,rfl,S5,P5⟩
 obtain⟨ks5,hks5⟩:∃x,ks0 ++ [z5]=x:=⟨_,rfl⟩
 obtain⟨A5,hA5⟩:∃x,A0++X5=x:=⟨_,rfl⟩
 rw[hks5,hA5] at S5
 have q5:=mkHid P5.out.res
 have hlt5:=P5.out.lt
 have hle5:=P5.out.le
 have hcn5:=P5.out.cnt
 have hc05:=mkHid P5.out.cnt0
 have hl5:A5.length=A0.length+X5.length:=by rw[← hA5,List.length_append]
 replace hks5:=mkHid hks5
 replace hA5:=mkHid hA5
 clear P5 S4
 have G1:Hid ((bd5=true→R=.bad j5)∧(bd5=false→j1+2≤j5∧R=.ok j5 ((E++A5).map (·.1) ++ [{ ({ Rf.zn 3 with num:=(x3:Int) }:Nd) with kids:=ks5 }])∧mn5=(many || big A5))):=by
  have q:=q5.out
  have hA:=hA5.out
  have hk:=hks5.out
  have r3:=r3.out
  have s3:=s3.out
  have x3e:=x3e.out
  have hb3:=hbd3.out
  have hh:=H0.out
  rw[hA0.out] at q hA
  rw[hks0.out] at hk
  rw[List.append_nil] at q
  rw[List.nil_append] at hA hk
  rw[hA] at q
  rw[HR.out,Rf.given,if_neg (by decide),hh]
  cases y3
  ·obtain rfl:bd3=true:=hb3.symm
   simp only[Bool.false_eq_true,if_false] at s3
   subst s3
   rw[if_neg (Bool.eq_false_iff.1 (show(Rf.kind T (j1+1)==110 && decide (Rf.num (Rf.text T (j1+1))≤100))=false from r3.symm))]
   refine⟨fun e=>?_,fun e=>?_⟩
   ·have:=q.1 e
    rw[Rf.given,if_pos rfl] at this
    exact this
   ·exact absurd (q.2 e).1 (by decide)
  ·obtain rfl:bd3=false:=hb3.symm
   simp only[if_true] at s3 x3e
   subst s3
   rw[if_pos (show(Rf.kind T (j1+1)==110 && decide (Rf.num (Rf.text T (j1+1))≤100))=true from r3.symm),← x3e]
   refine⟨fun e=>?_,fun e=>?_⟩
   ·have:=q.1 e
    rw[Rf.given,if_neg (by decide)] at this
    rw[show Rf.blk T c (j1+2) (E.map (·.1))=.bad j5 from this]
    rfl
   ·obtain⟨-,p1,p2,p3⟩:=q.2 e
    refine⟨by omega,?_,p3⟩
    rw[show Rf.blk T c (j1+2) (E.map (·.1))=_ from p1,← hk,p2]
    rfl
 clear q5 r3 s3 x3e hbd3
 obtain⟨oD,cD,eD⟩:=own_shape S5.out.od
 subst eD
 have hbk:=S5.out.blk
 have d0:W5.cell? ⟨B,0,none⟩=some (.int .i64 3):=by simp[World.cell?,hbk];try rfl
 have d1:W5.cell? ⟨B,1,none⟩=some (.int .i64 (x3:Int)):=by simp[World.cell?,hbk];try rfl
 have d2:W5.cell? ⟨B,2,none⟩=some (.int .i64 0):=by simp[World.cell?,hbk];try rfl
 have d3:W5.cell? ⟨B,3,none⟩=some (.string ⟨#[]⟩):=by simp[World.cell?,hbk];try rfl
 have d4:W5.cell? ⟨B,4,none⟩=some (.slice none 0 0):=by simp[World.cell?,hbk];try rfl
 have d5:W5.cell? ⟨B,5,none⟩=some (.slice none 0 0):=by simp[World.cell?,hbk];try rfl
 have d6:W5.cell? ⟨B,6,none⟩=some (.slice oD ks5.length cD):=by simp[World.cell?,hbk];try rfl
 clear hbk
 have kP:=mkHid (S5.out.put (by have:=HE.out;first|omega|(simp;omega)))
 clear S5
 go_wp2_with (go_at_call 50;fail)
 refine kP.out.mono ?_
 rintro e w9 ⟨rfl,v9,h9,e9,n9,f9,g9⟩
 clear d0 d1 d2 d3 d4 d5 d6 kP
 go_wp2
 go_ret
 exact⟨_,_,j5,bd5,mn5,v9,rfl,RdP.mk2 R HR.out h9 e9 n9 f9 g9 hlt5 (by omega) (by simp;omega) (fun e=>⟨by have:=hc05.out e;simp;omega,by have:=(G1.out.2 e).1;omega⟩) G1.out.1 (fun e=>⟨by rw[(G1.out.2 e).2.1];simp,by simp[Rf.last];try omega,by rw[(G1.out.2 e).2.2,big_app];simp[big,Rf.zn]⟩)⟩
theorem specCmdOne (g:Nat)(tv:Value)(l:List UInt8)(T:List Rf.Tk)(TE:List TkE)(t c:Nat→List Nd→Rf.Out)(hK:Tks l T TE)(hT:T.length≤30000)(i:Nat)(many:Bool)(v:Value)(E:List NdE)(w:World)(h:Rs g tv TE i false many v E w)(hi:i<T.length)(hE:E.length≤3*i+5)(n1:Rf.is T i 119 Rf.wIf=false)(n2:Rf.is T i 119 Rf.wRepeat=false)(n3:Rf.is T i 119 Rf.wSet=false)(hk:Rf.kind T i=119)(k:Int)(hw:Rf.cmdK (Rf.text T i)=k)(h0:k≠0)(h7:¬7≤k) :
  Calls Tryz.prog 49 #[.pointer (some ⟨g,0,none⟩)] w fun e w'=>∃ z A i' bad' many' v',e=.returned (.int .i64 z)∧RdP g tv T TE 0 (Rf.cmd T t c) i false many v E w z A i' bad' many' v' w':=by
 have hnx:i+1<T.length:=hK.nxt i hi (by rw[hk];decide) (by rw[hk];decide)
 obtain⟨R,hR⟩:∃R,R=Rf.given false i (Rf.cmd T t c i (E.map (·.1))):=⟨_,rfl⟩
 have HR:=mkHid hR
 have H0:=mkHid (Rf.cmd_one T t c i (E.map (·.1)) k hk (Rf.is_ne n1 hk) (Rf.is_ne n2 hk) (Rf.is_ne n3 hk) hw h0 h7)
 have hgl:=heap_ltM h.blk
 have hll:=hK.length
 have hl:=hK.len
 have hi2:i<TE.length:=by omega
 have HK:=mkHid hK
 have HE:=mkHid hE
 have kM:=mkHid (jMay hK h hi 119 Rf.wIf)
 have nIf:=mkHid n1
 have nRe:=mkHid n2
 have nSe:=mkHid n3
 clear h hK hE hR n1 n2 n3
 go_enter Tryz.func49,Tryz.ntmps49
 go_wp2_with (go_at_call 89;fail)
 refine kM.out.mono ?_
 rintro e w1 ⟨j1,y1,rfl,h1,e1,hj1,hij1,hij1b,r1,s1⟩
 obtain rfl:y1=false:=by rw[r1.out,nIf.out];rfl
 obtain rfl:j1=i:=s1.out
 obtain⟨B,hB⟩:∃B,w1.heap.size=B:=⟨_,rfl⟩
 have S0:=mkHid (Fm.start hgl h1 e1 0)
 rw[hB] at S0
 obtain⟨W0,hW0⟩:∃W0,w1.alloc (.cells #[.int .i64 0,.int .i64 0,.int .i64 0,.string ⟨#[]⟩,.slice none 0 0,.slice none 0 0,.slice none 0 0] 109)=W0:=⟨_,rfl⟩
 rw[show w1.alloc (.cells (sevC (Rf.zn 0) (.slice none 0 0) (.slice none 0 0) (.slice none 0 0)) 109)=W0 from hW0] at S0
 have HW0:=mkHid hW0
 have HB:=mkHid hB
 clear h1 e1 kM hW0 hB r1 s1
 have kM:=mkHid (jMay HK.out S0.out.rs hi 119 Rf.wRepeat)
 go_wp2_with (go_at_call 89;fail)
 rw[HW0.out,HB.out]
 refine kM.out.mono ?_
 rintro e W1 ⟨j2,y2,rfl,h2,e2,hj2,hij2,hij2b,r2,s2⟩
 have S1:=mkHid (S0.out.small h2 e2)
 clear h2 e2 kM S0 HW0 HB
 obtain rfl:y2=false:=by rw[r2.out,nRe.out];rfl
 obtain rfl:j2=j1:=s2.out
 clear r2 s2
 have kM:=mkHid (jMay HK.out S1.out.rs hj2 119 Rf.wSet)
 go_wp2_with (go_at_call 89;fail)
 refine kM.out.mono ?_
 rintro e W2 ⟨j3,y3,rfl,h3,e3,hj3,hij3,hij3b,r3,s3⟩
 have S2:=mkHid (S1.out.small h3 e3)
 clear h3 e3 kM S1
 obtain rfl:y3=false:=by rw[r3.out,nSe.out];rfl
 obtain rfl:j3=j2:=s3.out
 clear r3 s3
 obtain⟨c0,c1,c2,c3,c4⟩:=five S2.out.rs.blk
 obtain⟨o,cap,htv⟩:=S2.out.rs.tks.shape
 have htk:=S2.out.rs.tks
 rw[htv] at htk c0
 have hj4:j3<TE.length:=by omega
 obtain⟨q,ho,-,-,e0,e1,e2⟩:=htk.at (j3) hj4
 subst ho
 clear htk htv
 have hii:((j3:Nat):Int)<(TE.length:Int):=by omega
 have hC:∀W:World,Calls Tryz.prog 96 #[.string TE[j3].2.1] W fun e w'=>e=.returned (.int .i64 k)∧w'=W:=fun W=>(specCmdW TE[j3].2.1 W).mono fun _ _ h=>⟨by rw[h.1,HK.out.text j3 hj4,Rf.ba_list,hw],h.2.symm⟩
 have hk1:((TE[j3].1:Int) != 119)=false:=by rw[bne_eq_false_iff_eq,HK.out.kind j3 hj4,hk];rfl
 have hk0:(k==0)=false:=beq_eq_false_iff_ne.2 h0
 have hk7:decide (7≤k)=false:=decide_eq_false (by omega)
 have kT:=mkHid (fun (W:World) (hb:Below W2.heap.size W2 W)=>specTakeY g tv TE j3 many v (E ++ []) W 119 (S2.out.rs.below hb) hj4 (by omega) (by rw[HK.out.kind j3 hj4];exact hk))
 generalize TE[j3].1=k1 at *
 generalize TE[j3].2.1=t1 at *
 replace hC:=mkHid hC
 clear hk hw h7 h0
 go_wp2
 go_quiet (exact Calls.quiet_of_same (hC.out _))
 go_wp2_with (go_at_call 94;fail)
 refine(kT.out _ (Go.below_drewN (Below.refl _ _) _)).mono ?_
 rintro e W3 ⟨rfl,h3,e3⟩
 have S3:=mkHid (S2.out.small h3 (Ef.ahead (Go.below_drewN (Below.refl _ _) _) e3))
 clear h3 e3 kT S2 c0 c1 c2 c3 c4 e0 e1 e2
 have z0:=S3.out.frz 0
 have S4:=mkHid (S3.out.pokeS 0 (.int .i64 k) (Rf.zn k) rfl rfl rfl rfl)
 obtain⟨W4,hW4⟩:∃W4,W3.setCell ⟨B,0,none⟩ (.int .i64 k)=W4:=⟨_,rfl⟩
 rw[hW4] at S4
 have HW4:=mkHid hW4
 clear hW4
 have hbk:=S3.out.blk
 have d0:W3.cell? ⟨B,0,none⟩=some (.int .i64 0):=by simp[World.cell?,hbk];try rfl
 have d1:W3.cell? ⟨B,1,none⟩=some (.int .i64 0):=by simp[World.cell?,hbk];try rfl
 have d2:W3.cell? ⟨B,2,none⟩=some (.int .i64 0):=by simp[World.cell?,hbk];try rfl
 have d3:W3.cell? ⟨B,3,none⟩=some (.string ⟨#[]⟩):=by simp[World.cell?,hbk];try rfl
 have d4:W3.cell? ⟨B,4,none⟩=some (.slice none 0 0):=by simp[World.cell?,hbk];try rfl
 have d5:W3.cell? ⟨B,5,none⟩=some (.slice none 0 0):=by simp[World.cell?,hbk];try rfl
 have d6:W3.cell? ⟨B,6,none⟩=some (.slice none 0 0):=by simp[World.cell?,hbk];try rfl
 clear hbk
 clear S3
 have kW:=mkHid (jWant HK.out S4.out.rs hnx 112 [59])
 go_wp2_with (go_at_call 96;fail)
 refine(hC.out _).mono ?_
 rintro e W3' ⟨rfl,rfl⟩
 go_wp2_with (go_at_call 95;fail)
 rw[HW4.out]
 refine kW.out.mono ?_
 rintro e W7 ⟨rfl,j7,bd7,h7,e7,hj7,hij7,hij7b,r7,s7⟩
 clear d0 d1 d2 d3 d4 d5 d6 z0
 have S7:=mkHid (S4.out.small h7 e7)
 clear h7 e7 kW S4 HW4
 have G1:Hid ((bd7=true→R=.bad j7)∧(bd7=false→R=.ok j7 (E.map (·.1) ++ [Rf.zn k])∧many=(many || false))):=by
  have r7:=r7.out
  have s7:=s7.out
  have hh:=H0.out
  rw[HR.out,Rf.given,if_neg (by decide),hh]
  cases hy:Rf.is T (j3+1) 112 [59]
  ·rw[hy] at r7
   obtain rfl:bd7=true:=r7
   simp only[if_true] at s7
   subst s7
   exact⟨fun _=>rfl,fun e=>(by cases e)⟩
  ·rw[hy] at r7
   obtain rfl:bd7=false:=r7
   simp only[Bool.false_eq_true,if_false] at s7
   subst s7
   exact⟨fun e=>(by cases e),fun _=>⟨rfl,by simp⟩⟩
 clear r7 s7
 have hbk:=S7.out.blk
 have d0:W7.cell? ⟨B,0,none⟩=some (.int .i64 k):=by simp[World.cell?,hbk];try rfl
 have d1:W7.cell? ⟨B,1,none⟩=some (.int .i64 0):=by simp[World.cell?,hbk];try rfl
 have d2:W7.cell? ⟨B,2,none⟩=some (.int .i64 0):=by simp[World.cell?,hbk];try rfl
 have d3:W7.cell? ⟨B,3,none⟩=some (.string ⟨#[]⟩):=by simp[World.cell?,hbk];try rfl
 have d4:W7.cell? ⟨B,4,none⟩=some (.slice none 0 0):=by simp[World.cell?,hbk];try rfl
 have d5:W7.cell? ⟨B,5,none⟩=some (.slice none 0 0):=by simp[World.cell?,hbk];try rfl
 have d6:W7.cell? ⟨B,6,none⟩=some (.slice none 0 0):=by simp[World.cell?,hbk];try rfl
 clear hbk
 have kP:=mkHid (S7.out.put (by have:=HE.out;first|omega|(simp;omega)))
 clear S7
 go_wp2_with (go_at_call 50;fail)
 refine kP.out.mono ?_
 rintro e w9 ⟨rfl,v9,h9,e9,n9,f9,g9⟩
 clear d0 d1 d2 d3 d4 d5 d6 kP
 go_wp2
 go_ret
 exact⟨_,_,j7,bd7,many,v9,rfl,RdP.mk2 R HR.out h9 e9 n9 f9 g9 hj7 (by omega) (by simp;omega) (fun e=>⟨by simp;omega,by omega⟩) G1.out.1 (fun e=>⟨by rw[(G1.out.2 e).1];simp,by simp[Rf.last],by rw[(G1.out.2 e).2];simp[big,Rf.zn]⟩)⟩
theorem specCmdTwo (g:Nat)(tv:Value)(l:List UInt8)(T:List Rf.Tk)(TE:List TkE)(t c:Nat→List Nd→Rf.Out)(hK:Tks l T TE)(hT:T.length≤30000)(i:Nat)(many:Bool)(v:Value)(E:List NdE)(w:World)(h:Rs g tv TE i false many v E w)(hi:i<T.length)(hE:E.length≤3*i+5)(n1:Rf.is T i 119 Rf.wIf=false)(n2:Rf.is T i 119 Rf.wRepeat=false)(n3:Rf.is T i 119 Rf.wSet=false)(hk:Rf.kind T i=119)(k:Int)(hw:Rf.cmdK (Rf.text T i)=k)(h0:k≠0)(h7:7≤k) :
  Calls Tryz.prog 49 #[.pointer (some ⟨g,0,none⟩)] w fun e w'=>∃ z A i' bad' many' v',e=.returned (.int .i64 z)∧RdP g tv T TE 0 (Rf.cmd T t c) i false many v E w z A i' bad' many' v' w':=by
 have hnx:i+1<T.length:=hK.nxt i hi (by rw[hk];decide) (by rw[hk];decide)
 obtain⟨R,hR⟩:∃R,R=Rf.given false i (Rf.cmd T t c i (E.map (·.1))):=⟨_,rfl⟩
 have HR:=mkHid hR
 have H0:=mkHid (Rf.cmd_two T t c i (E.map (·.1)) k hk (Rf.is_ne n1 hk) (Rf.is_ne n2 hk) (Rf.is_ne n3 hk) hw h0 h7)
 have hgl:=heap_ltM h.blk
 have hll:=hK.length
 have hl:=hK.len
 have hi2:i<TE.length:=by omega
 have HK:=mkHid hK
 have HE:=mkHid hE
 have kM:=mkHid (jMay hK h hi 119 Rf.wIf)
 have nIf:=mkHid n1
 have nRe:=mkHid n2
 have nSe:=mkHid n3
 clear h hK hE hR n1 n2 n3
 go_enter Tryz.func49,Tryz.ntmps49
 go_wp2_with (go_at_call 89;fail)
 refine kM.out.mono ?_
 rintro e w1 ⟨j1,y1,rfl,h1,e1,hj1,hij1,hij1b,r1,s1⟩
 obtain rfl:y1=false:=by rw[r1.out,nIf.out];rfl
 obtain rfl:j1=i:=s1.out
 obtain⟨B,hB⟩:∃B,w1.heap.size=B:=⟨_,rfl⟩
 have S0:=mkHid (Fm.start hgl h1 e1 0)
 rw[hB] at S0
 obtain⟨W0,hW0⟩:∃W0,w1.alloc (.cells #[.int .i64 0,.int .i64 0,.int .i64 0,.string ⟨#[]⟩,.slice none 0 0,.slice none 0 0,.slice none 0 0] 109)=W0:=⟨_,rfl⟩
 rw[show w1.alloc (.cells (sevC (Rf.zn 0) (.slice none 0 0) (.slice none 0 0) (.slice none 0 0)) 109)=W0 from hW0] at S0
 have HW0:=mkHid hW0
 have HB:=mkHid hB
 clear h1 e1 kM hW0 hB r1 s1
 have kM:=mkHid (jMay HK.out S0.out.rs hi 119 Rf.wRepeat)
 go_wp2_with (go_at_call 89;fail)
 rw[HW0.out,HB.out]
 refine kM.out.mono ?_
 rintro e W1 ⟨j2,y2,rfl,h2,e2,hj2,hij2,hij2b,r2,s2⟩
 have S1:=mkHid (S0.out.small h2 e2)
 clear h2 e2 kM S0 HW0 HB
 obtain rfl:y2=false:=by rw[r2.out,nRe.out];rfl
 obtain rfl:j2=j1:=s2.out
 clear r2 s2
 have kM:=mkHid (jMay HK.out S1.out.rs hj2 119 Rf.wSet)
 go_wp2_with (go_at_call 89;fail)
 refine kM.out.mono ?_
 rintro e W2 ⟨j3,y3,rfl,h3,e3,hj3,hij3,hij3b,r3,s3⟩
 have S2:=mkHid (S1.out.small h3 e3)
 clear h3 e3 kM S1
 obtain rfl:y3=false:=by rw[r3.out,nSe.out];rfl
 obtain rfl:j3=j2:=s3.out
 clear r3 s3
 obtain⟨c0,c1,c2,c3,c4⟩:=five S2.out.rs.blk
 obtain⟨o,cap,htv⟩:=S2.out.rs.tks.shape
 have htk:=S2.out.rs.tks
 rw[htv] at htk c0
 have hj4:j3<TE.length:=by omega
 obtain⟨q,ho,-,-,e0,e1,e2⟩:=htk.at (j3) hj4
 subst ho
 clear htk htv
 have hii:((j3:Nat):Int)<(TE.length:Int):=by omega
 have hC:∀W:World,Calls Tryz.prog 96 #[.string TE[j3].2.1] W fun e w'=>e=.returned (.int .i64 k)∧w'=W:=fun W=>(specCmdW TE[j3].2.1 W).mono fun _ _ h=>⟨by rw[h.1,HK.out.text j3 hj4,Rf.ba_list,hw],h.2.symm⟩
 have hk1:((TE[j3].1:Int) != 119)=false:=by rw[bne_eq_false_iff_eq,HK.out.kind j3 hj4,hk];rfl
 have hk0:(k==0)=false:=beq_eq_false_iff_ne.2 h0
 have hk7:decide (7≤k)=true:=decide_eq_true (by omega)
 have kT:=mkHid (fun (W:World) (hb:Below W2.heap.size W2 W)=>specTakeY g tv TE j3 many v (E ++ []) W 119 (S2.out.rs.below hb) hj4 (by omega) (by rw[HK.out.kind j3 hj4];exact hk))
 generalize TE[j3].1=k1 at *
 generalize TE[j3].2.1=t1 at *
 replace hC:=mkHid hC
 clear hk hw h7 h0
 go_wp2
 go_quiet (exact Calls.quiet_of_same (hC.out _))
 go_wp2_with (go_at_call 94;fail)
 refine(kT.out _ (Go.below_drewN (Below.refl _ _) _)).mono ?_
 rintro e W3 ⟨rfl,h3,e3⟩
 have S3:=mkHid (S2.out.small h3 (Ef.ahead (Go.below_drewN (Below.refl _ _) _) e3))
 clear h3 e3 kT S2 c0 c1 c2 c3 c4 e0 e1 e2
 have z0:=S3.out.frz 0
 have S4:=mkHid (S3.out.pokeS 0 (.int .i64 k) (Rf.zn k) rfl rfl rfl rfl)
 obtain⟨W4,hW4⟩:∃W4,W3.setCell ⟨B,0,none⟩ (.int .i64 k)=W4:=⟨_,rfl⟩
 rw[hW4] at S4
 have HW4:=mkHid hW4
 clear hW4
 have hbk:=S3.out.blk
 have d0:W3.cell? ⟨B,0,none⟩=some (.int .i64 0):=by simp[World.cell?,hbk];try rfl
 have d1:W3.cell? ⟨B,1,none⟩=some (.int .i64 0):=by simp[World.cell?,hbk];try rfl
 have d2:W3.cell? ⟨B,2,none⟩=some (.int .i64 0):=by simp[World.cell?,hbk];try rfl
 have d3:W3.cell? ⟨B,3,none⟩=some (.string ⟨#[]⟩):=by simp[World.cell?,hbk];try rfl
 have d4:W3.cell? ⟨B,4,none⟩=some (.slice none 0 0):=by simp[World.cell?,hbk];try rfl
 have d5:W3.cell? ⟨B,5,none⟩=some (.slice none 0 0):=by simp[World.cell?,hbk];try rfl
 have d6:W3.cell? ⟨B,6,none⟩=some (.slice none 0 0):=by simp[World.cell?,hbk];try rfl
 clear hbk
 clear S3
 have kT:=mkHid (jTake HK.out S4.out.rs hnx 116)
 go_wp2_with (go_at_call 96;fail)
 refine(hC.out _).mono ?_
 rintro e W3' ⟨rfl,rfl⟩
 go_wp2_with (go_at_call 94;fail)
 rw[HW4.out]
 refine kT.out.mono ?_
 rintro e W5 ⟨j5,y5,x5,rfl,h5,e5,hj5,hij5,hij5b,r5,s5,x5e⟩
 clear d0 d1 d2 d3 d4 d5 d6 z0
 have S5:=mkHid (S4.out.small h5 e5)
 have z3:=S5.out.frz 3
 have S6:=mkHid (S5.out.pokeS 3 (.string x5) { Rf.zn k with text:=x5 } rfl rfl rfl rfl)
 obtain⟨W6,hW6⟩:∃W6,W5.setCell ⟨B,3,none⟩ (.string x5)=W6:=⟨_,rfl⟩
 rw[hW6] at S6
 have HW6:=mkHid hW6
 clear hW6 h5 e5 kT S4 HW4
 have hbk:=S5.out.blk
 have d0:W5.cell? ⟨B,0,none⟩=some (.int .i64 k):=by simp[World.cell?,hbk];try rfl
 have d1:W5.cell? ⟨B,1,none⟩=some (.int .i64 0):=by simp[World.cell?,hbk];try rfl
 have d2:W5.cell? ⟨B,2,none⟩=some (.int .i64 0):=by simp[World.cell?,hbk];try rfl
 have d3:W5.cell? ⟨B,3,none⟩=some (.string ⟨#[]⟩):=by simp[World.cell?,hbk];try rfl
 have d4:W5.cell? ⟨B,4,none⟩=some (.slice none 0 0):=by simp[World.cell?,hbk];try rfl
 have d5:W5.cell? ⟨B,5,none⟩=some (.slice none 0 0):=by simp[World.cell?,hbk];try rfl
 have d6:W5.cell? ⟨B,6,none⟩=some (.slice none 0 0):=by simp[World.cell?,hbk];try rfl
 clear hbk
 clear S5
 have kW:=mkHid (jWant HK.out S6.out.rs hj5 112 [59])
 go_wp2_with (go_at_call 95;fail)
 rw[HW6.out]
 refine kW.out.mono ?_
 rintro e W7 ⟨rfl,j7,bd7,h7,e7,hj7,hij7,hij7b,r7,s7⟩
 clear d0 d1 d2 d3 d4 d5 d6 z3
 have S7:=mkHid (S6.out.small h7 e7)
 clear h7 e7 kW S6 HW6
 have G1:Hid ((bd7=true→R=.bad j7)∧(bd7=false→R=.ok j7 (E.map (·.1) ++ [{ Rf.zn k with text:=x5 }])∧many=(many || false))):=by
  have r5:=r5.out
  have s5:=s5.out
  have x5e:=x5e.out
  have r7:=r7.out
  have s7:=s7.out
  have hh:=H0.out
  rw[HR.out,Rf.given,if_neg (by decide),hh]
  cases y5
  ·simp only[Bool.false_eq_true,if_false] at s5
   subst s5
   obtain rfl:bd7=true:=by rw[r7];rfl
   simp only[if_true] at s7
   subst s7
   rw[if_neg (Bool.eq_false_iff.1 (show(Rf.kind T (j3+1)==116)=false from r5.symm))]
   exact⟨fun _=>rfl,fun e=>(by cases e)⟩
  ·simp only[if_true] at s5 x5e
   subst s5
   subst x5e
   rw[if_pos (show(Rf.kind T (j3+1)==116)=true from r5.symm)]
   cases hy:Rf.is T (j3+2) 112 [59]
   ·rw[show Rf.is T (j3+1+1) 112 [59]=false from hy] at r7
    obtain rfl:bd7=true:=r7
    simp only[if_true] at s7
    subst s7
    exact⟨fun _=>rfl,fun e=>(by cases e)⟩
   ·rw[show Rf.is T (j3+1+1) 112 [59]=true from hy] at r7
    obtain rfl:bd7=false:=r7
    simp only[Bool.false_eq_true,if_false] at s7
    subst s7
    exact⟨fun e=>(by cases e),fun _=>⟨rfl,by simp⟩⟩
 clear r5 s5 x5e r7 s7
 have hbk:=S7.out.blk
 have d0:W7.cell? ⟨B,0,none⟩=some (.int .i64 k):=by simp[World.cell?,hbk];try rfl
 have d1:W7.cell? ⟨B,1,none⟩=some (.int .i64 0):=by simp[World.cell?,hbk];try rfl
 have d2:W7.cell? ⟨B,2,none⟩=some (.int .i64 0):=by simp[World.cell?,hbk];try rfl
 have d3:W7.cell? ⟨B,3,none⟩=some (.string x5):=by simp[World.cell?,hbk];try rfl
 have d4:W7.cell? ⟨B,4,none⟩=some (.slice none 0 0):=by simp[World.cell?,hbk];try rfl
 have d5:W7.cell? ⟨B,5,none⟩=some (.slice none 0 0):=by simp[World.cell?,hbk];try rfl
 have d6:W7.cell? ⟨B,6,none⟩=some (.slice none 0 0):=by simp[World.cell?,hbk];try rfl
 clear hbk
 have kP:=mkHid (S7.out.put (by have:=HE.out;first|omega|(simp;omega)))
 clear S7
 go_wp2_with (go_at_call 50;fail)
 refine kP.out.mono ?_
 rintro e w9 ⟨rfl,v9,h9,e9,n9,f9,g9⟩
 clear d0 d1 d2 d3 d4 d5 d6 kP
 go_wp2
 go_ret
 exact⟨_,_,j7,bd7,many,v9,rfl,RdP.mk2 R HR.out h9 e9 n9 f9 g9 hj7 (by omega) (by simp;omega) (fun e=>⟨by simp;omega,by omega⟩) G1.out.1 (fun e=>⟨by rw[(G1.out.2 e).1];simp,by simp[Rf.last],by rw[(G1.out.2 e).2];simp[big,Rf.zn]⟩)⟩
theorem specCmdSet (g:Nat)(tv:Value)(l:List UInt8)(T:List Rf.Tk)(TE:List TkE)(t c:Nat→List Nd→Rf.Out)(hK:Tks l T TE)(hT:T.length≤30000)(hSz:∀e ∈ TE,e.2.1.size≤1048576)(i:Nat)(many:Bool)(v:Value)(E:List NdE)(w:World)(h:Rs g tv TE i false many v E w)(hi:i<T.length)(hE:E.length≤3*i+5)(n1:Rf.is T i 119 Rf.wIf=false)(n2:Rf.is T i 119 Rf.wRepeat=false)(hy:Rf.is T i 119 Rf.wSet=true) :
  Calls Tryz.prog 49 #[.pointer (some ⟨g,0,none⟩)] w fun e w'=>∃ z A i' bad' many' v',e=.returned (.int .i64 z)∧RdP g tv T TE 0 (Rf.cmd T t c) i false many v E w z A i' bad' many' v' w':=by
 have hnx:i+1<T.length:=hK.is_nxt i hi 119 _ hy
 obtain⟨R,hR⟩:∃R,R=Rf.given false i (Rf.cmd T t c i (E.map (·.1))):=⟨_,rfl⟩
 have HR:=mkHid hR
 have H0:=mkHid (Rf.cmd_set T t c i (E.map (·.1)) hy)
 have hgl:=heap_ltM h.blk
 have hll:=hK.length
 have hl:=hK.len
 have hi2:i<TE.length:=by omega
 have HK:=mkHid hK
 have HE:=mkHid hE
 have kM:=mkHid (jMay hK h hi 119 Rf.wIf)
 have nIf:=mkHid n1
 have nRe:=mkHid n2
 have Hy:=mkHid hy
 clear h hK hE hR n1 n2 hy
 go_enter Tryz.func49,Tryz.ntmps49
 go_wp2_with (go_at_call 89;fail)
 refine kM.out.mono ?_
 rintro e w1 ⟨j1,y1,rfl,h1,e1,hj1,hij1,hij1b,r1,s1⟩
 obtain rfl:y1=false:=by rw[r1.out,nIf.out];rfl
 obtain rfl:j1=i:=s1.out
 obtain⟨B,hB⟩:∃B,w1.heap.size=B:=⟨_,rfl⟩
 have S0:=mkHid (Fm.start hgl h1 e1 0)
 rw[hB] at S0
 obtain⟨W0,hW0⟩:∃W0,w1.alloc (.cells #[.int .i64 0,.int .i64 0,.int .i64 0,.string ⟨#[]⟩,.slice none 0 0,.slice none 0 0,.slice none 0 0] 109)=W0:=⟨_,rfl⟩
 rw[show w1.alloc (.cells (sevC (Rf.zn 0) (.slice none 0 0) (.slice none 0 0) (.slice none 0 0)) 109)=W0 from hW0] at S0
 have HW0:=mkHid hW0
 have HB:=mkHid hB
 clear h1 e1 kM hW0 hB r1 s1
 have kM:=mkHid (jMay HK.out S0.out.rs hi 119 Rf.wRepeat)
 go_wp2_with (go_at_call 89;fail)
 rw[HW0.out,HB.out]
 refine kM.out.mono ?_
 rintro e W1 ⟨j2,y2,rfl,h2,e2,hj2,hij2,hij2b,r2,s2⟩
 have S1:=mkHid (S0.out.small h2 e2)
 clear h2 e2 kM S0 HW0 HB
 obtain rfl:y2=false:=by rw[r2.out,nRe.out];rfl
 obtain rfl:j2=j1:=s2.out
 clear r2 s2
 have kM:=mkHid (jMay HK.out S1.out.rs hj2 119 Rf.wSet)
 go_wp2_with (go_at_call 89;fail)
 refine kM.out.mono ?_
 rintro e W2 ⟨j3,y3,rfl,h3,e3,hj3,hij3,hij3b,r3,s3⟩
 have S2:=mkHid (S1.out.small h3 e3)
 clear h3 e3 kM S1
 obtain rfl:y3=true:=by rw[r3.out,Hy.out];rfl
 obtain rfl:j3=j2+1:=s3.out
 clear r3 s3
 have z0:=S2.out.frz 0
 have S3:=mkHid (S2.out.pokeS 0 (.int .i64 11) (Rf.zn 11) rfl rfl rfl rfl)
 obtain⟨W3,hW3⟩:∃W3,W2.setCell ⟨B,0,none⟩ (.int .i64 11)=W3:=⟨_,rfl⟩
 rw[hW3] at S3
 have HW3:=mkHid hW3
 clear hW3
 have hbk:=S2.out.blk
 have d0:W2.cell? ⟨B,0,none⟩=some (.int .i64 0):=by simp[World.cell?,hbk];try rfl
 have d1:W2.cell? ⟨B,1,none⟩=some (.int .i64 0):=by simp[World.cell?,hbk];try rfl
 have d2:W2.cell? ⟨B,2,none⟩=some (.int .i64 0):=by simp[World.cell?,hbk];try rfl
 have d3:W2.cell? ⟨B,3,none⟩=some (.string ⟨#[]⟩):=by simp[World.cell?,hbk];try rfl
 have d4:W2.cell? ⟨B,4,none⟩=some (.slice none 0 0):=by simp[World.cell?,hbk];try rfl
 have d5:W2.cell? ⟨B,5,none⟩=some (.slice none 0 0):=by simp[World.cell?,hbk];try rfl
 have d6:W2.cell? ⟨B,6,none⟩=some (.slice none 0 0):=by simp[World.cell?,hbk];try rfl
 clear hbk
 clear S2
 obtain⟨jj,hjj⟩:∃jj,jj=j2+1:=⟨_,rfl⟩
 rw[← hjj] at S3 hj3 hnx
 have hjl:jj=j2+1:=hjj
 have hij8:j2<jj:=by omega
 replace hjj:=mkHid hjj
 clear hjl
 obtain⟨c0,c1,c2,c3,c4⟩:=five S3.out.rs.blk
 obtain⟨o,cap,htv⟩:=S3.out.rs.tks.shape
 have htk:=S3.out.rs.tks
 rw[htv] at htk c0
 have hj4:jj<TE.length:=by omega
 obtain⟨q,ho,-,-,e0,e1,e2⟩:=htk.at (jj) hj4
 subst ho
 clear htk htv
 have hii:(((jj:Nat):Int))<(TE.length:Int):=by omega
 have hC:∀W:World,Calls Tryz.prog 93 #[.string TE[jj].2.1] W fun e w'=>e=.returned (.bool (Rf.isName (Rf.text T jj)))∧w'=W:=fun W=>(specName TE[jj].2.1 W (hSz _ (List.getElem_mem _))).mono fun _ _ h=>⟨by rw[h.1,HK.out.text jj hj4,name_same],h.2.symm⟩
 have key:∀W,Below W3.heap.size W3 W→Hid (W.frozen? ⟨g,2,none⟩=false∧W.cell? ⟨g,2,none⟩=some (.bool false)∧Fm g tv TE v E w B (Rf.zn 11) (.slice none 0 0) (.slice none 0 0) (.slice none 0 0) jj true many v [] (W.setCell ⟨g,2,none⟩ (.bool true))):=fun W hb=>by
  have h1:=S3.out.rs.below hb
  exact⟨by simp[World.frozen?,h1.blk],(five h1.blk).2.2.1,S3.out.small (h1.set 2 (.bool true) jj true many rfl) (Ef.ahead hb (Ef.set g none W 2 _))⟩
 have kT:=mkHid (fun (W:World) (hb:Below W3.heap.size W3 W) (hkk:TE[jj].1=116)=>specTakeY g tv TE jj many v (E ++ []) W 116 (S3.out.rs.below hb) hj4 (by omega) hkk)
 have hkd:=HK.out.kind jj hj4
 have htx:=HK.out.text jj hj4
 generalize TE[jj].1=k1 at *
 generalize TE[jj].2.1=t1 at *
 replace hC:=mkHid hC
 replace key:=mkHid key
 replace htx:=mkHid htx
 go_wp2
 rw[HW3.out]
 clear d0 d1 d2 d3 d4 d5 d6 z0 HW3
 by_cases hk:k1=116
 ·have hk1:((k1:Int)==116)=true:=by rw[hk];rfl
  have hkr:Hid (Rf.kind T jj=116):=show _=_ from by rw[← hkd];exact hk
  replace kT:=mkHid (fun (W:World) (hb:Below W3.heap.size W3 W)=>kT.out W hb hk)
  clear hkd hk
  cases hN:Rf.isName (Rf.text T jj)
  ·rw[hN] at hC
   go_quiet (exact Calls.quiet_of_same (hC.out _))
   obtain⟨z1,z0,K2⟩:=key.out (W3.drewN nq) (Go.below_drewN (Below.refl _ _) _)
   obtain⟨W5,hW5⟩:∃W5,(W3.drewN nq).setCell ⟨g,2,none⟩ (.bool true)=W5:=⟨_,rfl⟩
   rw[hW5] at K2
   have S5:=mkHid K2
   have HW5:=mkHid hW5
   have hj5:jj<T.length:=hj3
   clear hW5 K2 kT key S3 c0 c1 c3 c4 e0 e1 e2
   obtain⟨V6,hV6⟩:∃V6,W5.alloc (.cells #[.string (⟨#[]⟩:ByteArray)] 9)=V6:=⟨_,rfl⟩
   have bV:Below W5.heap.size W5 V6:=by rw[← hV6];exact(Below.refl _ _).alloc (Nat.le_refl _) _
   have hO:OwnX W5.heap.size (.slice (some ⟨W5.heap.size,0,none⟩) 1 1) [(⟨#[]⟩:ByteArray)] V6:=by rw[← hV6];exact⟨rfl,.inr ⟨W5.heap.size,1,_,rfl,Nat.le_refl _,heap_alloc_at _ _,Nat.le_refl _,by unfold maxLen;omega,rfl,rfl⟩⟩
   have S5v:=mkHid (S5.out.small (S5.out.rs.below bV) (Ef.of_below bV))
   have S6:=mkHid (S5.out.setNames (S5.out.rs.below bV) (Ef.of_below bV) hO)
   have z4:=S5v.out.frz 4
   obtain⟨W6,hW6⟩:∃W6,V6.setCell ⟨B,4,none⟩ (.slice (some ⟨W5.heap.size,0,none⟩) 1 1)=W6:=⟨_,rfl⟩
   rw[hW6] at S6
   have HW6:=mkHid hW6
   have HV6:=mkHid hV6
   clear bV hO hW6
   have hbk:=S5v.out.blk
   have d0:V6.cell? ⟨B,0,none⟩=some (.int .i64 11):=by simp[World.cell?,hbk];try rfl
   have d1:V6.cell? ⟨B,1,none⟩=some (.int .i64 0):=by simp[World.cell?,hbk];try rfl
   have d2:V6.cell? ⟨B,2,none⟩=some (.int .i64 0):=by simp[World.cell?,hbk];try rfl
   have d3:V6.cell? ⟨B,3,none⟩=some (.string ⟨#[]⟩):=by simp[World.cell?,hbk];try rfl
   have d4:V6.cell? ⟨B,4,none⟩=some (.slice none 0 0):=by simp[World.cell?,hbk];try rfl
   have d5:V6.cell? ⟨B,5,none⟩=some (.slice none 0 0):=by simp[World.cell?,hbk];try rfl
   have d6:V6.cell? ⟨B,6,none⟩=some (.slice none 0 0):=by simp[World.cell?,hbk];try rfl
   clear hbk
   rw[← HV6.out] at d0 d1 d2 d3 d4 d5 d6 z4
   clear S5v S5 hV6
   have kT:=mkHid (jTake HK.out S6.out.rs hj5 116)
   rw[← HW5.out] at d0 d1 d2 d3 d4 d5 d6 z4
   go_wp2_with (go_at_call 94;fail)
   rw[HW5.out,show W3.heap.size=W5.heap.size from by rw[← HW5.out];simp]
   first|rw[HV6.out,HW6.out]|(rw[← HV6.out] at HW6;rw[HW6.out])
   refine kT.out.mono ?_
   rintro e W7 ⟨j7,y7,x7,rfl,h7,e7,hj7,hij7,hij7b,r7,s7,x7e⟩
   clear d0 d1 d2 d3 d4 d5 d6 z4
   have S7:=mkHid (S6.out.small h7 e7)
   have z3:=S7.out.frz 3
   have S8:=mkHid (S7.out.pokeS 3 (.string x7) { Rf.zn 11 with names:=[(⟨#[]⟩:ByteArray)],text:=x7 } rfl rfl rfl rfl)
   obtain⟨W8,hW8⟩:∃W8,W7.setCell ⟨B,3,none⟩ (.string x7)=W8:=⟨_,rfl⟩
   rw[hW8] at S8
   have HW8:=mkHid hW8
   clear hW8 h7 e7 kT S6
   have hbk:=S7.out.blk
   have d0:W7.cell? ⟨B,0,none⟩=some (.int .i64 11):=by simp[World.cell?,hbk];try rfl
   have d1:W7.cell? ⟨B,1,none⟩=some (.int .i64 0):=by simp[World.cell?,hbk];try rfl
   have d2:W7.cell? ⟨B,2,none⟩=some (.int .i64 0):=by simp[World.cell?,hbk];try rfl
   have d3:W7.cell? ⟨B,3,none⟩=some (.string ⟨#[]⟩):=by simp[World.cell?,hbk];try rfl
   have d4:W7.cell? ⟨B,4,none⟩=some (.slice (some ⟨W5.heap.size,0,none⟩) 1 1):=by simp[World.cell?,hbk];try rfl
   have d5:W7.cell? ⟨B,5,none⟩=some (.slice none 0 0):=by simp[World.cell?,hbk];try rfl
   have d6:W7.cell? ⟨B,6,none⟩=some (.slice none 0 0):=by simp[World.cell?,hbk];try rfl
   clear hbk
   clear S7
   have kW:=mkHid (jWant HK.out S8.out.rs hj7 112 [59])
   go_wp2_with (go_at_call 95;fail)
   rw[HW8.out]
   refine kW.out.mono ?_
   rintro e W9 ⟨rfl,j9,bd9,h9,e9,hj9,hij9,hij9b,r9,s9⟩
   clear d0 d1 d2 d3 d4 d5 d6 z3
   have S9:=mkHid (S8.out.small h9 e9)
   clear h9 e9 kW S8 HW8
   have G1:Hid ((bd9=true→R=.bad j9)∧(bd9=false→R=.ok j9 (E.map (·.1) ++ [{ Rf.zn 11 with names:=[(⟨#[]⟩:ByteArray)],text:=x7 }])∧many=(many || false))):=by
    have r7:=r7.out
    have s7:=s7.out
    have r9:=r9.out
    have s9:=s9.out
    have hh:=H0.out
    rw[HR.out,Rf.given,if_neg (by decide),hh,← hjj.out,if_neg (by rw[hN];simp)]
    obtain rfl:y7=false:=r7
    simp only[Bool.false_eq_true,if_false] at s7
    subst s7
    obtain rfl:bd9=true:=r9
    simp only[if_true] at s9
    subst s9
    exact⟨fun _=>rfl,fun e=>(by cases e)⟩
   clear r7 s7 x7e r9 s9
   have hbk:=S9.out.blk
   have d0:W9.cell? ⟨B,0,none⟩=some (.int .i64 11):=by simp[World.cell?,hbk];try rfl
   have d1:W9.cell? ⟨B,1,none⟩=some (.int .i64 0):=by simp[World.cell?,hbk];try rfl
   have d2:W9.cell? ⟨B,2,none⟩=some (.int .i64 0):=by simp[World.cell?,hbk];try rfl
   have d3:W9.cell? ⟨B,3,none⟩=some (.string x7):=by simp[World.cell?,hbk];try rfl
   have d4:W9.cell? ⟨B,4,none⟩=some (.slice (some ⟨W5.heap.size,0,none⟩) 1 1):=by simp[World.cell?,hbk];try rfl
   have d5:W9.cell? ⟨B,5,none⟩=some (.slice none 0 0):=by simp[World.cell?,hbk];try rfl
   have d6:W9.cell? ⟨B,6,none⟩=some (.slice none 0 0):=by simp[World.cell?,hbk];try rfl
   clear hbk
   have kP:=mkHid (S9.out.put (by have:=HE.out;first|omega|(simp;omega)))
   clear S9
   go_wp2_with (go_at_call 50;fail)
   refine kP.out.mono ?_
   rintro e w9 ⟨rfl,v9,h9,e9,n9,f9,g9⟩
   clear d0 d1 d2 d3 d4 d5 d6 kP
   go_wp2
   go_ret
   exact⟨_,_,j9,bd9,many,v9,rfl,RdP.mk2 R HR.out h9 e9 n9 f9 g9 hj9 (by omega) (by simp;omega) (fun e=>⟨by simp;omega,by omega⟩) G1.out.1 (fun e=>⟨by rw[(G1.out.2 e).1];simp,by simp[Rf.last],by rw[(G1.out.2 e).2];simp[big,Rf.zn]⟩)⟩
  ·rw[hN] at hC
   go_quiet (exact Calls.quiet_of_same (hC.out _))
   go_wp2_with (go_at_call 94;fail)
   refine(kT.out _ (Go.below_drewN (Below.refl _ _) _)).mono ?_
   rintro e W5 ⟨rfl,h5,e5⟩
   have S5:=mkHid (S3.out.small h5 (Ef.ahead (Go.below_drewN (Below.refl _ _) _) e5))
   have hj5:jj+1<T.length:=HK.out.nxt jj hj3 (by rw[hkr.out];decide) (by rw[hkr.out];decide)
   clear h5 e5 kT key S3 c0 c1 c2 c3 c4 e0 e1 e2
   obtain⟨V6,hV6⟩:∃V6,W5.alloc (.cells #[.string t1] 9)=V6:=⟨_,rfl⟩
   have bV:Below W5.heap.size W5 V6:=by rw[← hV6];exact(Below.refl _ _).alloc (Nat.le_refl _) _
   have hO:OwnX W5.heap.size (.slice (some ⟨W5.heap.size,0,none⟩) 1 1) [t1] V6:=by rw[← hV6];exact⟨rfl,.inr ⟨W5.heap.size,1,_,rfl,Nat.le_refl _,heap_alloc_at _ _,Nat.le_refl _,by unfold maxLen;omega,rfl,rfl⟩⟩
   have S5v:=mkHid (S5.out.small (S5.out.rs.below bV) (Ef.of_below bV))
   have S6:=mkHid (S5.out.setNames (S5.out.rs.below bV) (Ef.of_below bV) hO)
   have z4:=S5v.out.frz 4
   obtain⟨W6,hW6⟩:∃W6,V6.setCell ⟨B,4,none⟩ (.slice (some ⟨W5.heap.size,0,none⟩) 1 1)=W6:=⟨_,rfl⟩
   rw[hW6] at S6
   have HW6:=mkHid hW6
   have HV6:=mkHid hV6
   clear bV hO hW6
   have hbk:=S5v.out.blk
   have d0:V6.cell? ⟨B,0,none⟩=some (.int .i64 11):=by simp[World.cell?,hbk];try rfl
   have d1:V6.cell? ⟨B,1,none⟩=some (.int .i64 0):=by simp[World.cell?,hbk];try rfl
   have d2:V6.cell? ⟨B,2,none⟩=some (.int .i64 0):=by simp[World.cell?,hbk];try rfl
   have d3:V6.cell? ⟨B,3,none⟩=some (.string ⟨#[]⟩):=by simp[World.cell?,hbk];try rfl
   have d4:V6.cell? ⟨B,4,none⟩=some (.slice none 0 0):=by simp[World.cell?,hbk];try rfl
   have d5:V6.cell? ⟨B,5,none⟩=some (.slice none 0 0):=by simp[World.cell?,hbk];try rfl
   have d6:V6.cell? ⟨B,6,none⟩=some (.slice none 0 0):=by simp[World.cell?,hbk];try rfl
   clear hbk
   rw[← HV6.out] at d0 d1 d2 d3 d4 d5 d6 z4
   clear S5v S5 hV6
   have kT:=mkHid (jTake HK.out S6.out.rs hj5 116)
   go_wp2_with (go_at_call 94;fail)
   first|rw[HV6.out,HW6.out]|(rw[← HV6.out] at HW6;rw[HW6.out])
   refine kT.out.mono ?_
   rintro e W7 ⟨j7,y7,x7,rfl,h7,e7,hj7,hij7,hij7b,r7,s7,x7e⟩
   clear d0 d1 d2 d3 d4 d5 d6 z4
   have S7:=mkHid (S6.out.small h7 e7)
   have z3:=S7.out.frz 3
   have S8:=mkHid (S7.out.pokeS 3 (.string x7) { Rf.zn 11 with names:=[t1],text:=x7 } rfl rfl rfl rfl)
   obtain⟨W8,hW8⟩:∃W8,W7.setCell ⟨B,3,none⟩ (.string x7)=W8:=⟨_,rfl⟩
   rw[hW8] at S8
   have HW8:=mkHid hW8
   clear hW8 h7 e7 kT S6
   have hbk:=S7.out.blk
   have d0:W7.cell? ⟨B,0,none⟩=some (.int .i64 11):=by simp[World.cell?,hbk];try rfl
   have d1:W7.cell? ⟨B,1,none⟩=some (.int .i64 0):=by simp[World.cell?,hbk];try rfl
   have d2:W7.cell? ⟨B,2,none⟩=some (.int .i64 0):=by simp[World.cell?,hbk];try rfl
   have d3:W7.cell? ⟨B,3,none⟩=some (.string ⟨#[]⟩):=by simp[World.cell?,hbk];try rfl
   have d4:W7.cell? ⟨B,4,none⟩=some (.slice (some ⟨W5.heap.size,0,none⟩) 1 1):=by simp[World.cell?,hbk];try rfl
   have d5:W7.cell? ⟨B,5,none⟩=some (.slice none 0 0):=by simp[World.cell?,hbk];try rfl
   have d6:W7.cell? ⟨B,6,none⟩=some (.slice none 0 0):=by simp[World.cell?,hbk];try rfl
   clear hbk
   clear S7
   have kW:=mkHid (jWant HK.out S8.out.rs hj7 112 [59])
   go_wp2_with (go_at_call 95;fail)
   rw[HW8.out]
   refine kW.out.mono ?_
   rintro e W9 ⟨rfl,j9,bd9,h9,e9,hj9,hij9,hij9b,r9,s9⟩
   clear d0 d1 d2 d3 d4 d5 d6 z3
   have S9:=mkHid (S8.out.small h9 e9)
   clear h9 e9 kW S8 HW8
   have G1:Hid ((bd9=true→R=.bad j9)∧(bd9=false→R=.ok j9 (E.map (·.1) ++ [{ Rf.zn 11 with names:=[t1],text:=x7 }])∧many=(many || false))):=by
    have r7:=r7.out
    have s7:=s7.out
    have x7e:=x7e.out
    have r9:=r9.out
    have s9:=s9.out
    have hh:=H0.out
    rw[HR.out,Rf.given,if_neg (by decide),hh,← hjj.out,if_pos (by rw[hN,hkr.out];rfl)]
    obtain rfl:jj=j2+1:=hjj.out
    cases y7
    ·simp only[Bool.false_eq_true,if_false] at s7
     subst s7
     obtain rfl:bd9=true:=r9
     simp only[if_true] at s9
     subst s9
     rw[if_neg (Bool.eq_false_iff.1 (show(Rf.kind T (j2+2)==116)=false from r7.symm))]
     exact⟨fun _=>rfl,fun e=>(by cases e)⟩
    ·simp only[if_true] at s7 x7e
     subst s7
     subst x7e
     rw[if_pos (show(Rf.kind T (j2+2)==116)=true from r7.symm)]
     cases hy:Rf.is T (j2+3) 112 [59]
     ·rw[show Rf.is T (j2+1+1+1) 112 [59]=false from hy] at r9
      obtain rfl:bd9=true:=r9
      simp only[if_true] at s9
      subst s9
      exact⟨fun _=>rfl,fun e=>(by cases e)⟩
     ·rw[show Rf.is T (j2+1+1+1) 112 [59]=true from hy] at r9
      obtain rfl:bd9=false:=r9
      simp only[Bool.false_eq_true,if_false] at s9
      subst s9
      refine⟨fun e=>(by cases e),fun _=>⟨?_,by simp⟩⟩
      rw[htx.out]
      rfl
   clear r7 s7 x7e r9 s9
   have hbk:=S9.out.blk
   have d0:W9.cell? ⟨B,0,none⟩=some (.int .i64 11):=by simp[World.cell?,hbk];try rfl
   have d1:W9.cell? ⟨B,1,none⟩=some (.int .i64 0):=by simp[World.cell?,hbk];try rfl
   have d2:W9.cell? ⟨B,2,none⟩=some (.int .i64 0):=by simp[World.cell?,hbk];try rfl
   have d3:W9.cell? ⟨B,3,none⟩=some (.string x7):=by simp[World.cell?,hbk];try rfl
   have d4:W9.cell? ⟨B,4,none⟩=some (.slice (some ⟨W5.heap.size,0,none⟩) 1 1):=by simp[World.cell?,hbk];try rfl
   have d5:W9.cell? ⟨B,5,none⟩=some (.slice none 0 0):=by simp[World.cell?,hbk];try rfl
   have d6:W9.cell? ⟨B,6,none⟩=some (.slice none 0 0):=by simp[World.cell?,hbk];try rfl
   clear hbk
   have kP:=mkHid (S9.out.put (by have:=HE.out;first|omega|(simp;omega)))
   clear S9
   go_wp2_with (go_at_call 50;fail)
   refine kP.out.mono ?_
   rintro e w9 ⟨rfl,v9,h9,e9,n9,f9,g9⟩
   clear d0 d1 d2 d3 d4 d5 d6 kP
   go_wp2
   go_ret
   exact⟨_,_,j9,bd9,many,v9,rfl,RdP.mk2 R HR.out h9 e9 n9 f9 g9 hj9 (by omega) (by simp;omega) (fun e=>⟨by simp;omega,by omega⟩) G1.out.1 (fun e=>⟨by rw[(G1.out.2 e).1];simp,by simp[Rf.last],by rw[(G1.out.2 e).2];simp[big,Rf.zn]⟩)⟩
 ·have hk1:((k1:Int)==116)=false:=by rw[beq_eq_false_iff_ne];intro e;exact hk (by omega)
  have hkr:Hid (Rf.kind T jj≠116):=fun e=>hk (by rw[hkd];exact e)
  clear hkd hk hC kT
  go_quiet (fail)
  obtain⟨z1,z0,K2⟩:=key.out (W3.drewN nq) (Go.below_drewN (Below.refl _ _) _)
  obtain⟨W5,hW5⟩:∃W5,(W3.drewN nq).setCell ⟨g,2,none⟩ (.bool true)=W5:=⟨_,rfl⟩
  rw[hW5] at K2
  have S5:=mkHid K2
  have HW5:=mkHid hW5
  have hj5:jj<T.length:=hj3
  clear hW5 K2 key S3 c0 c1 c3 c4 e0 e1 e2
  obtain⟨V6,hV6⟩:∃V6,W5.alloc (.cells #[.string (⟨#[]⟩:ByteArray)] 9)=V6:=⟨_,rfl⟩
  have bV:Below W5.heap.size W5 V6:=by rw[← hV6];exact(Below.refl _ _).alloc (Nat.le_refl _) _
  have hO:OwnX W5.heap.size (.slice (some ⟨W5.heap.size,0,none⟩) 1 1) [(⟨#[]⟩:ByteArray)] V6:=by rw[← hV6];exact⟨rfl,.inr ⟨W5.heap.size,1,_,rfl,Nat.le_refl _,heap_alloc_at _ _,Nat.le_refl _,by unfold maxLen;omega,rfl,rfl⟩⟩
  have S5v:=mkHid (S5.out.small (S5.out.rs.below bV) (Ef.of_below bV))
  have S6:=mkHid (S5.out.setNames (S5.out.rs.below bV) (Ef.of_below bV) hO)
  have z4:=S5v.out.frz 4
  obtain⟨W6,hW6⟩:∃W6,V6.setCell ⟨B,4,none⟩ (.slice (some ⟨W5.heap.size,0,none⟩) 1 1)=W6:=⟨_,rfl⟩
  rw[hW6] at S6
  have HW6:=mkHid hW6
  have HV6:=mkHid hV6
  clear bV hO hW6
  have hbk:=S5v.out.blk
  have d0:V6.cell? ⟨B,0,none⟩=some (.int .i64 11):=by simp[World.cell?,hbk];try rfl
  have d1:V6.cell? ⟨B,1,none⟩=some (.int .i64 0):=by simp[World.cell?,hbk];try rfl
  have d2:V6.cell? ⟨B,2,none⟩=some (.int .i64 0):=by simp[World.cell?,hbk];try rfl
  have d3:V6.cell? ⟨B,3,none⟩=some (.string ⟨#[]⟩):=by simp[World.cell?,hbk];try rfl
  have d4:V6.cell? ⟨B,4,none⟩=some (.slice none 0 0):=by simp[World.cell?,hbk];try rfl
  have d5:V6.cell? ⟨B,5,none⟩=some (.slice none 0 0):=by simp[World.cell?,hbk];try rfl
  have d6:V6.cell? ⟨B,6,none⟩=some (.slice none 0 0):=by simp[World.cell?,hbk];try rfl
  clear hbk
  rw[← HV6.out] at d0 d1 d2 d3 d4 d5 d6 z4
  clear S5v S5 hV6
  have kT:=mkHid (jTake HK.out S6.out.rs hj5 116)
  rw[← HW5.out] at d0 d1 d2 d3 d4 d5 d6 z4
  go_wp2_with (go_at_call 94;fail)
  rw[HW5.out,show W3.heap.size=W5.heap.size from by rw[← HW5.out];simp]
  first|rw[HV6.out,HW6.out]|(rw[← HV6.out] at HW6;rw[HW6.out])
  refine kT.out.mono ?_
  rintro e W7 ⟨j7,y7,x7,rfl,h7,e7,hj7,hij7,hij7b,r7,s7,x7e⟩
  clear d0 d1 d2 d3 d4 d5 d6 z4
  have S7:=mkHid (S6.out.small h7 e7)
  have z3:=S7.out.frz 3
  have S8:=mkHid (S7.out.pokeS 3 (.string x7) { Rf.zn 11 with names:=[(⟨#[]⟩:ByteArray)],text:=x7 } rfl rfl rfl rfl)
  obtain⟨W8,hW8⟩:∃W8,W7.setCell ⟨B,3,none⟩ (.string x7)=W8:=⟨_,rfl⟩
  rw[hW8] at S8
  have HW8:=mkHid hW8
  clear hW8 h7 e7 kT S6
  have hbk:=S7.out.blk
  have d0:W7.cell? ⟨B,0,none⟩=some (.int .i64 11):=by simp[World.cell?,hbk];try rfl
  have d1:W7.cell? ⟨B,1,none⟩=some (.int .i64 0):=by simp[World.cell?,hbk];try rfl
  have d2:W7.cell? ⟨B,2,none⟩=some (.int .i64 0):=by simp[World.cell?,hbk];try rfl
  have d3:W7.cell? ⟨B,3,none⟩=some (.string ⟨#[]⟩):=by simp[World.cell?,hbk];try rfl
  have d4:W7.cell? ⟨B,4,none⟩=some (.slice (some ⟨W5.heap.size,0,none⟩) 1 1):=by simp[World.cell?,hbk];try rfl
  have d5:W7.cell? ⟨B,5,none⟩=some (.slice none 0 0):=by simp[World.cell?,hbk];try rfl
  have d6:W7.cell? ⟨B,6,none⟩=some (.slice none 0 0):=by simp[World.cell?,hbk];try rfl
  clear hbk
  clear S7
  have kW:=mkHid (jWant HK.out S8.out.rs hj7 112 [59])
  go_wp2_with (go_at_call 95;fail)
  rw[HW8.out]
  refine kW.out.mono ?_
  rintro e W9 ⟨rfl,j9,bd9,h9,e9,hj9,hij9,hij9b,r9,s9⟩
  clear d0 d1 d2 d3 d4 d5 d6 z3
  have S9:=mkHid (S8.out.small h9 e9)
  clear h9 e9 kW S8 HW8
  have G1:Hid ((bd9=true→R=.bad j9)∧(bd9=false→R=.ok j9 (E.map (·.1) ++ [{ Rf.zn 11 with names:=[(⟨#[]⟩:ByteArray)],text:=x7 }])∧many=(many || false))):=by
   have r7:=r7.out
   have s7:=s7.out
   have r9:=r9.out
   have s9:=s9.out
   have hh:=H0.out
   rw[HR.out,Rf.given,if_neg (by decide),hh,← hjj.out,if_neg (by rw[Bool.and_eq_true,beq_iff_eq];exact fun e=>hkr.out e.1)]
   obtain rfl:y7=false:=r7
   simp only[Bool.false_eq_true,if_false] at s7
   subst s7
   obtain rfl:bd9=true:=r9
   simp only[if_true] at s9
   subst s9
   exact⟨fun _=>rfl,fun e=>(by cases e)⟩
  clear r7 s7 x7e r9 s9
  have hbk:=S9.out.blk
  have d0:W9.cell? ⟨B,0,none⟩=some (.int .i64 11):=by simp[World.cell?,hbk];try rfl
  have d1:W9.cell? ⟨B,1,none⟩=some (.int .i64 0):=by simp[World.cell?,hbk];try rfl
  have d2:W9.cell? ⟨B,2,none⟩=some (.int .i64 0):=by simp[World.cell?,hbk];try rfl
  have d3:W9.cell? ⟨B,3,none⟩=some (.string x7):=by simp[World.cell?,hbk];try rfl
  have d4:W9.cell? ⟨B,4,none⟩=some (.slice (some ⟨W5.heap.size,0,none⟩) 1 1):=by simp[World.cell?,hbk];try rfl
  have d5:W9.cell? ⟨B,5,none⟩=some (.slice none 0 0):=by simp[World.cell?,hbk];try rfl
  have d6:W9.cell? ⟨B,6,none⟩=some (.slice none 0 0):=by simp[World.cell?,hbk];try rfl
  clear hbk
  have kP:=mkHid (S9.out.put (by have:=HE.out;first|omega|(simp;omega)))
  clear S9
  go_wp2_with (go_at_call 50;fail)
  refine kP.out.mono ?_
  rintro e w9 ⟨rfl,v9,h9,e9,n9,f9,g9⟩
  clear d0 d1 d2 d3 d4 d5 d6 kP
  go_wp2
  go_ret
  exact⟨_,_,j9,bd9,many,v9,rfl,RdP.mk2 R HR.out h9 e9 n9 f9 g9 hj9 (by omega) (by simp;omega) (fun e=>⟨by simp;omega,by omega⟩) G1.out.1 (fun e=>⟨by rw[(G1.out.2 e).1];simp,by simp[Rf.last],by rw[(G1.out.2 e).2];simp[big,Rf.zn]⟩)⟩
end Go.Proofs.YtkcajnjledldnaaGreatDoor
