import Derived.Test.YtkcajnjledldnaaGreatDoorRpTest1
set_option maxRecDepth 20000
set_option maxHeartbeats 8000000
namespace Go.Proofs.YtkcajnjledldnaaGreatDoor
open Go.RowKit Go.Lib Go.Maps
def Rf.cho3 (N1 N2:List Nd):Rf.Out→Rf.Out
 | .ok i N=>.ok i (N ++ [{ Rf.zn 2 with kids:=[Rf.last N1,Rf.last N2,Rf.last N] }])
 | .bad j=>.bad j
def Rf.cho2 (T:List Rf.Tk)(t c:Nat→List Nd→Rf.Out)(F:Nat)(N1:List Nd):Rf.Out→Rf.Out
 | .ok i N=>if Rf.is T i 119 Rf.wElsif=true then Rf.cho3 N1 N (Rf.cho T t c F (i+1) N) else if Rf.is T i 119 Rf.wElse=true then Rf.cho3 N1 N (Rf.blk T c (i+1) N) else .ok i (N ++ [{ Rf.zn 2 with kids:=[Rf.last N1,Rf.last N] }])
 | .bad j=>.bad j
def Rf.cho1 (T:List Rf.Tk)(t c:Nat→List Nd→Rf.Out)(F:Nat):Rf.Out→Rf.Out
 | .ok i N=>Rf.cho2 T t c F N (Rf.blk T c i N)
 | .bad j=>.bad j
theorem Rf.cho_eq (T:List Rf.Tk)(t c:Nat→List Nd→Rf.Out)(F i:Nat)(N:List Nd):Rf.cho T t c (F+1) i N=Rf.cho1 T t c F (t i N):=by
 rw[Rf.cho]
 cases t i N with
 | bad j=>rfl
 | ok i1 N1=>
  show(match Rf.blk T c i1 N1 with | .ok i2 N2=>_ | .bad j=>_)=Rf.cho2 T t c F N1 (Rf.blk T c i1 N1)
  cases Rf.blk T c i1 N1 with
  | bad j=>rfl
  | ok i2 N2=>
   show(if Rf.is T i2 119 Rf.wElsif=true then _ else _)=Rf.cho2 T t c F N1 (.ok i2 N2)
   rw[Rf.cho2]
   by_cases h:Rf.is T i2 119 Rf.wElsif=true
   ·rw[if_pos h,if_pos h]
    cases Rf.cho T t c F (i2+1) N2<;>rfl
   ·rw[if_neg h,if_neg h]
    by_cases h2:Rf.is T i2 119 Rf.wElse=true
    ·rw[if_pos h2,if_pos h2]
     cases Rf.blk T c (i2+1) N2<;>rfl
    ·rw[if_neg h2,if_neg h2]
theorem prChoice1 (g:Nat)(s:ByteArray)(l:List UInt8)(T:List Rf.Tk)(f f1 F:Nat)(t c:Nat→List Nd→Rf.Out)(hl:s.data.toList=l)(hs:s.size≤100000)(hT:T.length≤30000)(hXt:Rf.Kx T t)(hTst:PrC 203 g s l T f t)(hBlk:PrC 179 g s l T f (Rf.blk T c))(hIH:PrC 177 g s l T f1 (Rf.cho T t c F))(hf1:f1+1≤f) :
  PrC 177 g s l T (f1+1) (Rf.cho T t c (F+1)):=by
 intro n kd x a v E w h hG hf hE
 have k0:=mkHid (hTst n kd x a v E w h hG (by omega) hE)
 have F0:=mkHid (Pf.start h hG)
 have HB:=mkHid hBlk
 have HI:=mkHid hIH
 have hXb:=mkHid (Rf.blk_x (T:=T) c)
 have hXc:=mkHid (Rf.cho_x (c:=c) hXt F)
 obtain⟨Z,hZ⟩:∃Z,t n (E.map (·.1))=Z:=⟨_,rfl⟩
 rw[hZ] at k0
 obtain⟨R,hR⟩:∃R,Rf.cho T t c (F+1) n (E.map (·.1))=R:=⟨_,rfl⟩
 rw[hR]
 rw[Rf.cho_eq,hZ] at hR
 replace hR:=mkHid hR
 clear h hTst hBlk hIH hG hZ hXt
 go_enter Tryz.func177,Tryz.ntmps177
 go_wp2_with (go_at_call 203;fail)
 refine k0.out.mono ?_
 rintro e w1 ⟨e1,h1⟩
 clear k0
 cases Z with
 | bad j=>
  obtain rfl:e=_:=h1
  exact⟨rfl,e1,PrO.bad (by rw[← hR.out];rfl)⟩
 | ok j N=>
  rcases h1 with ⟨A1,v1,rfl,hN,hp1⟩|hx
  ·have hcn:=hp1.cnt
   have hR1:Rf.cho2 T t c F N (Rf.blk T c j N)=R:=hR.out
   obtain⟨z,hz⟩:∃z,Rf.last N=z:=⟨_,rfl⟩
   rw[hz]
   obtain⟨kd4,x4,a4,hp4⟩:=hp1.ps
   have F1:=F0.out.call (A:=[]) e1 (by rw[List.append_nil];exact hp1)
   rw[List.nil_append] at F1
   have kB:=mkHid (HB.out j kd4 x4 a4 v1 (E++A1) w1 hp4 F1.gl (by omega) (by rw[List.length_append];omega))
   obtain⟨Z2,hZ2⟩:∃Z2,Rf.blk T c j N=Z2:=⟨_,rfl⟩
   rw[← hN,hZ2] at kB
   rw[hZ2] at hR1
   replace hR1:=mkHid hR1
   replace F1:=mkHid F1
   replace hz:=mkHid hz
   replace hN:=mkHid hN
   clear hp1 hp4 e1 hR F0 hZ2
   go_wp2_with (go_at_call 179;fail)
   refine kB.out.mono ?_
   rintro e w2 ⟨e2,h2⟩
   clear kB
   cases Z2 with
   | bad j2=>
    obtain rfl:e=_:=h2
    exact⟨rfl,F1.out.ef.trans F1.out.nw e2,PrO.bad (by rw[← hR1.out];rfl)⟩
   | ok j2 N2=>
    rcases h2 with ⟨A2,v2,rfl,hN2,hp2⟩|hx
    ·have hcn2:=hp2.cnt
     obtain⟨z2,hz2⟩:∃z2,Rf.last N2=z2:=⟨_,rfl⟩
     rw[hz2]
     have F2:=F1.out.call e2 hp2
     obtain⟨W3,hW3⟩:∃W3,w2.alloc (.cells #[.int .i64 z,.int .i64 z2] 2)=W3:=⟨_,rfl⟩
     have b3:Below w2.heap.size w2 W3:=by rw[← hW3];exact(Below.refl _ _).alloc (Nat.le_refl _) _
     have hO:OwnN w2.heap.size (.slice (some ⟨w2.heap.size,0,none⟩) 2 2) [z,z2] W3:=by rw[← hW3];exact⟨rfl,.inr ⟨w2.heap.size,2,_,rfl,Nat.le_refl _,heap_alloc_at _ _,Nat.le_refl _,by unfold maxLen;omega,rfl,rfl⟩⟩
     have F3:=F2.kids b3 hO
     obtain⟨A3,hA3⟩:∃A3,A1++A2=A3:=⟨_,rfl⟩
     have hA3l:A3.length=A1.length+A2.length:=by rw[← hA3,List.length_append]
     rw[List.append_assoc,hA3] at hN2
     rw[hA3] at F3
     obtain⟨kd5,x5,a5,hp5⟩:=F3.ps
     have kE:=mkHid (prTakes hp5 hl hs Rf.wElsif (by decide) (by decide))
     rw[show Rf.cls Rf.wElsif=119 from rfl] at kE
     have hj2:=hp5.cur.lt
     have hR2:Hid ((if Rf.is T j2 119 Rf.wElsif=true then Rf.cho3 N N2 (Rf.cho T t c F (j2+1) N2) else if Rf.is T j2 119 Rf.wElse=true then Rf.cho3 N N2 (Rf.blk T c (j2+1) N2) else .ok j2 (N2 ++ [{ Rf.zn 2 with kids:=[Rf.last N,Rf.last N2] }]))=R):=hR1.out
     have HW3:=mkHid hW3
     replace F3:=mkHid F3
     replace hz2:=mkHid hz2
     replace hN2:=mkHid hN2
     have hAl:A3.length+3*n+2≤3*j2:=by omega
     clear hp2 hp5 F2 b3 hO hA3 hA3l hR1 hW3 F1 e2 hN hcn hcn2
     go_wp2_with (go_at_call 204;fail)
     rw[HW3.out]
     clear HW3
     refine kE.out.mono ?_
     rintro e w4 ⟨e4,⟨h0,rfl,h4⟩|⟨h0,⟨kd6,x6,a6,rfl,h4⟩|hx⟩⟩
     ·have hR3:=hR2.out
      rw[if_neg (Bool.eq_false_iff.1 h0)] at hR3
      have kL:=mkHid (prTakes h4 hl hs Rf.wElse (by decide) (by decide))
      rw[show Rf.cls Rf.wElse=119 from rfl] at kL
      replace F3:=mkHid (F3.out.small h4 e4)
      replace hR3:=mkHid hR3
      clear kE h0 h4 e4 hR2
      go_wp2_with (go_at_call 204;fail)
      refine kL.out.mono ?_
      rintro e w5 ⟨e5,⟨h0,rfl,h5⟩|⟨h0,⟨kd6,x6,a6,rfl,h5⟩|hx⟩⟩
      ·have hR4:=hR3.out
       rw[if_neg (Bool.eq_false_iff.1 h0),hz.out,hz2.out,hN2.out] at hR4
       replace F3:=mkHid (F3.out.small h5 e5)
       have kA:=mkHid (F3.out.add { Rf.zn 2 with kids:=[z,z2] } rfl rfl rfl (by rw[List.length_append];omega))
       replace hR4:=mkHid hR4.symm
       clear kL h0 h5 e5 hR3
       unfold ndV Rf.zn at kA
       dsimp only at kA
       go_wp2_with (go_at_call 149;fail)
       refine kA.out.mono ?_
       rintro e w6 ⟨rfl,v6,A6,hA6,e6,n6,p6,f6,f7⟩
       obtain⟨y,hy⟩:∃y:Int,((E++A3).length:Int)=y:=⟨_,rfl⟩
       have hfin:Hid (Ef g v.ownBlock w w6∧PrO g s l T n v E w R (.returned (.int .i64 y)) w6):=by rw[← hy];exact⟨e6,PrO.added hA6.out hR4.out n6 p6 f6 f7 (by omega)⟩
       rw[hy]
       clear hy
       clear hA6 e6 n6 p6 f6 f7 kA F3 hR4
       go_wp2
       go_ret
       exact hfin.out
      ·have hR4:=hR3.out
       rw[if_pos h0] at hR4
       have hlt5:=h5.cur.lt
       replace F3:=mkHid (F3.out.small h5 e5)
       have kB:=mkHid (HB.out (j2+1) _ _ _ v2 (E++A3) w5 h5 F3.out.gl (by omega) (by rw[List.length_append];omega))
       obtain⟨Z3,hZ3⟩:∃Z3,Rf.blk T c (j2+1) N2=Z3:=⟨_,rfl⟩
       rw[← hN2.out,hZ3] at kB
       rw[hZ3] at hR4
       replace hR4:=mkHid hR4
       clear kL h0 h5 e5 hR3 hZ3
       go_wp2_with (go_at_call 179;fail)
       refine kB.out.mono ?_
       rintro e w6 ⟨e6,h6⟩
       clear kB
       cases Z3 with
       | bad j3=>
        obtain rfl:e=_:=h6
        exact⟨rfl,F3.out.ef.trans F3.out.nw e6,PrO.bad (by rw[← hR4.out];rfl)⟩
       | ok j3 N3=>
        rcases h6 with ⟨A7,v7,rfl,hN3,hp7⟩|hx
        ·have hcn7:=hp7.cnt
         have hR5:Rf.Out.ok j3 (N3 ++ [{ Rf.zn 2 with kids:=[Rf.last N,Rf.last N2,Rf.last N3] }])=R:=hR4.out
         obtain⟨z3,hz3⟩:∃z3,Rf.last N3=z3:=⟨_,rfl⟩
         rw[hz3]
         rw[hz.out,hz2.out,hz3,hN3,List.append_assoc] at hR5
         have hA7:(A3++A7).length=A3.length+A7.length:=List.length_append
         replace F3:=mkHid (F3.out.call e6 hp7)
         obtain⟨A8,hA8⟩:∃A8,A3++A7=A8:=⟨_,rfl⟩
         rw[hA8] at hA7 F3 hR5
         replace hR5:=mkHid hR5.symm
         have hle8:A8.length≤A3.length+A7.length:=by omega
         have hlt7:j3<T.length:=by obtain⟨_,_,_,h⟩:=hp7.ps;exact h.cur.lt
         clear hp7 e6 hR4 hN3 hz3 hA7 hA8
         go_wp2_with (at_builtin;go_must (refine wp_appNat rfl _ _ rfl w.heap.size (.slice (some ⟨w2.heap.size,0,none⟩) 2 2) [z,z2] rfl F3.out.od z3 1 rfl (by simp) F3.out.ef.size ?_;intro v4 w7 ho4 hg4 hn4;refine Hid.out ?_))
         refine mkHid ?_
         have HQ:=F3.out.kid ho4 hg4 hn4
         rw[show [z,z2] ++ [z3]=[z,z2,z3] from rfl] at HQ
         obtain⟨o9,c9,hsh⟩:=own_shape HQ.od
         subst hsh
         have kA:=mkHid (HQ.add { Rf.zn 2 with kids:=[z,z2,z3] } rfl rfl rfl (by rw[List.length_append];omega))
         clear ho4 hg4 hn4 F3 HQ
         unfold ndV Rf.zn at kA
         dsimp only at kA
         go_wp2_with (go_at_call 149;fail)
         refine kA.out.mono ?_
         rintro e w8 ⟨rfl,v6,A6,hA6,e6,n6,p6,f6,f7⟩
         obtain⟨y,hy⟩:∃y:Int,((E++A8).length:Int)=y:=⟨_,rfl⟩
         have hfin:Hid (Ef g v.ownBlock w w8∧PrO g s l T n v E w R (.returned (.int .i64 y)) w8):=by rw[← hy];exact⟨e6,PrO.added hA6.out hR5.out n6 p6 f6 f7 (by omega)⟩
         rw[hy]
         clear hy
         clear hA6 e6 n6 p6 f6 f7 kA hR5
         go_wp2
         go_ret
         exact hfin.out
        ·obtain⟨m1,m2,rfl⟩:=hx
         refine⟨rfl,F3.out.ef.trans F3.out.nw e6,PrO.ofX2 (N:=N3 ++ [{ Rf.zn 2 with kids:=[Rf.last N,Rf.last N2,Rf.last N3] }]) ⟨m1,m2,rfl⟩ ?_⟩
         rw[← hR4.out]
         rfl
      ·obtain⟨m1,m2,rfl⟩:=hx
       refine⟨rfl,F3.out.ef.trans F3.out.nw e5.weak,PrO.ofX ⟨m1,m2,rfl⟩ ?_⟩
       rw[← hR3.out,if_pos h0,hXb.out _ _ m2]
       rfl
     ·have hR4:=hR2.out
      rw[if_pos h0] at hR4
      have hlt5:=h4.cur.lt
      replace F3:=mkHid (F3.out.small h4 e4)
      have kB:=mkHid (HI.out (j2+1) _ _ _ v2 (E++A3) w4 h4 F3.out.gl (by omega) (by rw[List.length_append];omega))
      obtain⟨Z3,hZ3⟩:∃Z3,Rf.cho T t c F (j2+1) N2=Z3:=⟨_,rfl⟩
      rw[← hN2.out,hZ3] at kB
      rw[hZ3] at hR4
      replace hR4:=mkHid hR4
      clear kE h0 h4 e4 hR2 hZ3
      go_wp2_with (go_at_call 177;fail)
      refine kB.out.mono ?_
      rintro e w6 ⟨e6,h6⟩
      clear kB
      cases Z3 with
      | bad j3=>
       obtain rfl:e=_:=h6
       exact⟨rfl,F3.out.ef.trans F3.out.nw e6,PrO.bad (by rw[← hR4.out];rfl)⟩
      | ok j3 N3=>
       rcases h6 with ⟨A7,v7,rfl,hN3,hp7⟩|hx
       ·have hcn7:=hp7.cnt
        have hR5:Rf.Out.ok j3 (N3 ++ [{ Rf.zn 2 with kids:=[Rf.last N,Rf.last N2,Rf.last N3] }])=R:=hR4.out
        obtain⟨z3,hz3⟩:∃z3,Rf.last N3=z3:=⟨_,rfl⟩
        rw[hz3]
        rw[hz.out,hz2.out,hz3,hN3,List.append_assoc] at hR5
        have hA7:(A3++A7).length=A3.length+A7.length:=List.length_append
        replace F3:=mkHid (F3.out.call e6 hp7)
        obtain⟨A8,hA8⟩:∃A8,A3++A7=A8:=⟨_,rfl⟩
        rw[hA8] at hA7 F3 hR5
        replace hR5:=mkHid hR5.symm
        have hle8:A8.length≤A3.length+A7.length:=by omega
        have hlt7:j3<T.length:=by obtain⟨_,_,_,h⟩:=hp7.ps;exact h.cur.lt
        clear hp7 e6 hR4 hN3 hz3 hA7 hA8
        go_wp2_with (at_builtin;go_must (refine wp_appNat rfl _ _ rfl w.heap.size (.slice (some ⟨w2.heap.size,0,none⟩) 2 2) [z,z2] rfl F3.out.od z3 1 rfl (by simp) F3.out.ef.size ?_;intro v4 w7 ho4 hg4 hn4;refine Hid.out ?_))
        refine mkHid ?_
        have HQ:=F3.out.kid ho4 hg4 hn4
        rw[show [z,z2] ++ [z3]=[z,z2,z3] from rfl] at HQ
        obtain⟨o9,c9,hsh⟩:=own_shape HQ.od
        subst hsh
        have kA:=mkHid (HQ.add { Rf.zn 2 with kids:=[z,z2,z3] } rfl rfl rfl (by rw[List.length_append];omega))
        clear ho4 hg4 hn4 F3 HQ
        unfold ndV Rf.zn at kA
        dsimp only at kA
        go_wp2_with (go_at_call 149;fail)
        refine kA.out.mono ?_
        rintro e w8 ⟨rfl,v6,A6,hA6,e6,n6,p6,f6,f7⟩
        obtain⟨y,hy⟩:∃y:Int,((E++A8).length:Int)=y:=⟨_,rfl⟩
        have hfin:Hid (Ef g v.ownBlock w w8∧PrO g s l T n v E w R (.returned (.int .i64 y)) w8):=by rw[← hy];exact⟨e6,PrO.added hA6.out hR5.out n6 p6 f6 f7 (by omega)⟩
        rw[hy]
        clear hy
        clear hA6 e6 n6 p6 f6 f7 kA hR5
        go_wp2
        go_ret
        exact hfin.out
       ·obtain⟨m1,m2,rfl⟩:=hx
        refine⟨rfl,F3.out.ef.trans F3.out.nw e6,PrO.ofX2 (N:=N3 ++ [{ Rf.zn 2 with kids:=[Rf.last N,Rf.last N2,Rf.last N3] }]) ⟨m1,m2,rfl⟩ ?_⟩
        rw[← hR4.out]
        rfl
     ·obtain⟨m1,m2,rfl⟩:=hx
      refine⟨rfl,F3.out.ef.trans F3.out.nw e4.weak,PrO.ofX ⟨m1,m2,rfl⟩ ?_⟩
      rw[← hR2.out,if_pos h0,hXc.out _ _ m2]
      rfl
    ·obtain⟨m1,m2,rfl⟩:=hx
     refine⟨rfl,F1.out.ef.trans F1.out.nw e2,PrO.ofX2 (N:=N2 ++ [{ Rf.zn 2 with kids:=[Rf.last N,Rf.last N2] }]) ⟨m1,m2,rfl⟩ ?_⟩
     rw[← hR1.out]
     show(if Rf.is T j2 119 Rf.wElsif=true then _ else if Rf.is T j2 119 Rf.wElse=true then _ else _)=_
     rw[is_x m2 119 (by decide),if_neg (by decide),is_x m2 119 (by decide),if_neg (by decide)]
  ·obtain⟨m1,m2,rfl⟩:=hx
   refine⟨rfl,e1,PrO.ofX ⟨m1,m2,rfl⟩ ?_⟩
   rw[← hR.out]
   show Rf.cho2 T t c F N (Rf.blk T c j N)=_
   rw[hXb.out _ _ m2]
   rfl
theorem prChoice (g:Nat)(s:ByteArray)(l:List UInt8)(T:List Rf.Tk)(f:Nat)(t c:Nat→List Nd→Rf.Out)(hl:s.data.toList=l)(hs:s.size≤100000)(hT:T.length≤30000)(hXt:Rf.Kx T t)(hTst:PrC 203 g s l T f t)(hBlk:PrC 179 g s l T f (Rf.blk T c)) :
  ∀F f1,f1≤f→f1≤F→PrC 177 g s l T f1 (Rf.cho T t c F)
 | F,0,_,_=>fun n kd x a v E w h _ hf _=>by have:=h.cur.lt;omega
 | 0,f1+1,_,h2=>absurd h2 (by omega)
 | F+1,f1+1,h1,h2=>prChoice1 g s l T f f1 F t c hl hs hT hXt hTst hBlk (prChoice g s l T f t c hl hs hT hXt hTst hBlk F f1 (by omega) (by omega)) h1
theorem PrO.behind {g:Nat} {s:ByteArray} {l:List UInt8} {T:List Rf.Tk} {n:Nat} {v:Value} {E:List NdE} {w w0 w':World} {R:Rf.Out} {e:Ending} (h:PrO g s l T (n+1) v E w0 R e w')(hs:w.heap.size≤w0.heap.size):PrO g s l T n v E w R e w':=by
 cases R with
 | bad j=>exact h
 | ok j N=>
  rcases h with ⟨A,v',e1,e2,p⟩|h
  ·exact .inl ⟨A,v',e1,e2,p.ps,Nw.ahead hs p.nw,fun s hs'=>(p.fr s hs').imp id fun h k hk=>Nat.le_trans hs (h k hk),fun s hs'=>(p.frN s hs').imp id fun h k hk=>Nat.le_trans hs (h k hk),by have:=p.cnt;omega⟩
  ·exact .inr h
theorem prCmdIf (g:Nat)(s:ByteArray)(l:List UInt8)(T:List Rf.Tk)(f:Nat)(t c:Nat→List Nd→Rf.Out)(hl:s.data.toList=l)(hs:s.size≤100000)(hT:T.length≤30000)(hXc:Rf.Kx T (Rf.cho T t c T.length))(hCho:PrC 177 g s l T f (Rf.cho T t c T.length))(hBlk:PrC 179 g s l T f (Rf.blk T c))(hGT:GoodT T)(n kd:Nat)(x:List UInt8)(a:Nat)(v:Value)(E:List NdE)(w:World)(h:Ps g s l T n kd x a v E w)(hG:Gl g w)(hf:T.length≤n+(f+1))(hE:E.length≤3*n+5)(hw:(kd==1 && Fn.isCmd (Rf.lk x))=true)(hk:Rf.lk x=2)(hx:x=Rf.wIf) :
  Calls Tryz.prog 148 #[scp g] w fun e w'=>Ef g v.ownBlock w w'∧PrO g s l T n v E w (Rf.cmd T t c n (E.map (·.1))) e w':=by
 obtain⟨q1,q2,-⟩:=h.cur.cmd.1 hw
 obtain⟨R,hR⟩:∃R,Rf.cmd T t c n (E.map (·.1))=R:=⟨_,rfl⟩
 rw[hR]
 rw[Rf.cmd_if T t c n _ (by unfold Rf.is;rw[q1,q2,hx];rfl)] at hR
 have kK:=mkHid (prKind kindCmd h hl hs hG.ft (fun _=>by rw[q1];exact⟨by decide,by decide⟩))
 rw[hw,hk] at kK
 have F0:=mkHid (Pf.start h hG)
 have hgl:=h.sc.lt
 have HR:=mkHid hR
 have HC:=mkHid hCho
 have HX:=mkHid hXc
 have HL:=mkHid hBlk
 have HG:=mkHid hGT
 have _hf:=hf
 have _hT:=hT
 have _hE:=hE
 clear h hG q1 q2 hw hk hR hCho hXc hGT hBlk
 go_enter Tryz.func148,Tryz.ntmps148
 go_wp2_with (go_at_call 175;fail)
 refine kK.out.mono ?_
 rintro e w1 ⟨e1,⟨h0,-⟩|⟨-,⟨kd1,x1,a1,rfl,h1⟩|hx⟩⟩
 ·cases h0
 ·obtain⟨B,hB⟩:∃B,w1.heap.size=B:=⟨_,rfl⟩
  obtain⟨W0,hW0⟩:∃W0,w1.alloc (.cells #[.int .i64 2,.int .i64 0,.int .i64 0,.string ⟨#[]⟩,.slice none 0 0,.slice none 0 0,.slice none 0 0] 109)=W0:=⟨_,rfl⟩
  have b0:Below w1.heap.size w1 W0:=by rw[← hW0];exact(Below.refl _ _).alloc (Nat.le_refl _) _
  have F2:=mkHid ((F0.out.small (by rw[List.append_nil];exact h1) e1).below b0)
  have P0:Hid (Pb w B #[.int .i64 2,.int .i64 0,.int .i64 0,.string ⟨#[]⟩,.slice none 0 0,.slice none 0 0,.slice none 0 0] v W0):=by show Pb w B _ v W0;rw[← hW0,← hB];exact Pb.new h1 e1.size
  obtain⟨kd0,x0,a0,p0⟩:=F2.out.ps
  have hn1:=p0.cur.lt
  have HW0:=mkHid hW0
  have HB:=mkHid hB
  have HP0:=mkHid p0
  clear h1 e1 b0 hB hW0 kK F0 p0
  have kC:=HC.out (n+1) kd0 x0 a0 v (E++([]:List NdE)) W0 HP0.out F2.out.gl (by omega) (by rw[List.append_nil];omega)
  rw[List.append_nil,HR.out] at kC
  replace kC:=mkHid kC
  clear HP0
  go_wp2_with (go_at_call 177;fail)
  rw[HW0.out]
  refine kC.out.mono ?_
  rintro e w2 ⟨e2,h2⟩
  have hfin:Hid (Ef g v.ownBlock w w2∧PrO g s l T n v E w R e w2):=⟨F2.out.ef.trans F2.out.nw e2,h2.behind F2.out.ef.size⟩
  clear kC e2 F2 P0 HW0 HB HR
  cases R with
  | bad j=>
   obtain rfl:e=_:=h2
   exact⟨rfl,hfin.out⟩
  | ok j N=>
   rcases h2 with ⟨A,v',rfl,-⟩|⟨m1,m2,rfl⟩
   ·obtain⟨y,hy⟩:∃y,Rf.last N=y:=⟨_,rfl⟩
    rw[hy] at hfin ⊢
    clear hy
    go_wp2
    go_ret
    exact hfin.out
   ·exact⟨rfl,hfin.out⟩
 ·obtain⟨m1,m2,rfl⟩:=hx
  refine⟨rfl,e1.weak,?_⟩
  exact PrO.ofX ⟨m1,m2,rfl⟩ (by rw[← HR.out];exact HX.out _ _ m2)
theorem prCmdRep (g:Nat)(s:ByteArray)(l:List UInt8)(T:List Rf.Tk)(f:Nat)(t c:Nat→List Nd→Rf.Out)(hl:s.data.toList=l)(hs:s.size≤100000)(hT:T.length≤30000)(hXc:Rf.Kx T (Rf.cho T t c T.length))(hCho:PrC 177 g s l T f (Rf.cho T t c T.length))(hBlk:PrC 179 g s l T f (Rf.blk T c))(hGT:GoodT T)(n kd:Nat)(x:List UInt8)(a:Nat)(v:Value)(E:List NdE)(w:World)(h:Ps g s l T n kd x a v E w)(hG:Gl g w)(hf:T.length≤n+(f+1))(hE:E.length≤3*n+5)(hw:(kd==1 && Fn.isCmd (Rf.lk x))=true)(hk:Rf.lk x=3)(hx:x=Rf.wRepeat) :
  Calls Tryz.prog 148 #[scp g] w fun e w'=>Ef g v.ownBlock w w'∧PrO g s l T n v E w (Rf.cmd T t c n (E.map (·.1))) e w':=by
 obtain⟨q1,q2,-⟩:=h.cur.cmd.1 hw
 obtain⟨R,hR⟩:∃R,Rf.cmd T t c n (E.map (·.1))=R:=⟨_,rfl⟩
 rw[hR]
 rw[Rf.cmd_rep T t c n _ (by unfold Rf.is;rw[q1,q2,hx];rfl)] at hR
 have kK:=mkHid (prKind kindCmd h hl hs hG.ft (fun _=>by rw[q1];exact⟨by decide,by decide⟩))
 rw[hw,hk] at kK
 have F0:=mkHid (Pf.start h hG)
 have hgl:=h.sc.lt
 have HR:=mkHid hR
 have HC:=mkHid hCho
 have HX:=mkHid hXc
 have HL:=mkHid hBlk
 have HG:=mkHid hGT
 have _hf:=hf
 have _hT:=hT
 have _hE:=hE
 clear h hG q1 q2 hw hk hR hCho hXc hGT hBlk
 go_enter Tryz.func148,Tryz.ntmps148
 go_wp2_with (go_at_call 175;fail)
 refine kK.out.mono ?_
 rintro e w1 ⟨e1,⟨h0,-⟩|⟨-,⟨kd1,x1,a1,rfl,h1⟩|hx⟩⟩
 ·cases h0
 ·obtain⟨B,hB⟩:∃B,w1.heap.size=B:=⟨_,rfl⟩
  obtain⟨W0,hW0⟩:∃W0,w1.alloc (.cells #[.int .i64 3,.int .i64 0,.int .i64 0,.string ⟨#[]⟩,.slice none 0 0,.slice none 0 0,.slice none 0 0] 109)=W0:=⟨_,rfl⟩
  have b0:Below w1.heap.size w1 W0:=by rw[← hW0];exact(Below.refl _ _).alloc (Nat.le_refl _) _
  have F2:=mkHid ((F0.out.small (by rw[List.append_nil];exact h1) e1).below b0)
  have P0:Hid (Pb w B #[.int .i64 3,.int .i64 0,.int .i64 0,.string ⟨#[]⟩,.slice none 0 0,.slice none 0 0,.slice none 0 0] v W0):=by show Pb w B _ v W0;rw[← hW0,← hB];exact Pb.new h1 e1.size
  obtain⟨kd0,x0,a0,p0⟩:=F2.out.ps
  have hn1:=p0.cur.lt
  have HW0:=mkHid hW0
  have HB:=mkHid hB
  have HP0:=mkHid p0
  clear h1 e1 b0 hB hW0 kK F0 p0
  have kN:=mkHid (prNumber HP0.out hl hs F2.out.gl.er HG.out 100)
  clear HP0
  go_wp2_with (go_at_call 178;fail)
  rw[HW0.out,HB.out]
  clear HW0
  refine kN.out.mono ?_
  rintro e w2 ⟨e2,⟨h0,rfl⟩|⟨h0,⟨kd2,x2,a2,rfl,h2⟩|hx⟩⟩
  ·refine⟨rfl,F2.out.ef.trans F2.out.nw e2.weak,PrO.bad ?_⟩
   rw[← HR.out,if_neg (Bool.eq_false_iff.1 h0)]
  ·obtain⟨y1,hy1⟩:∃y1:Int,(Rf.num (Rf.text T (n+1)):Int)=y1:=⟨_,rfl⟩
   have hR1:=HR.out
   rw[if_pos h0,hy1,← List.append_nil E] at hR1
   rw[hy1]
   have F3:=F2.out.small h2 e2
   have P3:=mkHid (P0.out.ef hgl e2 (.inl rfl))
   have F4:=mkHid (F3.set P3.out 1 (.int .i64 y1))
   have P4:Hid (Pb w B #[.int .i64 3,.int .i64 y1,.int .i64 0,.string ⟨#[]⟩,.slice none 0 0,.slice none 0 0,.slice none 0 0] v (w2.setCell ⟨B,1,none⟩ (.int .i64 y1))):=P3.out.set 1 (.int .i64 y1)
   have c1:w2.cell? ⟨B,1,none⟩=some (.int .i64 0):=P3.out.cell 1 _ rfl
   have z1:w2.frozen? ⟨B,1,none⟩=false:=P3.out.fz 1
   obtain⟨V1,hV1⟩:∃V,w2.setCell ⟨B,1,none⟩ (.int .i64 y1)=V:=⟨_,rfl⟩
   rw[hV1] at F4 P4
   obtain⟨kd4,x4,a4,h4⟩:=F4.out.ps
   have hn2:=h4.cur.lt
   have kB:=mkHid (HL.out (n+2) kd4 x4 a4 v (E++([]:List NdE)) V1 h4 F4.out.gl (by omega) (by rw[List.append_nil];omega))
   obtain⟨Z,hZ⟩:∃Z,Rf.blk T c (n+2) ((E++([]:List NdE)).map (·.1))=Z:=⟨_,rfl⟩
   rw[hZ] at kB hR1
   replace HR:=mkHid hR1
   have HV1:=mkHid hV1
   clear h0 h2 e2 kN hR1 F3 P3 hV1 F2 P0 h4 hZ hy1
   go_wp2_with (go_at_call 179;fail)
   rw[HV1.out]
   clear c1 z1 HV1
   refine kB.out.mono ?_
   rintro e w3 ⟨e3,h3⟩
   clear kB
   cases Z with
   | bad j=>
    obtain rfl:e=_:=h3
    exact⟨rfl,F4.out.ef.trans F4.out.nw e3,PrO.bad (by rw[← HR.out];rfl)⟩
   | ok j N=>
    rcases h3 with ⟨A1,v1,rfl,hN,hp3⟩|hx
    ·have hcn:=hp3.cnt
     have hjT:j<T.length:=by obtain⟨_,_,_,h⟩:=hp3.ps;exact h.cur.lt
     obtain⟨z,hz⟩:∃z,Rf.last N=z:=⟨_,rfl⟩
     rw[hz]
     have F5:=F4.out.call e3 hp3
     rw[List.nil_append] at F5
     have P5:=P4.out.call hgl e3 hp3.nw
     have b3:Below w3.heap.size w3 (w3.alloc (.cells #[.int .i64 z] 2)):=(Below.refl _ _).alloc (Nat.le_refl _) _
     have hO:OwnN w3.heap.size (.slice (some ⟨w3.heap.size,0,none⟩) 1 1) [z] (w3.alloc (.cells #[.int .i64 z] 2)):=⟨rfl,.inr ⟨w3.heap.size,1,_,rfl,Nat.le_refl _,heap_alloc_at _ _,Nat.le_refl _,by unfold maxLen;omega,rfl,rfl⟩⟩
     have P6:=mkHid (P5.below b3)
     have F7:=mkHid ((F5.kids b3 hO).set P6.out 6 (.slice (some ⟨w3.heap.size,0,none⟩) 1 1))
     have hNz:Hid (R=.ok j ((E++A1).map (·.1) ++ [{ Rf.zn 3 with num:=y1,kids:=[z] }])):=by
      show R=_
      rw[← HR.out,← hz]
      show Rf.Out.ok j (N ++ [{ Rf.zn 3 with num:=y1,kids:=[Rf.last N] }])=_
      rw[hN,List.append_nil]
     have d0:(w3.alloc (.cells #[.int .i64 z] 2)).cell? ⟨B,0,none⟩=some (.int .i64 3):=P6.out.cell 0 _ rfl
     have d1:(w3.alloc (.cells #[.int .i64 z] 2)).cell? ⟨B,1,none⟩=some (.int .i64 y1):=P6.out.cell 1 _ rfl
     have d2:(w3.alloc (.cells #[.int .i64 z] 2)).cell? ⟨B,2,none⟩=some (.int .i64 0):=P6.out.cell 2 _ rfl
     have d3:(w3.alloc (.cells #[.int .i64 z] 2)).cell? ⟨B,3,none⟩=some (.string ⟨#[]⟩):=P6.out.cell 3 _ rfl
     have d4:(w3.alloc (.cells #[.int .i64 z] 2)).cell? ⟨B,4,none⟩=some (.slice none 0 0):=P6.out.cell 4 _ rfl
     have d5:(w3.alloc (.cells #[.int .i64 z] 2)).cell? ⟨B,5,none⟩=some (.slice none 0 0):=P6.out.cell 5 _ rfl
     have d6:(w3.alloc (.cells #[.int .i64 z] 2)).cell? ⟨B,6,none⟩=some (.slice none 0 0):=P6.out.cell 6 _ rfl
     have z6:(w3.alloc (.cells #[.int .i64 z] 2)).frozen? ⟨B,6,none⟩=false:=P6.out.fz 6
     clear hp3 e3 hN hz F5 P5 b3 hO P6 P4 F4
     have kA:=mkHid (F7.out.add { Rf.zn 3 with num:=y1,kids:=[z] } rfl rfl rfl (by rw[List.length_append];first|omega|(simp;omega)))
     have hRR:Hid (R=.ok j ((E++A1).map (·.1) ++ [{ Rf.zn 3 with num:=y1,kids:=[z] }])):=hNz
     clear HR F7
     unfold ndV Rf.zn at kA
     dsimp only at kA
     go_wp2_with (go_at_call 149;fail)
     refine kA.out.mono ?_
     rintro e w9 ⟨rfl,v9,A9,hA9,e9,n9,p9,f9,g9⟩
     obtain⟨y,hy⟩:∃y:Int,((E++A1).length:Int)=y:=⟨_,rfl⟩
     have hfin:Hid (Ef g v.ownBlock w w9∧PrO g s l T n v E w R (.returned (.int .i64 y)) w9):=by rw[← hy];exact⟨e9,PrO.added hA9.out hRR.out n9 p9 f9 g9 (by first|omega|(simp;omega))⟩
     rw[hy]
     clear hA9 e9 n9 p9 f9 g9 kA hRR hy
     clear d0 d1 d2 d3 d4 d5 d6
     go_wp2
     go_ret
     exact hfin.out
    ·obtain⟨m1,m2,rfl⟩:=hx
     exact⟨rfl,F4.out.ef.trans F4.out.nw e3,PrO.ofX2 (N:=N ++ [{ Rf.zn 3 with num:=y1,kids:=[Rf.last N] }]) ⟨m1,m2,rfl⟩ (by rw[← HR.out];rfl)⟩
  ·obtain⟨m1,m2,rfl⟩:=hx
   refine⟨rfl,F2.out.ef.trans F2.out.nw e2.weak,PrO.ofX ⟨m1,m2,rfl⟩ ?_⟩
   rw[← HR.out,if_pos h0,Rf.blk_x c _ _ m2]
   rfl
 ·obtain⟨m1,m2,rfl⟩:=hx
  refine⟨rfl,e1.weak,?_⟩
  refine PrO.ofX ⟨m1,m2,rfl⟩ ?_
  rw[← HR.out,m2]
  rfl
theorem prCmd4 (g:Nat)(s:ByteArray)(l:List UInt8)(T:List Rf.Tk)(f:Nat)(t c:Nat→List Nd→Rf.Out)(hl:s.data.toList=l)(hs:s.size≤100000)(hT:T.length≤30000)(hXc:Rf.Kx T (Rf.cho T t c T.length))(hCho:PrC 177 g s l T f (Rf.cho T t c T.length))(hBlk:PrC 179 g s l T f (Rf.blk T c))(hGT:GoodT T)(n kd:Nat)(x:List UInt8)(a:Nat)(v:Value)(E:List NdE)(w:World)(h:Ps g s l T n kd x a v E w)(hG:Gl g w)(hf:T.length≤n+(f+1))(hE:E.length≤3*n+5)(hw:(kd==1 && Fn.isCmd (Rf.lk x))=true)(hk:Rf.lk x=4)(h1:(x==Rf.wIf)=false)(h2:(x==Rf.wRepeat)=false)(h3:(x==Rf.wSet)=false)(h4:Rf.cmdK x=Rf.lk x) :
  Calls Tryz.prog 148 #[scp g] w fun e w'=>Ef g v.ownBlock w w'∧PrO g s l T n v E w (Rf.cmd T t c n (E.map (·.1))) e w':=by
 obtain⟨q1,q2,-⟩:=h.cur.cmd.1 hw
 obtain⟨R,hR⟩:∃R,Rf.cmd T t c n (E.map (·.1))=R:=⟨_,rfl⟩
 rw[hR]
 rw[Rf.cmd_one T t c n _ 4 q1 (by rw[q2];exact h1) (by rw[q2];exact h2) (by rw[q2];exact h3) (by rw[q2,h4,hk]) (by decide) (by decide)] at hR
 have kK:=mkHid (prKind kindCmd h hl hs hG.ft (fun _=>by rw[q1];exact⟨by decide,by decide⟩))
 rw[hw,hk] at kK
 have F0:=mkHid (Pf.start h hG)
 have hgl:=h.sc.lt
 have HR:=mkHid hR
 have HC:=mkHid hCho
 have HX:=mkHid hXc
 have HL:=mkHid hBlk
 have HG:=mkHid hGT
 have _hf:=hf
 have _hT:=hT
 have _hE:=hE
 clear h hG q1 q2 hw hk hR hCho hXc hGT hBlk
 go_enter Tryz.func148,Tryz.ntmps148
 go_wp2_with (go_at_call 175;fail)
 refine kK.out.mono ?_
 rintro e w1 ⟨e1,⟨h0,-⟩|⟨-,⟨kd1,x1,a1,rfl,h1⟩|hx⟩⟩
 ·cases h0
 ·obtain⟨B,hB⟩:∃B,w1.heap.size=B:=⟨_,rfl⟩
  obtain⟨W0,hW0⟩:∃W0,w1.alloc (.cells #[.int .i64 4,.int .i64 0,.int .i64 0,.string ⟨#[]⟩,.slice none 0 0,.slice none 0 0,.slice none 0 0] 109)=W0:=⟨_,rfl⟩
  have b0:Below w1.heap.size w1 W0:=by rw[← hW0];exact(Below.refl _ _).alloc (Nat.le_refl _) _
  have F2:=mkHid ((F0.out.small (by rw[List.append_nil];exact h1) e1).below b0)
  have P0:Hid (Pb w B #[.int .i64 4,.int .i64 0,.int .i64 0,.string ⟨#[]⟩,.slice none 0 0,.slice none 0 0,.slice none 0 0] v W0):=by show Pb w B _ v W0;rw[← hW0,← hB];exact Pb.new h1 e1.size
  obtain⟨kd0,x0,a0,p0⟩:=F2.out.ps
  have hn1:=p0.cur.lt
  have HW0:=mkHid hW0
  have HB:=mkHid hB
  have HP0:=mkHid p0
  clear h1 e1 b0 hB hW0 kK F0 p0
  have kS:=mkHid (prSign HP0.out hl hs [59] (by decide) (by decide))
  rw[show Rf.cls [59]=112 from rfl] at kS
  clear HP0
  go_wp2_with (go_at_call 183;fail)
  rw[HW0.out,HB.out]
  clear HW0
  refine kS.out.mono ?_
  rintro e w7 ⟨e7,⟨h0,rfl⟩|⟨h0,⟨kd7,x7,a7,rfl,h7⟩|hx⟩⟩
  ·refine⟨rfl,F2.out.ef.trans F2.out.nw e7.weak,PrO.bad ?_⟩
   rw[← HR.out,if_neg (Bool.eq_false_iff.1 h0)]
  ·have hR7:=HR.out
   rw[if_pos h0] at hR7
   have hjT:=h7.cur.lt
   have F8:=mkHid (F2.out.small h7 e7)
   have P8:=mkHid (P0.out.ef hgl e7 (.inl rfl))
   have hNz:Hid (R=.ok (n+2) ((E++([]:List NdE)).map (·.1) ++ [(Rf.zn 4)])):=by show R=_;rw[← hR7,List.append_nil]
   have d0:(w7).cell? ⟨B,0,none⟩=some (.int .i64 4):=P8.out.cell 0 _ rfl
   have d1:(w7).cell? ⟨B,1,none⟩=some (.int .i64 0):=P8.out.cell 1 _ rfl
   have d2:(w7).cell? ⟨B,2,none⟩=some (.int .i64 0):=P8.out.cell 2 _ rfl
   have d3:(w7).cell? ⟨B,3,none⟩=some (.string ⟨#[]⟩):=P8.out.cell 3 _ rfl
   have d4:(w7).cell? ⟨B,4,none⟩=some (.slice none 0 0):=P8.out.cell 4 _ rfl
   have d5:(w7).cell? ⟨B,5,none⟩=some (.slice none 0 0):=P8.out.cell 5 _ rfl
   have d6:(w7).cell? ⟨B,6,none⟩=some (.slice none 0 0):=P8.out.cell 6 _ rfl
   clear h0 h7 e7 hR7 P8 P0 F2 kS
   have kA:=mkHid (F8.out.add (Rf.zn 4) rfl rfl rfl (by rw[List.length_append];first|omega|(simp;omega)))
   have hRR:Hid (R=.ok (n+2) ((E++([]:List NdE)).map (·.1) ++ [(Rf.zn 4)])):=hNz
   clear HR F8
   unfold ndV Rf.zn at kA
   dsimp only at kA
   go_wp2_with (go_at_call 149;fail)
   refine kA.out.mono ?_
   rintro e w9 ⟨rfl,v9,A9,hA9,e9,n9,p9,f9,g9⟩
   obtain⟨y,hy⟩:∃y:Int,((E++([]:List NdE)).length:Int)=y:=⟨_,rfl⟩
   have hfin:Hid (Ef g v.ownBlock w w9∧PrO g s l T n v E w R (.returned (.int .i64 y)) w9):=by rw[← hy];exact⟨e9,PrO.added hA9.out hRR.out n9 p9 f9 g9 (by first|omega|(simp;omega))⟩
   rw[hy]
   clear hA9 e9 n9 p9 f9 g9 kA hRR hy
   clear d0 d1 d2 d3 d4 d5 d6
   go_wp2
   go_ret
   exact hfin.out
  ·obtain⟨m1,m2,rfl⟩:=hx
   exact⟨rfl,F2.out.ef.trans F2.out.nw e7.weak,PrO.ofX2 ⟨m1,m2,rfl⟩ (by rw[← HR.out,if_pos h0])⟩
 ·obtain⟨m1,m2,rfl⟩:=hx
  refine⟨rfl,e1.weak,?_⟩
  refine PrO.ofX ⟨m1,m2,rfl⟩ ?_
  rw[← HR.out,is_x m2 112 (by decide)]
  rfl
theorem prCmd5 (g:Nat)(s:ByteArray)(l:List UInt8)(T:List Rf.Tk)(f:Nat)(t c:Nat→List Nd→Rf.Out)(hl:s.data.toList=l)(hs:s.size≤100000)(hT:T.length≤30000)(hXc:Rf.Kx T (Rf.cho T t c T.length))(hCho:PrC 177 g s l T f (Rf.cho T t c T.length))(hBlk:PrC 179 g s l T f (Rf.blk T c))(hGT:GoodT T)(n kd:Nat)(x:List UInt8)(a:Nat)(v:Value)(E:List NdE)(w:World)(h:Ps g s l T n kd x a v E w)(hG:Gl g w)(hf:T.length≤n+(f+1))(hE:E.length≤3*n+5)(hw:(kd==1 && Fn.isCmd (Rf.lk x))=true)(hk:Rf.lk x=5)(h1:(x==Rf.wIf)=false)(h2:(x==Rf.wRepeat)=false)(h3:(x==Rf.wSet)=false)(h4:Rf.cmdK x=Rf.lk x) :
  Calls Tryz.prog 148 #[scp g] w fun e w'=>Ef g v.ownBlock w w'∧PrO g s l T n v E w (Rf.cmd T t c n (E.map (·.1))) e w':=by
 obtain⟨q1,q2,-⟩:=h.cur.cmd.1 hw
 obtain⟨R,hR⟩:∃R,Rf.cmd T t c n (E.map (·.1))=R:=⟨_,rfl⟩
 rw[hR]
 rw[Rf.cmd_one T t c n _ 5 q1 (by rw[q2];exact h1) (by rw[q2];exact h2) (by rw[q2];exact h3) (by rw[q2,h4,hk]) (by decide) (by decide)] at hR
 have kK:=mkHid (prKind kindCmd h hl hs hG.ft (fun _=>by rw[q1];exact⟨by decide,by decide⟩))
 rw[hw,hk] at kK
 have F0:=mkHid (Pf.start h hG)
 have hgl:=h.sc.lt
 have HR:=mkHid hR
 have HC:=mkHid hCho
 have HX:=mkHid hXc
 have HL:=mkHid hBlk
 have HG:=mkHid hGT
 have _hf:=hf
 have _hT:=hT
 have _hE:=hE
 clear h hG q1 q2 hw hk hR hCho hXc hGT hBlk
 go_enter Tryz.func148,Tryz.ntmps148
 go_wp2_with (go_at_call 175;fail)
 refine kK.out.mono ?_
 rintro e w1 ⟨e1,⟨h0,-⟩|⟨-,⟨kd1,x1,a1,rfl,h1⟩|hx⟩⟩
 ·cases h0
 ·obtain⟨B,hB⟩:∃B,w1.heap.size=B:=⟨_,rfl⟩
  obtain⟨W0,hW0⟩:∃W0,w1.alloc (.cells #[.int .i64 5,.int .i64 0,.int .i64 0,.string ⟨#[]⟩,.slice none 0 0,.slice none 0 0,.slice none 0 0] 109)=W0:=⟨_,rfl⟩
  have b0:Below w1.heap.size w1 W0:=by rw[← hW0];exact(Below.refl _ _).alloc (Nat.le_refl _) _
  have F2:=mkHid ((F0.out.small (by rw[List.append_nil];exact h1) e1).below b0)
  have P0:Hid (Pb w B #[.int .i64 5,.int .i64 0,.int .i64 0,.string ⟨#[]⟩,.slice none 0 0,.slice none 0 0,.slice none 0 0] v W0):=by show Pb w B _ v W0;rw[← hW0,← hB];exact Pb.new h1 e1.size
  obtain⟨kd0,x0,a0,p0⟩:=F2.out.ps
  have hn1:=p0.cur.lt
  have HW0:=mkHid hW0
  have HB:=mkHid hB
  have HP0:=mkHid p0
  clear h1 e1 b0 hB hW0 kK F0 p0
  have kS:=mkHid (prSign HP0.out hl hs [59] (by decide) (by decide))
  rw[show Rf.cls [59]=112 from rfl] at kS
  clear HP0
  go_wp2_with (go_at_call 183;fail)
  rw[HW0.out,HB.out]
  clear HW0
  refine kS.out.mono ?_
  rintro e w7 ⟨e7,⟨h0,rfl⟩|⟨h0,⟨kd7,x7,a7,rfl,h7⟩|hx⟩⟩
  ·refine⟨rfl,F2.out.ef.trans F2.out.nw e7.weak,PrO.bad ?_⟩
   rw[← HR.out,if_neg (Bool.eq_false_iff.1 h0)]
  ·have hR7:=HR.out
   rw[if_pos h0] at hR7
   have hjT:=h7.cur.lt
   have F8:=mkHid (F2.out.small h7 e7)
   have P8:=mkHid (P0.out.ef hgl e7 (.inl rfl))
   have hNz:Hid (R=.ok (n+2) ((E++([]:List NdE)).map (·.1) ++ [(Rf.zn 5)])):=by show R=_;rw[← hR7,List.append_nil]
   have d0:(w7).cell? ⟨B,0,none⟩=some (.int .i64 5):=P8.out.cell 0 _ rfl
   have d1:(w7).cell? ⟨B,1,none⟩=some (.int .i64 0):=P8.out.cell 1 _ rfl
   have d2:(w7).cell? ⟨B,2,none⟩=some (.int .i64 0):=P8.out.cell 2 _ rfl
   have d3:(w7).cell? ⟨B,3,none⟩=some (.string ⟨#[]⟩):=P8.out.cell 3 _ rfl
   have d4:(w7).cell? ⟨B,4,none⟩=some (.slice none 0 0):=P8.out.cell 4 _ rfl
   have d5:(w7).cell? ⟨B,5,none⟩=some (.slice none 0 0):=P8.out.cell 5 _ rfl
   have d6:(w7).cell? ⟨B,6,none⟩=some (.slice none 0 0):=P8.out.cell 6 _ rfl
   clear h0 h7 e7 hR7 P8 P0 F2 kS
   have kA:=mkHid (F8.out.add (Rf.zn 5) rfl rfl rfl (by rw[List.length_append];first|omega|(simp;omega)))
   have hRR:Hid (R=.ok (n+2) ((E++([]:List NdE)).map (·.1) ++ [(Rf.zn 5)])):=hNz
   clear HR F8
   unfold ndV Rf.zn at kA
   dsimp only at kA
   go_wp2_with (go_at_call 149;fail)
   refine kA.out.mono ?_
   rintro e w9 ⟨rfl,v9,A9,hA9,e9,n9,p9,f9,g9⟩
   obtain⟨y,hy⟩:∃y:Int,((E++([]:List NdE)).length:Int)=y:=⟨_,rfl⟩
   have hfin:Hid (Ef g v.ownBlock w w9∧PrO g s l T n v E w R (.returned (.int .i64 y)) w9):=by rw[← hy];exact⟨e9,PrO.added hA9.out hRR.out n9 p9 f9 g9 (by first|omega|(simp;omega))⟩
   rw[hy]
   clear hA9 e9 n9 p9 f9 g9 kA hRR hy
   clear d0 d1 d2 d3 d4 d5 d6
   go_wp2
   go_ret
   exact hfin.out
  ·obtain⟨m1,m2,rfl⟩:=hx
   exact⟨rfl,F2.out.ef.trans F2.out.nw e7.weak,PrO.ofX2 ⟨m1,m2,rfl⟩ (by rw[← HR.out,if_pos h0])⟩
 ·obtain⟨m1,m2,rfl⟩:=hx
  refine⟨rfl,e1.weak,?_⟩
  refine PrO.ofX ⟨m1,m2,rfl⟩ ?_
  rw[← HR.out,is_x m2 112 (by decide)]
  rfl
theorem prCmd6 (g:Nat)(s:ByteArray)(l:List UInt8)(T:List Rf.Tk)(f:Nat)(t c:Nat→List Nd→Rf.Out)(hl:s.data.toList=l)(hs:s.size≤100000)(hT:T.length≤30000)(hXc:Rf.Kx T (Rf.cho T t c T.length))(hCho:PrC 177 g s l T f (Rf.cho T t c T.length))(hBlk:PrC 179 g s l T f (Rf.blk T c))(hGT:GoodT T)(n kd:Nat)(x:List UInt8)(a:Nat)(v:Value)(E:List NdE)(w:World)(h:Ps g s l T n kd x a v E w)(hG:Gl g w)(hf:T.length≤n+(f+1))(hE:E.length≤3*n+5)(hw:(kd==1 && Fn.isCmd (Rf.lk x))=true)(hk:Rf.lk x=6)(h1:(x==Rf.wIf)=false)(h2:(x==Rf.wRepeat)=false)(h3:(x==Rf.wSet)=false)(h4:Rf.cmdK x=Rf.lk x) :
  Calls Tryz.prog 148 #[scp g] w fun e w'=>Ef g v.ownBlock w w'∧PrO g s l T n v E w (Rf.cmd T t c n (E.map (·.1))) e w':=by
 obtain⟨q1,q2,-⟩:=h.cur.cmd.1 hw
 obtain⟨R,hR⟩:∃R,Rf.cmd T t c n (E.map (·.1))=R:=⟨_,rfl⟩
 rw[hR]
 rw[Rf.cmd_one T t c n _ 6 q1 (by rw[q2];exact h1) (by rw[q2];exact h2) (by rw[q2];exact h3) (by rw[q2,h4,hk]) (by decide) (by decide)] at hR
 have kK:=mkHid (prKind kindCmd h hl hs hG.ft (fun _=>by rw[q1];exact⟨by decide,by decide⟩))
 rw[hw,hk] at kK
 have F0:=mkHid (Pf.start h hG)
 have hgl:=h.sc.lt
 have HR:=mkHid hR
 have HC:=mkHid hCho
 have HX:=mkHid hXc
 have HL:=mkHid hBlk
 have HG:=mkHid hGT
 have _hf:=hf
 have _hT:=hT
 have _hE:=hE
 clear h hG q1 q2 hw hk hR hCho hXc hGT hBlk
 go_enter Tryz.func148,Tryz.ntmps148
 go_wp2_with (go_at_call 175;fail)
 refine kK.out.mono ?_
 rintro e w1 ⟨e1,⟨h0,-⟩|⟨-,⟨kd1,x1,a1,rfl,h1⟩|hx⟩⟩
 ·cases h0
 ·obtain⟨B,hB⟩:∃B,w1.heap.size=B:=⟨_,rfl⟩
  obtain⟨W0,hW0⟩:∃W0,w1.alloc (.cells #[.int .i64 6,.int .i64 0,.int .i64 0,.string ⟨#[]⟩,.slice none 0 0,.slice none 0 0,.slice none 0 0] 109)=W0:=⟨_,rfl⟩
  have b0:Below w1.heap.size w1 W0:=by rw[← hW0];exact(Below.refl _ _).alloc (Nat.le_refl _) _
  have F2:=mkHid ((F0.out.small (by rw[List.append_nil];exact h1) e1).below b0)
  have P0:Hid (Pb w B #[.int .i64 6,.int .i64 0,.int .i64 0,.string ⟨#[]⟩,.slice none 0 0,.slice none 0 0,.slice none 0 0] v W0):=by show Pb w B _ v W0;rw[← hW0,← hB];exact Pb.new h1 e1.size
  obtain⟨kd0,x0,a0,p0⟩:=F2.out.ps
  have hn1:=p0.cur.lt
  have HW0:=mkHid hW0
  have HB:=mkHid hB
  have HP0:=mkHid p0
  clear h1 e1 b0 hB hW0 kK F0 p0
  have kS:=mkHid (prSign HP0.out hl hs [59] (by decide) (by decide))
  rw[show Rf.cls [59]=112 from rfl] at kS
  clear HP0
  go_wp2_with (go_at_call 183;fail)
  rw[HW0.out,HB.out]
  clear HW0
  refine kS.out.mono ?_
  rintro e w7 ⟨e7,⟨h0,rfl⟩|⟨h0,⟨kd7,x7,a7,rfl,h7⟩|hx⟩⟩
  ·refine⟨rfl,F2.out.ef.trans F2.out.nw e7.weak,PrO.bad ?_⟩
   rw[← HR.out,if_neg (Bool.eq_false_iff.1 h0)]
  ·have hR7:=HR.out
   rw[if_pos h0] at hR7
   have hjT:=h7.cur.lt
   have F8:=mkHid (F2.out.small h7 e7)
   have P8:=mkHid (P0.out.ef hgl e7 (.inl rfl))
   have hNz:Hid (R=.ok (n+2) ((E++([]:List NdE)).map (·.1) ++ [(Rf.zn 6)])):=by show R=_;rw[← hR7,List.append_nil]
   have d0:(w7).cell? ⟨B,0,none⟩=some (.int .i64 6):=P8.out.cell 0 _ rfl
   have d1:(w7).cell? ⟨B,1,none⟩=some (.int .i64 0):=P8.out.cell 1 _ rfl
   have d2:(w7).cell? ⟨B,2,none⟩=some (.int .i64 0):=P8.out.cell 2 _ rfl
   have d3:(w7).cell? ⟨B,3,none⟩=some (.string ⟨#[]⟩):=P8.out.cell 3 _ rfl
   have d4:(w7).cell? ⟨B,4,none⟩=some (.slice none 0 0):=P8.out.cell 4 _ rfl
   have d5:(w7).cell? ⟨B,5,none⟩=some (.slice none 0 0):=P8.out.cell 5 _ rfl
   have d6:(w7).cell? ⟨B,6,none⟩=some (.slice none 0 0):=P8.out.cell 6 _ rfl
   clear h0 h7 e7 hR7 P8 P0 F2 kS
   have kA:=mkHid (F8.out.add (Rf.zn 6) rfl rfl rfl (by rw[List.length_append];first|omega|(simp;omega)))
   have hRR:Hid (R=.ok (n+2) ((E++([]:List NdE)).map (·.1) ++ [(Rf.zn 6)])):=hNz
   clear HR F8
   unfold ndV Rf.zn at kA
   dsimp only at kA
   go_wp2_with (go_at_call 149;fail)
   refine kA.out.mono ?_
   rintro e w9 ⟨rfl,v9,A9,hA9,e9,n9,p9,f9,g9⟩
   obtain⟨y,hy⟩:∃y:Int,((E++([]:List NdE)).length:Int)=y:=⟨_,rfl⟩
   have hfin:Hid (Ef g v.ownBlock w w9∧PrO g s l T n v E w R (.returned (.int .i64 y)) w9):=by rw[← hy];exact⟨e9,PrO.added hA9.out hRR.out n9 p9 f9 g9 (by first|omega|(simp;omega))⟩
   rw[hy]
   clear hA9 e9 n9 p9 f9 g9 kA hRR hy
   clear d0 d1 d2 d3 d4 d5 d6
   go_wp2
   go_ret
   exact hfin.out
  ·obtain⟨m1,m2,rfl⟩:=hx
   exact⟨rfl,F2.out.ef.trans F2.out.nw e7.weak,PrO.ofX2 ⟨m1,m2,rfl⟩ (by rw[← HR.out,if_pos h0])⟩
 ·obtain⟨m1,m2,rfl⟩:=hx
  refine⟨rfl,e1.weak,?_⟩
  refine PrO.ofX ⟨m1,m2,rfl⟩ ?_
  rw[← HR.out,is_x m2 112 (by decide)]
  rfl
end Go.Proofs.YtkcajnjledldnaaGreatDoor
