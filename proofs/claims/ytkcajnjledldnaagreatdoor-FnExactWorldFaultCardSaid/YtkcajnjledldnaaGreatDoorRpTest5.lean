import Derived.Test.YtkcajnjledldnaaGreatDoorRpTest1
set_option maxRecDepth 20000
set_option maxHeartbeats 8000000
namespace Go.Proofs.YtkcajnjledldnaaGreatDoor
open Go.RowKit Go.Lib Go.Maps
theorem prTest28 (g:Nat)(s:ByteArray)(l:List UInt8)(T:List Rf.Tk)(f:Nat)(t:Nat→List Nd→Rf.Out)(hl:s.data.toList=l)(hs:s.size≤100000)(hT:T.length≤30000)(hXt:Rf.Kx T t)(hTst:PrC 203 g s l T f t)(hGT:GoodT T)(n kd:Nat)(x:List UInt8)(a:Nat)(v:Value)(E:List NdE)(w:World)(h:Ps g s l T n kd x a v E w)(hG:Gl g w)(hf:T.length≤n+(f+1))(hE:E.length≤3*n+5)(hw:(kd==1 && Fn.isTest (Rf.lk x))=true)(hk:Rf.lk x=28) :
  Calls Tryz.prog 203 #[scp g] w fun e w'=>Ef g v.ownBlock w w'∧PrO g s l T n v E w (Rf.tst T t n (E.map (·.1))) e w':=by
 obtain⟨q1,q2,q3,-⟩:=h.cur.tst.1 hw
 obtain⟨R,hR⟩:∃R,Rf.tst T t n (E.map (·.1))=R:=⟨_,rfl⟩
 rw[hR]
 rw[Rf.tst_28 T t n (E.map (·.1)) q1 (by rw[q2,q3,hk])] at hR
 have kK:=mkHid (prKind kindTst h hl hs hG.ft (fun _=>by rw[q1];exact⟨by decide,by decide⟩))
 rw[hw,hk] at kK
 have F0:=mkHid (Pf.start h hG)
 have hgl:=h.sc.lt
 have HR:=mkHid hR
 have HT:=mkHid hTst
 have HX:=mkHid hXt
 have HG:=mkHid hGT
 have _hf:=hf
 clear h hG q1 q2 q3 hw hk hR hTst hXt hGT
 go_enter Tryz.func203,Tryz.ntmps203
 go_wp2_with (go_at_call 175;fail)
 refine kK.out.mono ?_
 rintro e w1 ⟨e1,⟨h0,-⟩|⟨-,⟨kd1,x1,a1,rfl,h1⟩|hx⟩⟩
 ·cases h0
 ·obtain⟨B,hB⟩:∃B,w1.heap.size=B:=⟨_,rfl⟩
  obtain⟨W0,hW0⟩:∃W0,w1.alloc (.cells #[.int .i64 28,.int .i64 0,.int .i64 0,.string ⟨#[]⟩,.slice none 0 0,.slice none 0 0,.slice none 0 0] 109)=W0:=⟨_,rfl⟩
  have b0:Below w1.heap.size w1 W0:=by rw[← hW0];exact(Below.refl _ _).alloc (Nat.le_refl _) _
  have F2:=mkHid ((F0.out.small (by rw[List.append_nil];exact h1) e1).below b0)
  have P0:Hid (Pb w B #[.int .i64 28,.int .i64 0,.int .i64 0,.string ⟨#[]⟩,.slice none 0 0,.slice none 0 0,.slice none 0 0] v W0):=by show Pb w B _ v W0;rw[← hW0,← hB];exact Pb.new h1 e1.size
  obtain⟨kd0,x0,a0,p0⟩:=F2.out.ps
  have hn1:=p0.cur.lt
  have HW0:=mkHid hW0
  have HB:=mkHid hB
  have HP0:=mkHid p0
  clear h1 e1 b0 hB hW0 kK F0 p0
  have HJ:=mkHid (Rf.txts_le T (n+1)).1
  have kX:=mkHid (prTexts HP0.out hl hs (by omega))
  obtain⟨Z,hZ⟩:∃Z,Rf.txts T (n+1)=Z:=⟨_,rfl⟩
  have hR1:=HR.out
  rw[hZ] at hR1 kX
  replace HR:=mkHid hR1
  have hZ2:=mkHid hZ
  clear hR1 hZ HP0
  go_wp2_with (go_at_call 225;fail)
  rw[HW0.out,HB.out]
  clear HW0
  refine kX.out.mono ?_
  rintro e w2 ⟨e2,h2⟩
  clear kX
  cases Z with
  | bad j=>
   obtain rfl:e=_:=h2
   exact⟨rfl,F2.out.ef.trans F2.out.nw e2.weak,PrO.bad (by rw[← HR.out];rfl)⟩
  | ok j M=>
   rcases h2 with ⟨o,c,kd2,x2,a2,rfl,hO,hp2⟩|hx
   ·have hjT:=hp2.cur.lt
    have hnj:n+1<j:=HJ.out j M hZ2.out
    have F3:=F2.out.names hp2 e2 hO
    have P3:=mkHid (P0.out.ef hgl e2 (.inl rfl))
    have F5:=mkHid (F3.set P3.out 4 (.slice o M.length c))
    have hNz:Hid (R=.ok j ((E++([]:List NdE)).map (·.1) ++ [{ Rf.zn 28 with names:=M }])):=by
     show R=_
     rw[← HR.out,List.append_nil]
     rfl
    have d0:(w2).cell? ⟨B,0,none⟩=some (.int .i64 28):=P3.out.cell 0 _ rfl
    have d1:(w2).cell? ⟨B,1,none⟩=some (.int .i64 0):=P3.out.cell 1 _ rfl
    have d2:(w2).cell? ⟨B,2,none⟩=some (.int .i64 0):=P3.out.cell 2 _ rfl
    have d3:(w2).cell? ⟨B,3,none⟩=some (.string ⟨#[]⟩):=P3.out.cell 3 _ rfl
    have d4:(w2).cell? ⟨B,4,none⟩=some (.slice none 0 0):=P3.out.cell 4 _ rfl
    have d5:(w2).cell? ⟨B,5,none⟩=some (.slice none 0 0):=P3.out.cell 5 _ rfl
    have d6:(w2).cell? ⟨B,6,none⟩=some (.slice none 0 0):=P3.out.cell 6 _ rfl
    have z4:(w2).frozen? ⟨B,4,none⟩=false:=P3.out.fz 4
    clear hp2 e2 hO F3 P3 P0 F2
    have kA:=mkHid (F5.out.add { Rf.zn 28 with names:=M } rfl rfl rfl (by rw[List.length_append];first|omega|(simp;omega)))
    have hRR:Hid (R=.ok j ((E++([]:List NdE)).map (·.1) ++ [{ Rf.zn 28 with names:=M }])):=hNz
    clear HR F5
    unfold ndV Rf.zn at kA
    dsimp only at kA
    go_wp2_with (go_at_call 149;fail)
    refine kA.out.mono ?_
    rintro e w9 ⟨rfl,v9,A9,hA9,e9,n9,p9,f9,g9⟩
    obtain⟨y,hy⟩:∃y:Int,((E++([]:List NdE)).length:Int)=y:=⟨_,rfl⟩
    have hfin:Hid (Ef g v.ownBlock w w9∧PrO g s l T n v E w R (.returned (.int .i64 y)) w9):=by rw[← hy];exact⟨e9,PrO.added hA9.out hRR.out n9 p9 f9 g9 (by first|omega|(simp;omega))⟩
    rw[hy]
    clear hA9 e9 n9 p9 f9 g9 kA hRR hy
    clear d0 d1 d2 d3 d4 d5 d6
    go_wp2
    go_ret
    exact hfin.out
   ·obtain⟨m1,m2,rfl⟩:=hx
    exact⟨rfl,F2.out.ef.trans F2.out.nw e2.weak,PrO.ofX2 (N:=E.map (·.1) ++ [{ Rf.zn 28 with names:=M }]) ⟨m1,m2,rfl⟩ (by rw[← HR.out];rfl)⟩
 ·obtain⟨m1,m2,rfl⟩:=hx
  refine⟨rfl,e1.weak,?_⟩
  refine PrO.ofX ⟨m1,m2,rfl⟩ ?_
  rw[← HR.out,Rf.txts_x m2]
  rfl
theorem prTest29 (g:Nat)(s:ByteArray)(l:List UInt8)(T:List Rf.Tk)(f:Nat)(t:Nat→List Nd→Rf.Out)(hl:s.data.toList=l)(hs:s.size≤100000)(hT:T.length≤30000)(hXt:Rf.Kx T t)(hTst:PrC 203 g s l T f t)(hGT:GoodT T)(n kd:Nat)(x:List UInt8)(a:Nat)(v:Value)(E:List NdE)(w:World)(h:Ps g s l T n kd x a v E w)(hG:Gl g w)(hf:T.length≤n+(f+1))(hE:E.length≤3*n+5)(hw:(kd==1 && Fn.isTest (Rf.lk x))=true)(hk:Rf.lk x=29) :
  Calls Tryz.prog 203 #[scp g] w fun e w'=>Ef g v.ownBlock w w'∧PrO g s l T n v E w (Rf.tst T t n (E.map (·.1))) e w':=by
 obtain⟨q1,q2,q3,-⟩:=h.cur.tst.1 hw
 obtain⟨R,hR⟩:∃R,Rf.tst T t n (E.map (·.1))=R:=⟨_,rfl⟩
 rw[hR]
 rw[Rf.tst_29 T t n (E.map (·.1)) q1 (by rw[q2,q3,hk])] at hR
 have kK:=mkHid (prKind kindTst h hl hs hG.ft (fun _=>by rw[q1];exact⟨by decide,by decide⟩))
 rw[hw,hk] at kK
 have F0:=mkHid (Pf.start h hG)
 have hgl:=h.sc.lt
 have HR:=mkHid hR
 have HT:=mkHid hTst
 have HX:=mkHid hXt
 have HG:=mkHid hGT
 have _hf:=hf
 clear h hG q1 q2 q3 hw hk hR hTst hXt hGT
 go_enter Tryz.func203,Tryz.ntmps203
 go_wp2_with (go_at_call 175;fail)
 refine kK.out.mono ?_
 rintro e w1 ⟨e1,⟨h0,-⟩|⟨-,⟨kd1,x1,a1,rfl,h1⟩|hx⟩⟩
 ·cases h0
 ·obtain⟨B,hB⟩:∃B,w1.heap.size=B:=⟨_,rfl⟩
  obtain⟨W0,hW0⟩:∃W0,w1.alloc (.cells #[.int .i64 29,.int .i64 0,.int .i64 0,.string ⟨#[]⟩,.slice none 0 0,.slice none 0 0,.slice none 0 0] 109)=W0:=⟨_,rfl⟩
  have b0:Below w1.heap.size w1 W0:=by rw[← hW0];exact(Below.refl _ _).alloc (Nat.le_refl _) _
  have F2:=mkHid ((F0.out.small (by rw[List.append_nil];exact h1) e1).below b0)
  have P0:Hid (Pb w B #[.int .i64 29,.int .i64 0,.int .i64 0,.string ⟨#[]⟩,.slice none 0 0,.slice none 0 0,.slice none 0 0] v W0):=by show Pb w B _ v W0;rw[← hW0,← hB];exact Pb.new h1 e1.size
  obtain⟨kd0,x0,a0,p0⟩:=F2.out.ps
  have hn1:=p0.cur.lt
  have HW0:=mkHid hW0
  have HB:=mkHid hB
  have HP0:=mkHid p0
  clear h1 e1 b0 hB hW0 kK F0 p0
  have kU:=mkHid (prTakes HP0.out hl hs Rf.wUnder (by decide) (by decide))
  rw[show Rf.cls Rf.wUnder=58 from rfl] at kU
  clear HP0
  go_wp2_with (go_at_call 204;fail)
  rw[HW0.out,HB.out]
  clear HW0
  refine kU.out.mono ?_
  rintro e w2 ⟨e2,⟨h0,rfl,h2⟩|⟨h0,⟨kd2,x2,a2,rfl,h2⟩|hx⟩⟩
  ·have kO:=mkHid (prSign h2 hl hs Rf.wOver (by decide) (by decide))
   rw[show Rf.cls Rf.wOver=58 from rfl] at kO
   have hR1:=HR.out
   rw[h0,Bool.false_or,if_neg (show ¬(false=true) by decide)] at hR1
   replace HR:=mkHid hR1
   replace F2:=mkHid (F2.out.small h2 e2)
   replace P0:=mkHid (P0.out.ef hgl e2 (.inl rfl))
   clear h0 h2 e2 kU hR1
   go_wp2_with (go_at_call 183;fail)
   refine kO.out.mono ?_
   rintro e w4 ⟨e4,⟨h0,rfl⟩|⟨h0,⟨kd4,x4,a4,rfl,h4⟩|hx⟩⟩
   ·refine⟨rfl,F2.out.ef.trans F2.out.nw e4.weak,PrO.bad ?_⟩
    rw[← HR.out,if_neg (Bool.eq_false_iff.1 h0)]
   ·have hR1:=HR.out
    rw[if_pos h0] at hR1
    replace HR:=mkHid hR1
    replace F2:=mkHid (F2.out.small h4 e4)
    replace P0:=mkHid (P0.out.ef hgl e4 (.inl rfl))
    clear h0 e4 kO hR1
    have kN:=mkHid (prNumber h4 hl hs F2.out.gl.er HG.out 999999999)
    clear h4
    go_wp2_with (go_at_call 178;fail)
    refine kN.out.mono ?_
    rintro e w3 ⟨e3,⟨h0,rfl⟩|⟨h0,⟨kd3,x3,a3,rfl,h3⟩|hx⟩⟩
    ·refine⟨rfl,F2.out.ef.trans F2.out.nw e3.weak,PrO.bad ?_⟩
     rw[← HR.out,if_neg (Bool.eq_false_iff.1 h0)]
    ·obtain⟨y1,hy1⟩:∃y1:Int,(Rf.num (Rf.text T (n+2)):Int)=y1:=⟨_,rfl⟩
     have hR3:=HR.out
     rw[if_pos h0,hy1] at hR3
     rw[hy1]
     have hjT:=h3.cur.lt
     have F3:=F2.out.small h3 e3
     have P3:=mkHid (P0.out.ef hgl e3 (.inl rfl))
     have F5:=mkHid (F3.set P3.out 1 (.int .i64 y1))
     have hNz:Hid (R=.ok (n+3) ((E++([]:List NdE)).map (·.1) ++ [{ Rf.zn 29 with num:=y1 }])):=by show R=_;rw[← hR3,List.append_nil]
     have d0:(w3).cell? ⟨B,0,none⟩=some (.int .i64 29):=P3.out.cell 0 _ rfl
     have d1:(w3).cell? ⟨B,1,none⟩=some (.int .i64 0):=P3.out.cell 1 _ rfl
     have d2:(w3).cell? ⟨B,2,none⟩=some (.int .i64 0):=P3.out.cell 2 _ rfl
     have d3:(w3).cell? ⟨B,3,none⟩=some (.string ⟨#[]⟩):=P3.out.cell 3 _ rfl
     have d4:(w3).cell? ⟨B,4,none⟩=some (.slice none 0 0):=P3.out.cell 4 _ rfl
     have d5:(w3).cell? ⟨B,5,none⟩=some (.slice none 0 0):=P3.out.cell 5 _ rfl
     have d6:(w3).cell? ⟨B,6,none⟩=some (.slice none 0 0):=P3.out.cell 6 _ rfl
     have z1:(w3).frozen? ⟨B,1,none⟩=false:=P3.out.fz 1
     clear h3 e3 h0 hR3 hy1 F3 P3 F2 P0 kN
     have kA:=mkHid (F5.out.add { Rf.zn 29 with num:=y1 } rfl rfl rfl (by rw[List.length_append];first|omega|(simp;omega)))
     have hRR:Hid (R=.ok (n+3) ((E++([]:List NdE)).map (·.1) ++ [{ Rf.zn 29 with num:=y1 }])):=hNz
     clear HR F5
     unfold ndV Rf.zn at kA
     dsimp only at kA
     go_wp2_with (go_at_call 149;fail)
     refine kA.out.mono ?_
     rintro e w9 ⟨rfl,v9,A9,hA9,e9,n9,p9,f9,g9⟩
     obtain⟨y,hy⟩:∃y:Int,((E++([]:List NdE)).length:Int)=y:=⟨_,rfl⟩
     have hfin:Hid (Ef g v.ownBlock w w9∧PrO g s l T n v E w R (.returned (.int .i64 y)) w9):=by rw[← hy];exact⟨e9,PrO.added hA9.out hRR.out n9 p9 f9 g9 (by first|omega|(simp;omega))⟩
     rw[hy]
     clear hA9 e9 n9 p9 f9 g9 kA hRR hy
     clear d0 d1 d2 d3 d4 d5 d6
     go_wp2
     go_ret
     exact hfin.out
    ·obtain⟨m1,m2,rfl⟩:=hx
     exact⟨rfl,F2.out.ef.trans F2.out.nw e3.weak,PrO.ofX2 ⟨m1,m2,rfl⟩ (by rw[← HR.out,if_pos h0])⟩
   ·obtain⟨m1,m2,rfl⟩:=hx
    refine⟨rfl,F2.out.ef.trans F2.out.nw e4.weak,PrO.ofX ⟨m1,m2,rfl⟩ ?_⟩
    rw[← HR.out,if_pos h0,m2]
    rfl
  ·have hR1:=HR.out
   rw[h0,Bool.true_or,if_pos rfl,if_pos rfl] at hR1
   replace HR:=mkHid hR1
   have F4:=F2.out.small h2 e2
   have P4:=mkHid (P0.out.ef hgl e2 (.inl rfl))
   have F6:=mkHid (F4.set P4.out 0 (.int .i64 30))
   have P6:Hid (Pb w B #[.int .i64 30,.int .i64 0,.int .i64 0,.string ⟨#[]⟩,.slice none 0 0,.slice none 0 0,.slice none 0 0] v (w2.setCell ⟨B,0,none⟩ (.int .i64 30))):=P4.out.set 0 (.int .i64 30)
   have c0:w2.cell? ⟨B,0,none⟩=some (.int .i64 29):=P4.out.cell 0 _ rfl
   have z0:w2.frozen? ⟨B,0,none⟩=false:=P4.out.fz 0
   obtain⟨V,hV⟩:∃V,w2.setCell ⟨B,0,none⟩ (.int .i64 30)=V:=⟨_,rfl⟩
   rw[hV] at F6 P6
   obtain⟨kd5,x5,a5,h5⟩:=F6.out.ps
   have HV:=mkHid hV
   clear h0 h2 e2 kU hR1 F4 P4 hV F2 P0
   have kN:=mkHid (prNumber h5 hl hs F6.out.gl.er HG.out 999999999)
   clear h5
   go_wp2_with (go_at_call 178;fail)
   rw[HV.out]
   refine kN.out.mono ?_
   rintro e w3 ⟨e3,⟨h0,rfl⟩|⟨h0,⟨kd3,x3,a3,rfl,h3⟩|hx⟩⟩
   ·refine⟨rfl,F6.out.ef.trans F6.out.nw e3.weak,PrO.bad ?_⟩
    rw[← HR.out,if_neg (Bool.eq_false_iff.1 h0)]
   ·obtain⟨y1,hy1⟩:∃y1:Int,(Rf.num (Rf.text T (n+2)):Int)=y1:=⟨_,rfl⟩
    have hR3:=HR.out
    rw[if_pos h0,hy1] at hR3
    rw[hy1]
    have hjT:=h3.cur.lt
    have F3:=F6.out.small h3 e3
    have P3:=mkHid (P6.out.ef hgl e3 (.inl rfl))
    have F5:=mkHid (F3.set P3.out 1 (.int .i64 y1))
    have hNz:Hid (R=.ok (n+3) ((E++([]:List NdE)).map (·.1) ++ [{ Rf.zn 30 with num:=y1 }])):=by show R=_;rw[← hR3,List.append_nil]
    have d0:(w3).cell? ⟨B,0,none⟩=some (.int .i64 30):=P3.out.cell 0 _ rfl
    have d1:(w3).cell? ⟨B,1,none⟩=some (.int .i64 0):=P3.out.cell 1 _ rfl
    have d2:(w3).cell? ⟨B,2,none⟩=some (.int .i64 0):=P3.out.cell 2 _ rfl
    have d3:(w3).cell? ⟨B,3,none⟩=some (.string ⟨#[]⟩):=P3.out.cell 3 _ rfl
    have d4:(w3).cell? ⟨B,4,none⟩=some (.slice none 0 0):=P3.out.cell 4 _ rfl
    have d5:(w3).cell? ⟨B,5,none⟩=some (.slice none 0 0):=P3.out.cell 5 _ rfl
    have d6:(w3).cell? ⟨B,6,none⟩=some (.slice none 0 0):=P3.out.cell 6 _ rfl
    have z1:(w3).frozen? ⟨B,1,none⟩=false:=P3.out.fz 1
    clear h3 e3 h0 hR3 hy1 F3 P3 F6 P6 kN
    have kA:=mkHid (F5.out.add { Rf.zn 30 with num:=y1 } rfl rfl rfl (by rw[List.length_append];first|omega|(simp;omega)))
    have hRR:Hid (R=.ok (n+3) ((E++([]:List NdE)).map (·.1) ++ [{ Rf.zn 30 with num:=y1 }])):=hNz
    clear HR F5
    unfold ndV Rf.zn at kA
    dsimp only at kA
    go_wp2_with (go_at_call 149;fail)
    refine kA.out.mono ?_
    rintro e w9 ⟨rfl,v9,A9,hA9,e9,n9,p9,f9,g9⟩
    obtain⟨y,hy⟩:∃y:Int,((E++([]:List NdE)).length:Int)=y:=⟨_,rfl⟩
    have hfin:Hid (Ef g v.ownBlock w w9∧PrO g s l T n v E w R (.returned (.int .i64 y)) w9):=by rw[← hy];exact⟨e9,PrO.added hA9.out hRR.out n9 p9 f9 g9 (by first|omega|(simp;omega))⟩
    rw[hy]
    clear hA9 e9 n9 p9 f9 g9 kA hRR hy
    clear d0 d1 d2 d3 d4 d5 d6
    go_wp2
    go_ret
    exact hfin.out
   ·obtain⟨m1,m2,rfl⟩:=hx
    exact⟨rfl,F6.out.ef.trans F6.out.nw e3.weak,PrO.ofX2 ⟨m1,m2,rfl⟩ (by rw[← HR.out,if_pos h0])⟩
  ·obtain⟨m1,m2,rfl⟩:=hx
   refine⟨rfl,F2.out.ef.trans F2.out.nw e2.weak,PrO.ofX ⟨m1,m2,rfl⟩ ?_⟩
   rw[← HR.out,h0,Bool.true_or,if_pos rfl,m2]
   rfl
 ·obtain⟨m1,m2,rfl⟩:=hx
  refine⟨rfl,e1.weak,?_⟩
  refine PrO.ofX ⟨m1,m2,rfl⟩ ?_
  rw[← HR.out,is_x m2 58 (by decide),is_x m2 58 (by decide)]
  rfl
def Rf.ma2 (k:Int)(N:List Nd)(m:Int)(A:List ByteArray):Rf.TO→Rf.Out
 | .ok i B=>.ok i (N ++ [{ Rf.zn k with mat:=m,names:=A,keys:=B }])
 | .bad j=>.bad j
def Rf.ma1 (T:List Rf.Tk)(k:Int)(N:List Nd)(m:Int):Rf.TO→Rf.Out
 | .ok i A=>Rf.ma2 k N m A (Rf.txts T i)
 | .bad j=>.bad j
theorem Rf.ma_some (T:List Rf.Tk)(i:Nat)(k:Int)(N:List Nd)(m:Int):Rf.maEnd T i k N (some m)=Rf.ma1 T k N m (Rf.txts T (i+2)):=by
 unfold Rf.maEnd
 dsimp only
 cases Rf.txts T (i+2) with
 | bad j=>rfl
 | ok i1 A=>
  show(match Rf.txts T i1 with | .ok i2 B=>_ | .bad j=>_)=Rf.ma2 k N m A (Rf.txts T i1)
  cases Rf.txts T i1<;>rfl
theorem prTest25 (g:Nat)(s:ByteArray)(l:List UInt8)(T:List Rf.Tk)(f:Nat)(t:Nat→List Nd→Rf.Out)(hl:s.data.toList=l)(hs:s.size≤100000)(hT:T.length≤30000)(hXt:Rf.Kx T t)(hTst:PrC 203 g s l T f t)(hGT:GoodT T)(n kd:Nat)(x:List UInt8)(a:Nat)(v:Value)(E:List NdE)(w:World)(h:Ps g s l T n kd x a v E w)(hG:Gl g w)(hf:T.length≤n+(f+1))(hE:E.length≤3*n+5)(hw:(kd==1 && Fn.isTest (Rf.lk x))=true)(hk:Rf.lk x=25) :
  Calls Tryz.prog 203 #[scp g] w fun e w'=>Ef g v.ownBlock w w'∧PrO g s l T n v E w (Rf.tst T t n (E.map (·.1))) e w':=by
 obtain⟨q1,q2,q3,-⟩:=h.cur.tst.1 hw
 obtain⟨R,hR⟩:∃R,Rf.tst T t n (E.map (·.1))=R:=⟨_,rfl⟩
 rw[hR]
 rw[Rf.tst_25 T t n (E.map (·.1)) q1 (by rw[q2,q3,hk])] at hR
 have kK:=mkHid (prKind kindTst h hl hs hG.ft (fun _=>by rw[q1];exact⟨by decide,by decide⟩))
 rw[hw,hk] at kK
 have F0:=mkHid (Pf.start h hG)
 have hgl:=h.sc.lt
 have HR:=mkHid hR
 have HT:=mkHid hTst
 have HX:=mkHid hXt
 have HG:=mkHid hGT
 have _hf:=hf
 clear h hG q1 q2 q3 hw hk hR hTst hXt hGT
 go_enter Tryz.func203,Tryz.ntmps203
 go_wp2_with (go_at_call 175;fail)
 refine kK.out.mono ?_
 rintro e w1 ⟨e1,⟨h0,-⟩|⟨-,⟨kd1,x1,a1,rfl,h1⟩|hx⟩⟩
 ·cases h0
 ·obtain⟨B,hB⟩:∃B,w1.heap.size=B:=⟨_,rfl⟩
  obtain⟨W0,hW0⟩:∃W0,w1.alloc (.cells #[.int .i64 25,.int .i64 0,.int .i64 0,.string ⟨#[]⟩,.slice none 0 0,.slice none 0 0,.slice none 0 0] 109)=W0:=⟨_,rfl⟩
  have b0:Below w1.heap.size w1 W0:=by rw[← hW0];exact(Below.refl _ _).alloc (Nat.le_refl _) _
  have F2:=mkHid ((F0.out.small (by rw[List.append_nil];exact h1) e1).below b0)
  have P0:Hid (Pb w B #[.int .i64 25,.int .i64 0,.int .i64 0,.string ⟨#[]⟩,.slice none 0 0,.slice none 0 0,.slice none 0 0] v W0):=by show Pb w B _ v W0;rw[← hW0,← hB];exact Pb.new h1 e1.size
  obtain⟨kd0,x0,a0,p0⟩:=F2.out.ps
  have hn1:=p0.cur.lt
  have HW0:=mkHid hW0
  have HB:=mkHid hB
  have HP0:=mkHid p0
  clear h1 e1 b0 hB hW0 kK F0 p0
  have HJ:=mkHid (fun i=>(Rf.txts_le T i).1)
  have kM:=mkHid (prMatch HP0.out hl hs F2.out.gl.mt)
  clear HP0
  go_wp2_with (go_at_call 224;fail)
  rw[HW0.out,HB.out]
  clear HW0
  refine kM.out.mono ?_
  rintro e w2 ⟨e2,⟨h0,rfl⟩|⟨mm,h0,⟨kd2,x2,a2,rfl,h2⟩|hx⟩⟩
  ·refine⟨rfl,F2.out.ef.trans F2.out.nw e2.weak,PrO.bad ?_⟩
   rw[← HR.out,h0]
   rfl
  ·have hR1:=HR.out
   rw[h0] at hR1
   have F3:=F2.out.small h2 e2
   have P3:=mkHid (P0.out.ef hgl e2 (.inl rfl))
   have F4:=mkHid (F3.set P3.out 2 (.int .i64 mm))
   have P4:Hid (Pb w B #[.int .i64 25,.int .i64 0,.int .i64 mm,.string ⟨#[]⟩,.slice none 0 0,.slice none 0 0,.slice none 0 0] v (w2.setCell ⟨B,2,none⟩ (.int .i64 mm))):=P3.out.set 2 (.int .i64 mm)
   have c2:w2.cell? ⟨B,2,none⟩=some (.int .i64 0):=P3.out.cell 2 _ rfl
   have z2:w2.frozen? ⟨B,2,none⟩=false:=P3.out.fz 2
   obtain⟨V1,hV1⟩:∃V,w2.setCell ⟨B,2,none⟩ (.int .i64 mm)=V:=⟨_,rfl⟩
   rw[hV1] at F4 P4
   obtain⟨kd4,x4,a4,h4⟩:=F4.out.ps
   have kX:=mkHid (prTexts h4 hl hs (by omega))
   obtain⟨Z,hZ⟩:∃Z,Rf.txts T (n+2)=Z:=⟨_,rfl⟩
   rw[show n+1+1=n+2 from rfl,hZ] at kX
   have hR2:Hid (Rf.ma1 T 25 (E.map (·.1)) mm Z=R):=by show _=_;rw[← hZ,← Rf.ma_some];exact hR1
   have HV1:=mkHid hV1
   have hZ1:=mkHid hZ
   clear h0 h2 e2 kM hR1 F3 P3 hV1 F2 P0 h4 hZ HR
   go_wp2_with (go_at_call 225;fail)
   rw[HV1.out]
   clear c2 z2 HV1
   refine kX.out.mono ?_
   rintro e w3 ⟨e3,h3⟩
   clear kX
   cases Z with
   | bad j=>
    obtain rfl:e=_:=h3
    exact⟨rfl,F4.out.ef.trans F4.out.nw e3.weak,PrO.bad (by rw[← hR2.out];rfl)⟩
   | ok j M=>
    rcases h3 with ⟨o,c,kd3,x3,a3,rfl,hO,hp3⟩|hx
    ·have hj1:n+2<j:=HJ.out (n+2) j M hZ1.out
     have F5:=F4.out.names hp3 e3 hO
     have P5:=mkHid (P4.out.ef hgl e3 (.inl rfl))
     have F6:=mkHid (F5.set P5.out 4 (.slice o M.length c))
     have P6:Hid (Pb w B #[.int .i64 25,.int .i64 0,.int .i64 mm,.string ⟨#[]⟩,.slice o M.length c,.slice none 0 0,.slice none 0 0] v (w3.setCell ⟨B,4,none⟩ (.slice o M.length c))):=P5.out.set 4 (.slice o M.length c)
     have c4:w3.cell? ⟨B,4,none⟩=some (.slice none 0 0):=P5.out.cell 4 _ rfl
     have z4:w3.frozen? ⟨B,4,none⟩=false:=P5.out.fz 4
     obtain⟨V2,hV2⟩:∃V,w3.setCell ⟨B,4,none⟩ (.slice o M.length c)=V:=⟨_,rfl⟩
     rw[hV2] at F6 P6
     obtain⟨kd6,x6,a6,h6⟩:=F6.out.ps
     have kX:=mkHid (prTexts h6 hl hs (by omega))
     obtain⟨Z2,hZ2⟩:∃Z,Rf.txts T j=Z:=⟨_,rfl⟩
     rw[hZ2] at kX
     have hR3:Hid (Rf.ma2 25 (E.map (·.1)) mm M Z2=R):=by show _=_;rw[← hZ2];exact hR2.out
     have HV2:=mkHid hV2
     replace hZ2:=mkHid hZ2
     clear e3 F5 P5 hV2 F4 P4 h6 hO hp3 hR2
     go_wp2_with (go_at_call 225;fail)
     rw[HV2.out]
     clear c4 z4 HV2
     refine kX.out.mono ?_
     rintro e w4 ⟨e4,h4⟩
     clear kX
     cases Z2 with
     | bad j2=>
      obtain rfl:e=_:=h4
      exact⟨rfl,F6.out.ef.trans F6.out.nw e4.weak,PrO.bad (by rw[← hR3.out];rfl)⟩
     | ok j2 M2=>
      rcases h4 with ⟨o2,c2,kd4,x4,a4,rfl,hO2,hp4⟩|hx
      ·have hj2:j<j2:=HJ.out j j2 M2 hZ2.out
       have hjT:=hp4.cur.lt
       have F7:=F6.out.keys hp4 e4 hO2
       have P7:=mkHid (P6.out.ef hgl e4 (.inl rfl))
       have F8:=mkHid (F7.set P7.out 5 (.slice o2 M2.length c2))
       have hNz:Hid (R=.ok j2 ((E++([]:List NdE)).map (·.1) ++ [{ Rf.zn 25 with mat:=mm,names:=M,keys:=M2 }])):=by show R=_;rw[← hR3.out,List.append_nil];rfl
       have HR:=hR3
       have d0:(w4).cell? ⟨B,0,none⟩=some (.int .i64 25):=P7.out.cell 0 _ rfl
       have d1:(w4).cell? ⟨B,1,none⟩=some (.int .i64 0):=P7.out.cell 1 _ rfl
       have d2:(w4).cell? ⟨B,2,none⟩=some (.int .i64 mm):=P7.out.cell 2 _ rfl
       have d3:(w4).cell? ⟨B,3,none⟩=some (.string ⟨#[]⟩):=P7.out.cell 3 _ rfl
       have d4:(w4).cell? ⟨B,4,none⟩=some (.slice o M.length c):=P7.out.cell 4 _ rfl
       have d5:(w4).cell? ⟨B,5,none⟩=some (.slice none 0 0):=P7.out.cell 5 _ rfl
       have d6:(w4).cell? ⟨B,6,none⟩=some (.slice none 0 0):=P7.out.cell 6 _ rfl
       have z5:(w4).frozen? ⟨B,5,none⟩=false:=P7.out.fz 5
       clear hp4 e4 hO2 F7 P7 P6 F6
       have kA:=mkHid (F8.out.add { Rf.zn 25 with mat:=mm,names:=M,keys:=M2 } rfl rfl rfl (by rw[List.length_append];first|omega|(simp;omega)))
       have hRR:Hid (R=.ok j2 ((E++([]:List NdE)).map (·.1) ++ [{ Rf.zn 25 with mat:=mm,names:=M,keys:=M2 }])):=hNz
       clear HR F8
       unfold ndV Rf.zn at kA
       dsimp only at kA
       go_wp2_with (go_at_call 149;fail)
       refine kA.out.mono ?_
       rintro e w9 ⟨rfl,v9,A9,hA9,e9,n9,p9,f9,g9⟩
       obtain⟨y,hy⟩:∃y:Int,((E++([]:List NdE)).length:Int)=y:=⟨_,rfl⟩
       have hfin:Hid (Ef g v.ownBlock w w9∧PrO g s l T n v E w R (.returned (.int .i64 y)) w9):=by rw[← hy];exact⟨e9,PrO.added hA9.out hRR.out n9 p9 f9 g9 (by first|omega|(simp;omega))⟩
       rw[hy]
       clear hA9 e9 n9 p9 f9 g9 kA hRR hy
       clear d0 d1 d2 d3 d4 d5 d6
       go_wp2
       go_ret
       exact hfin.out
      ·obtain⟨m1,m2,rfl⟩:=hx
       exact⟨rfl,F6.out.ef.trans F6.out.nw e4.weak,PrO.ofX2 (N:=E.map (·.1) ++ [{ Rf.zn 25 with mat:=mm,names:=M,keys:=M2 }]) ⟨m1,m2,rfl⟩ (by rw[← hR3.out];rfl)⟩
    ·obtain⟨m1,m2,rfl⟩:=hx
     refine⟨rfl,F4.out.ef.trans F4.out.nw e3.weak,PrO.ofX ⟨m1,m2,rfl⟩ ?_⟩
     rw[← hR2.out]
     show Rf.ma2 _ _ _ _ (Rf.txts T j)=_
     rw[Rf.txts_x m2]
     rfl
  ·obtain⟨m1,m2,rfl⟩:=hx
   refine⟨rfl,F2.out.ef.trans F2.out.nw e2.weak,PrO.ofX ⟨m1,m2,rfl⟩ ?_⟩
   rw[← HR.out,h0,Rf.ma_some,Rf.txts_x m2]
   rfl
 ·obtain⟨m1,m2,rfl⟩:=hx
  refine⟨rfl,e1.weak,?_⟩
  refine PrO.ofX ⟨m1,m2,rfl⟩ ?_
  rw[← HR.out,Rf.match_x m2]
  rfl
theorem prTest26 (g:Nat)(s:ByteArray)(l:List UInt8)(T:List Rf.Tk)(f:Nat)(t:Nat→List Nd→Rf.Out)(hl:s.data.toList=l)(hs:s.size≤100000)(hT:T.length≤30000)(hXt:Rf.Kx T t)(hTst:PrC 203 g s l T f t)(hGT:GoodT T)(n kd:Nat)(x:List UInt8)(a:Nat)(v:Value)(E:List NdE)(w:World)(h:Ps g s l T n kd x a v E w)(hG:Gl g w)(hf:T.length≤n+(f+1))(hE:E.length≤3*n+5)(hw:(kd==1 && Fn.isTest (Rf.lk x))=true)(hk:Rf.lk x=26) :
  Calls Tryz.prog 203 #[scp g] w fun e w'=>Ef g v.ownBlock w w'∧PrO g s l T n v E w (Rf.tst T t n (E.map (·.1))) e w':=by
 obtain⟨q1,q2,q3,-⟩:=h.cur.tst.1 hw
 obtain⟨R,hR⟩:∃R,Rf.tst T t n (E.map (·.1))=R:=⟨_,rfl⟩
 rw[hR]
 rw[Rf.tst_26 T t n (E.map (·.1)) q1 (by rw[q2,q3,hk])] at hR
 have kK:=mkHid (prKind kindTst h hl hs hG.ft (fun _=>by rw[q1];exact⟨by decide,by decide⟩))
 rw[hw,hk] at kK
 have F0:=mkHid (Pf.start h hG)
 have hgl:=h.sc.lt
 have HR:=mkHid hR
 have HT:=mkHid hTst
 have HX:=mkHid hXt
 have HG:=mkHid hGT
 have _hf:=hf
 clear h hG q1 q2 q3 hw hk hR hTst hXt hGT
 go_enter Tryz.func203,Tryz.ntmps203
 go_wp2_with (go_at_call 175;fail)
 refine kK.out.mono ?_
 rintro e w1 ⟨e1,⟨h0,-⟩|⟨-,⟨kd1,x1,a1,rfl,h1⟩|hx⟩⟩
 ·cases h0
 ·obtain⟨B,hB⟩:∃B,w1.heap.size=B:=⟨_,rfl⟩
  obtain⟨W0,hW0⟩:∃W0,w1.alloc (.cells #[.int .i64 26,.int .i64 0,.int .i64 0,.string ⟨#[]⟩,.slice none 0 0,.slice none 0 0,.slice none 0 0] 109)=W0:=⟨_,rfl⟩
  have b0:Below w1.heap.size w1 W0:=by rw[← hW0];exact(Below.refl _ _).alloc (Nat.le_refl _) _
  have F2:=mkHid ((F0.out.small (by rw[List.append_nil];exact h1) e1).below b0)
  have P0:Hid (Pb w B #[.int .i64 26,.int .i64 0,.int .i64 0,.string ⟨#[]⟩,.slice none 0 0,.slice none 0 0,.slice none 0 0] v W0):=by show Pb w B _ v W0;rw[← hW0,← hB];exact Pb.new h1 e1.size
  obtain⟨kd0,x0,a0,p0⟩:=F2.out.ps
  have hn1:=p0.cur.lt
  have HW0:=mkHid hW0
  have HB:=mkHid hB
  have HP0:=mkHid p0
  clear h1 e1 b0 hB hW0 kK F0 p0
  have HJ:=mkHid (fun i=>(Rf.txts_le T i).1)
  have kM:=mkHid (prMatch HP0.out hl hs F2.out.gl.mt)
  clear HP0
  go_wp2_with (go_at_call 224;fail)
  rw[HW0.out,HB.out]
  clear HW0
  refine kM.out.mono ?_
  rintro e w2 ⟨e2,⟨h0,rfl⟩|⟨mm,h0,⟨kd2,x2,a2,rfl,h2⟩|hx⟩⟩
  ·refine⟨rfl,F2.out.ef.trans F2.out.nw e2.weak,PrO.bad ?_⟩
   rw[← HR.out,h0]
   rfl
  ·have hR1:=HR.out
   rw[h0] at hR1
   have F3:=F2.out.small h2 e2
   have P3:=mkHid (P0.out.ef hgl e2 (.inl rfl))
   have F4:=mkHid (F3.set P3.out 2 (.int .i64 mm))
   have P4:Hid (Pb w B #[.int .i64 26,.int .i64 0,.int .i64 mm,.string ⟨#[]⟩,.slice none 0 0,.slice none 0 0,.slice none 0 0] v (w2.setCell ⟨B,2,none⟩ (.int .i64 mm))):=P3.out.set 2 (.int .i64 mm)
   have c2:w2.cell? ⟨B,2,none⟩=some (.int .i64 0):=P3.out.cell 2 _ rfl
   have z2:w2.frozen? ⟨B,2,none⟩=false:=P3.out.fz 2
   obtain⟨V1,hV1⟩:∃V,w2.setCell ⟨B,2,none⟩ (.int .i64 mm)=V:=⟨_,rfl⟩
   rw[hV1] at F4 P4
   obtain⟨kd4,x4,a4,h4⟩:=F4.out.ps
   have kX:=mkHid (prTexts h4 hl hs (by omega))
   obtain⟨Z,hZ⟩:∃Z,Rf.txts T (n+2)=Z:=⟨_,rfl⟩
   rw[show n+1+1=n+2 from rfl,hZ] at kX
   have hR2:Hid (Rf.ma1 T 26 (E.map (·.1)) mm Z=R):=by show _=_;rw[← hZ,← Rf.ma_some];exact hR1
   have HV1:=mkHid hV1
   have hZ1:=mkHid hZ
   clear h0 h2 e2 kM hR1 F3 P3 hV1 F2 P0 h4 hZ HR
   go_wp2_with (go_at_call 225;fail)
   rw[HV1.out]
   clear c2 z2 HV1
   refine kX.out.mono ?_
   rintro e w3 ⟨e3,h3⟩
   clear kX
   cases Z with
   | bad j=>
    obtain rfl:e=_:=h3
    exact⟨rfl,F4.out.ef.trans F4.out.nw e3.weak,PrO.bad (by rw[← hR2.out];rfl)⟩
   | ok j M=>
    rcases h3 with ⟨o,c,kd3,x3,a3,rfl,hO,hp3⟩|hx
    ·have hj1:n+2<j:=HJ.out (n+2) j M hZ1.out
     have F5:=F4.out.names hp3 e3 hO
     have P5:=mkHid (P4.out.ef hgl e3 (.inl rfl))
     have F6:=mkHid (F5.set P5.out 4 (.slice o M.length c))
     have P6:Hid (Pb w B #[.int .i64 26,.int .i64 0,.int .i64 mm,.string ⟨#[]⟩,.slice o M.length c,.slice none 0 0,.slice none 0 0] v (w3.setCell ⟨B,4,none⟩ (.slice o M.length c))):=P5.out.set 4 (.slice o M.length c)
     have c4:w3.cell? ⟨B,4,none⟩=some (.slice none 0 0):=P5.out.cell 4 _ rfl
     have z4:w3.frozen? ⟨B,4,none⟩=false:=P5.out.fz 4
     obtain⟨V2,hV2⟩:∃V,w3.setCell ⟨B,4,none⟩ (.slice o M.length c)=V:=⟨_,rfl⟩
     rw[hV2] at F6 P6
     obtain⟨kd6,x6,a6,h6⟩:=F6.out.ps
     have kX:=mkHid (prTexts h6 hl hs (by omega))
     obtain⟨Z2,hZ2⟩:∃Z,Rf.txts T j=Z:=⟨_,rfl⟩
     rw[hZ2] at kX
     have hR3:Hid (Rf.ma2 26 (E.map (·.1)) mm M Z2=R):=by show _=_;rw[← hZ2];exact hR2.out
     have HV2:=mkHid hV2
     replace hZ2:=mkHid hZ2
     clear e3 F5 P5 hV2 F4 P4 h6 hO hp3 hR2
     go_wp2_with (go_at_call 225;fail)
     rw[HV2.out]
     clear c4 z4 HV2
     refine kX.out.mono ?_
     rintro e w4 ⟨e4,h4⟩
     clear kX
     cases Z2 with
     | bad j2=>
      obtain rfl:e=_:=h4
      exact⟨rfl,F6.out.ef.trans F6.out.nw e4.weak,PrO.bad (by rw[← hR3.out];rfl)⟩
     | ok j2 M2=>
      rcases h4 with ⟨o2,c2,kd4,x4,a4,rfl,hO2,hp4⟩|hx
      ·have hj2:j<j2:=HJ.out j j2 M2 hZ2.out
       have hjT:=hp4.cur.lt
       have F7:=F6.out.keys hp4 e4 hO2
       have P7:=mkHid (P6.out.ef hgl e4 (.inl rfl))
       have F8:=mkHid (F7.set P7.out 5 (.slice o2 M2.length c2))
       have hNz:Hid (R=.ok j2 ((E++([]:List NdE)).map (·.1) ++ [{ Rf.zn 26 with mat:=mm,names:=M,keys:=M2 }])):=by show R=_;rw[← hR3.out,List.append_nil];rfl
       have HR:=hR3
       have d0:(w4).cell? ⟨B,0,none⟩=some (.int .i64 26):=P7.out.cell 0 _ rfl
       have d1:(w4).cell? ⟨B,1,none⟩=some (.int .i64 0):=P7.out.cell 1 _ rfl
       have d2:(w4).cell? ⟨B,2,none⟩=some (.int .i64 mm):=P7.out.cell 2 _ rfl
       have d3:(w4).cell? ⟨B,3,none⟩=some (.string ⟨#[]⟩):=P7.out.cell 3 _ rfl
       have d4:(w4).cell? ⟨B,4,none⟩=some (.slice o M.length c):=P7.out.cell 4 _ rfl
       have d5:(w4).cell? ⟨B,5,none⟩=some (.slice none 0 0):=P7.out.cell 5 _ rfl
       have d6:(w4).cell? ⟨B,6,none⟩=some (.slice none 0 0):=P7.out.cell 6 _ rfl
       have z5:(w4).frozen? ⟨B,5,none⟩=false:=P7.out.fz 5
       clear hp4 e4 hO2 F7 P7 P6 F6
       have kA:=mkHid (F8.out.add { Rf.zn 26 with mat:=mm,names:=M,keys:=M2 } rfl rfl rfl (by rw[List.length_append];first|omega|(simp;omega)))
       have hRR:Hid (R=.ok j2 ((E++([]:List NdE)).map (·.1) ++ [{ Rf.zn 26 with mat:=mm,names:=M,keys:=M2 }])):=hNz
       clear HR F8
       unfold ndV Rf.zn at kA
       dsimp only at kA
       go_wp2_with (go_at_call 149;fail)
       refine kA.out.mono ?_
       rintro e w9 ⟨rfl,v9,A9,hA9,e9,n9,p9,f9,g9⟩
       obtain⟨y,hy⟩:∃y:Int,((E++([]:List NdE)).length:Int)=y:=⟨_,rfl⟩
       have hfin:Hid (Ef g v.ownBlock w w9∧PrO g s l T n v E w R (.returned (.int .i64 y)) w9):=by rw[← hy];exact⟨e9,PrO.added hA9.out hRR.out n9 p9 f9 g9 (by first|omega|(simp;omega))⟩
       rw[hy]
       clear hA9 e9 n9 p9 f9 g9 kA hRR hy
       clear d0 d1 d2 d3 d4 d5 d6
       go_wp2
       go_ret
       exact hfin.out
      ·obtain⟨m1,m2,rfl⟩:=hx
       exact⟨rfl,F6.out.ef.trans F6.out.nw e4.weak,PrO.ofX2 (N:=E.map (·.1) ++ [{ Rf.zn 26 with mat:=mm,names:=M,keys:=M2 }]) ⟨m1,m2,rfl⟩ (by rw[← hR3.out];rfl)⟩
    ·obtain⟨m1,m2,rfl⟩:=hx
     refine⟨rfl,F4.out.ef.trans F4.out.nw e3.weak,PrO.ofX ⟨m1,m2,rfl⟩ ?_⟩
     rw[← hR2.out]
     show Rf.ma2 _ _ _ _ (Rf.txts T j)=_
     rw[Rf.txts_x m2]
     rfl
  ·obtain⟨m1,m2,rfl⟩:=hx
   refine⟨rfl,F2.out.ef.trans F2.out.nw e2.weak,PrO.ofX ⟨m1,m2,rfl⟩ ?_⟩
   rw[← HR.out,h0,Rf.ma_some,Rf.txts_x m2]
   rfl
 ·obtain⟨m1,m2,rfl⟩:=hx
  refine⟨rfl,e1.weak,?_⟩
  refine PrO.ofX ⟨m1,m2,rfl⟩ ?_
  rw[← HR.out,Rf.match_x m2]
  rfl
theorem prTest27 (g:Nat)(s:ByteArray)(l:List UInt8)(T:List Rf.Tk)(f:Nat)(t:Nat→List Nd→Rf.Out)(hl:s.data.toList=l)(hs:s.size≤100000)(hT:T.length≤30000)(hXt:Rf.Kx T t)(hTst:PrC 203 g s l T f t)(hGT:GoodT T)(n kd:Nat)(x:List UInt8)(a:Nat)(v:Value)(E:List NdE)(w:World)(h:Ps g s l T n kd x a v E w)(hG:Gl g w)(hf:T.length≤n+(f+1))(hE:E.length≤3*n+5)(hw:(kd==1 && Fn.isTest (Rf.lk x))=true)(hk:Rf.lk x=27) :
  Calls Tryz.prog 203 #[scp g] w fun e w'=>Ef g v.ownBlock w w'∧PrO g s l T n v E w (Rf.tst T t n (E.map (·.1))) e w':=by
 obtain⟨q1,q2,q3,-⟩:=h.cur.tst.1 hw
 obtain⟨R,hR⟩:∃R,Rf.tst T t n (E.map (·.1))=R:=⟨_,rfl⟩
 rw[hR]
 rw[Rf.tst_27 T t n (E.map (·.1)) q1 (by rw[q2,q3,hk])] at hR
 have kK:=mkHid (prKind kindTst h hl hs hG.ft (fun _=>by rw[q1];exact⟨by decide,by decide⟩))
 rw[hw,hk] at kK
 have F0:=mkHid (Pf.start h hG)
 have hgl:=h.sc.lt
 have HR:=mkHid hR
 have HT:=mkHid hTst
 have HX:=mkHid hXt
 have HG:=mkHid hGT
 have _hf:=hf
 clear h hG q1 q2 q3 hw hk hR hTst hXt hGT
 go_enter Tryz.func203,Tryz.ntmps203
 go_wp2_with (go_at_call 175;fail)
 refine kK.out.mono ?_
 rintro e w1 ⟨e1,⟨h0,-⟩|⟨-,⟨kd1,x1,a1,rfl,h1⟩|hx⟩⟩
 ·cases h0
 ·obtain⟨B,hB⟩:∃B,w1.heap.size=B:=⟨_,rfl⟩
  obtain⟨W0,hW0⟩:∃W0,w1.alloc (.cells #[.int .i64 27,.int .i64 0,.int .i64 0,.string ⟨#[]⟩,.slice none 0 0,.slice none 0 0,.slice none 0 0] 109)=W0:=⟨_,rfl⟩
  have b0:Below w1.heap.size w1 W0:=by rw[← hW0];exact(Below.refl _ _).alloc (Nat.le_refl _) _
  have F2:=mkHid ((F0.out.small (by rw[List.append_nil];exact h1) e1).below b0)
  have P0:Hid (Pb w B #[.int .i64 27,.int .i64 0,.int .i64 0,.string ⟨#[]⟩,.slice none 0 0,.slice none 0 0,.slice none 0 0] v W0):=by show Pb w B _ v W0;rw[← hW0,← hB];exact Pb.new h1 e1.size
  obtain⟨kd0,x0,a0,p0⟩:=F2.out.ps
  have hn1:=p0.cur.lt
  have HW0:=mkHid hW0
  have HB:=mkHid hB
  have HP0:=mkHid p0
  clear h1 e1 b0 hB hW0 kK F0 p0
  have HJ:=mkHid (fun i=>(Rf.txts_le T i).1)
  have kM:=mkHid (prMatch HP0.out hl hs F2.out.gl.mt)
  clear HP0
  go_wp2_with (go_at_call 224;fail)
  rw[HW0.out,HB.out]
  clear HW0
  refine kM.out.mono ?_
  rintro e w2 ⟨e2,⟨h0,rfl⟩|⟨mm,h0,⟨kd2,x2,a2,rfl,h2⟩|hx⟩⟩
  ·refine⟨rfl,F2.out.ef.trans F2.out.nw e2.weak,PrO.bad ?_⟩
   rw[← HR.out,h0]
   rfl
  ·have hR1:=HR.out
   rw[h0] at hR1
   have F3:=F2.out.small h2 e2
   have P3:=mkHid (P0.out.ef hgl e2 (.inl rfl))
   have F4:=mkHid (F3.set P3.out 2 (.int .i64 mm))
   have P4:Hid (Pb w B #[.int .i64 27,.int .i64 0,.int .i64 mm,.string ⟨#[]⟩,.slice none 0 0,.slice none 0 0,.slice none 0 0] v (w2.setCell ⟨B,2,none⟩ (.int .i64 mm))):=P3.out.set 2 (.int .i64 mm)
   have c2:w2.cell? ⟨B,2,none⟩=some (.int .i64 0):=P3.out.cell 2 _ rfl
   have z2:w2.frozen? ⟨B,2,none⟩=false:=P3.out.fz 2
   obtain⟨V1,hV1⟩:∃V,w2.setCell ⟨B,2,none⟩ (.int .i64 mm)=V:=⟨_,rfl⟩
   rw[hV1] at F4 P4
   obtain⟨kd4,x4,a4,h4⟩:=F4.out.ps
   have kX:=mkHid (prTexts h4 hl hs (by omega))
   obtain⟨Z,hZ⟩:∃Z,Rf.txts T (n+2)=Z:=⟨_,rfl⟩
   rw[show n+1+1=n+2 from rfl,hZ] at kX
   have hR2:Hid (Rf.ma1 T 27 (E.map (·.1)) mm Z=R):=by show _=_;rw[← hZ,← Rf.ma_some];exact hR1
   have HV1:=mkHid hV1
   have hZ1:=mkHid hZ
   clear h0 h2 e2 kM hR1 F3 P3 hV1 F2 P0 h4 hZ HR
   go_wp2_with (go_at_call 225;fail)
   rw[HV1.out]
   clear c2 z2 HV1
   refine kX.out.mono ?_
   rintro e w3 ⟨e3,h3⟩
   clear kX
   cases Z with
   | bad j=>
    obtain rfl:e=_:=h3
    exact⟨rfl,F4.out.ef.trans F4.out.nw e3.weak,PrO.bad (by rw[← hR2.out];rfl)⟩
   | ok j M=>
    rcases h3 with ⟨o,c,kd3,x3,a3,rfl,hO,hp3⟩|hx
    ·have hj1:n+2<j:=HJ.out (n+2) j M hZ1.out
     have F5:=F4.out.names hp3 e3 hO
     have P5:=mkHid (P4.out.ef hgl e3 (.inl rfl))
     have F6:=mkHid (F5.set P5.out 4 (.slice o M.length c))
     have P6:Hid (Pb w B #[.int .i64 27,.int .i64 0,.int .i64 mm,.string ⟨#[]⟩,.slice o M.length c,.slice none 0 0,.slice none 0 0] v (w3.setCell ⟨B,4,none⟩ (.slice o M.length c))):=P5.out.set 4 (.slice o M.length c)
     have c4:w3.cell? ⟨B,4,none⟩=some (.slice none 0 0):=P5.out.cell 4 _ rfl
     have z4:w3.frozen? ⟨B,4,none⟩=false:=P5.out.fz 4
     obtain⟨V2,hV2⟩:∃V,w3.setCell ⟨B,4,none⟩ (.slice o M.length c)=V:=⟨_,rfl⟩
     rw[hV2] at F6 P6
     obtain⟨kd6,x6,a6,h6⟩:=F6.out.ps
     have kX:=mkHid (prTexts h6 hl hs (by omega))
     obtain⟨Z2,hZ2⟩:∃Z,Rf.txts T j=Z:=⟨_,rfl⟩
     rw[hZ2] at kX
     have hR3:Hid (Rf.ma2 27 (E.map (·.1)) mm M Z2=R):=by show _=_;rw[← hZ2];exact hR2.out
     have HV2:=mkHid hV2
     replace hZ2:=mkHid hZ2
     clear e3 F5 P5 hV2 F4 P4 h6 hO hp3 hR2
     go_wp2_with (go_at_call 225;fail)
     rw[HV2.out]
     clear c4 z4 HV2
     refine kX.out.mono ?_
     rintro e w4 ⟨e4,h4⟩
     clear kX
     cases Z2 with
     | bad j2=>
      obtain rfl:e=_:=h4
      exact⟨rfl,F6.out.ef.trans F6.out.nw e4.weak,PrO.bad (by rw[← hR3.out];rfl)⟩
     | ok j2 M2=>
      rcases h4 with ⟨o2,c2,kd4,x4,a4,rfl,hO2,hp4⟩|hx
      ·have hj2:j<j2:=HJ.out j j2 M2 hZ2.out
       have hjT:=hp4.cur.lt
       have F7:=F6.out.keys hp4 e4 hO2
       have P7:=mkHid (P6.out.ef hgl e4 (.inl rfl))
       have F8:=mkHid (F7.set P7.out 5 (.slice o2 M2.length c2))
       have hNz:Hid (R=.ok j2 ((E++([]:List NdE)).map (·.1) ++ [{ Rf.zn 27 with mat:=mm,names:=M,keys:=M2 }])):=by show R=_;rw[← hR3.out,List.append_nil];rfl
       have HR:=hR3
       have d0:(w4).cell? ⟨B,0,none⟩=some (.int .i64 27):=P7.out.cell 0 _ rfl
       have d1:(w4).cell? ⟨B,1,none⟩=some (.int .i64 0):=P7.out.cell 1 _ rfl
       have d2:(w4).cell? ⟨B,2,none⟩=some (.int .i64 mm):=P7.out.cell 2 _ rfl
       have d3:(w4).cell? ⟨B,3,none⟩=some (.string ⟨#[]⟩):=P7.out.cell 3 _ rfl
       have d4:(w4).cell? ⟨B,4,none⟩=some (.slice o M.length c):=P7.out.cell 4 _ rfl
       have d5:(w4).cell? ⟨B,5,none⟩=some (.slice none 0 0):=P7.out.cell 5 _ rfl
       have d6:(w4).cell? ⟨B,6,none⟩=some (.slice none 0 0):=P7.out.cell 6 _ rfl
       have z5:(w4).frozen? ⟨B,5,none⟩=false:=P7.out.fz 5
       clear hp4 e4 hO2 F7 P7 P6 F6
       have kA:=mkHid (F8.out.add { Rf.zn 27 with mat:=mm,names:=M,keys:=M2 } rfl rfl rfl (by rw[List.length_append];first|omega|(simp;omega)))
       have hRR:Hid (R=.ok j2 ((E++([]:List NdE)).map (·.1) ++ [{ Rf.zn 27 with mat:=mm,names:=M,keys:=M2 }])):=hNz
       clear HR F8
       unfold ndV Rf.zn at kA
       dsimp only at kA
       go_wp2_with (go_at_call 149;fail)
       refine kA.out.mono ?_
       rintro e w9 ⟨rfl,v9,A9,hA9,e9,n9,p9,f9,g9⟩
       obtain⟨y,hy⟩:∃y:Int,((E++([]:List NdE)).length:Int)=y:=⟨_,rfl⟩
       have hfin:Hid (Ef g v.ownBlock w w9∧PrO g s l T n v E w R (.returned (.int .i64 y)) w9):=by rw[← hy];exact⟨e9,PrO.added hA9.out hRR.out n9 p9 f9 g9 (by first|omega|(simp;omega))⟩
       rw[hy]
       clear hA9 e9 n9 p9 f9 g9 kA hRR hy
       clear d0 d1 d2 d3 d4 d5 d6
       go_wp2
       go_ret
       exact hfin.out
      ·obtain⟨m1,m2,rfl⟩:=hx
       exact⟨rfl,F6.out.ef.trans F6.out.nw e4.weak,PrO.ofX2 (N:=E.map (·.1) ++ [{ Rf.zn 27 with mat:=mm,names:=M,keys:=M2 }]) ⟨m1,m2,rfl⟩ (by rw[← hR3.out];rfl)⟩
    ·obtain⟨m1,m2,rfl⟩:=hx
     refine⟨rfl,F4.out.ef.trans F4.out.nw e3.weak,PrO.ofX ⟨m1,m2,rfl⟩ ?_⟩
     rw[← hR2.out]
     show Rf.ma2 _ _ _ _ (Rf.txts T j)=_
     rw[Rf.txts_x m2]
     rfl
  ·obtain⟨m1,m2,rfl⟩:=hx
   refine⟨rfl,F2.out.ef.trans F2.out.nw e2.weak,PrO.ofX ⟨m1,m2,rfl⟩ ?_⟩
   rw[← HR.out,h0,Rf.ma_some,Rf.txts_x m2]
   rfl
 ·obtain⟨m1,m2,rfl⟩:=hx
  refine⟨rfl,e1.weak,?_⟩
  refine PrO.ofX ⟨m1,m2,rfl⟩ ?_
  rw[← HR.out,Rf.match_x m2]
  rfl
theorem prTest31 (g:Nat)(s:ByteArray)(l:List UInt8)(T:List Rf.Tk)(f:Nat)(t:Nat→List Nd→Rf.Out)(hl:s.data.toList=l)(hs:s.size≤100000)(hT:T.length≤30000)(hXt:Rf.Kx T t)(hTst:PrC 203 g s l T f t)(hGT:GoodT T)(n kd:Nat)(x:List UInt8)(a:Nat)(v:Value)(E:List NdE)(w:World)(h:Ps g s l T n kd x a v E w)(hG:Gl g w)(hf:T.length≤n+(f+1))(hE:E.length≤3*n+5)(hw:(kd==1 && Fn.isTest (Rf.lk x))=true)(hk:Rf.lk x=31) :
  Calls Tryz.prog 203 #[scp g] w fun e w'=>Ef g v.ownBlock w w'∧PrO g s l T n v E w (Rf.tst T t n (E.map (·.1))) e w':=by
 obtain⟨q1,q2,q3,-⟩:=h.cur.tst.1 hw
 obtain⟨R,hR⟩:∃R,Rf.tst T t n (E.map (·.1))=R:=⟨_,rfl⟩
 rw[hR]
 rw[Rf.tst_31 T t n (E.map (·.1)) q1 (by rw[q2,q3,hk])] at hR
 have kK:=mkHid (prKind kindTst h hl hs hG.ft (fun _=>by rw[q1];exact⟨by decide,by decide⟩))
 rw[hw,hk] at kK
 have F0:=mkHid (Pf.start h hG)
 have hgl:=h.sc.lt
 have HR:=mkHid hR
 have HT:=mkHid hTst
 have HX:=mkHid hXt
 have HG:=mkHid hGT
 have _hf:=hf
 clear h hG q1 q2 q3 hw hk hR hTst hXt hGT
 go_enter Tryz.func203,Tryz.ntmps203
 go_wp2_with (go_at_call 175;fail)
 refine kK.out.mono ?_
 rintro e w1 ⟨e1,⟨h0,-⟩|⟨-,⟨kd1,x1,a1,rfl,h1⟩|hx⟩⟩
 ·cases h0
 ·obtain⟨B,hB⟩:∃B,w1.heap.size=B:=⟨_,rfl⟩
  obtain⟨W0,hW0⟩:∃W0,w1.alloc (.cells #[.int .i64 31,.int .i64 0,.int .i64 0,.string ⟨#[]⟩,.slice none 0 0,.slice none 0 0,.slice none 0 0] 109)=W0:=⟨_,rfl⟩
  have b0:Below w1.heap.size w1 W0:=by rw[← hW0];exact(Below.refl _ _).alloc (Nat.le_refl _) _
  have F2:=mkHid ((F0.out.small (by rw[List.append_nil];exact h1) e1).below b0)
  have P0:Hid (Pb w B #[.int .i64 31,.int .i64 0,.int .i64 0,.string ⟨#[]⟩,.slice none 0 0,.slice none 0 0,.slice none 0 0] v W0):=by show Pb w B _ v W0;rw[← hW0,← hB];exact Pb.new h1 e1.size
  obtain⟨kd0,x0,a0,p0⟩:=F2.out.ps
  have hn1:=p0.cur.lt
  have HW0:=mkHid hW0
  have HB:=mkHid hB
  have HP0:=mkHid p0
  clear h1 e1 b0 hB hW0 kK F0 p0
  have HJ:=mkHid (fun i=>(Rf.txts_le T i).1)
  have kM:=mkHid (prMatch HP0.out hl hs F2.out.gl.mt)
  clear HP0
  go_wp2_with (go_at_call 224;fail)
  rw[HW0.out,HB.out]
  clear HW0
  refine kM.out.mono ?_
  rintro e w2 ⟨e2,⟨h0,rfl⟩|⟨mm,h0,⟨kd2,x2,a2,rfl,h2⟩|hx⟩⟩
  ·refine⟨rfl,F2.out.ef.trans F2.out.nw e2.weak,PrO.bad ?_⟩
   rw[← HR.out,h0]
   rfl
  ·have hR1:=HR.out
   rw[h0] at hR1
   have F3:=F2.out.small h2 e2
   have P3:=mkHid (P0.out.ef hgl e2 (.inl rfl))
   have F4:=mkHid (F3.set P3.out 2 (.int .i64 mm))
   have P4:Hid (Pb w B #[.int .i64 31,.int .i64 0,.int .i64 mm,.string ⟨#[]⟩,.slice none 0 0,.slice none 0 0,.slice none 0 0] v (w2.setCell ⟨B,2,none⟩ (.int .i64 mm))):=P3.out.set 2 (.int .i64 mm)
   have c2:w2.cell? ⟨B,2,none⟩=some (.int .i64 0):=P3.out.cell 2 _ rfl
   have z2:w2.frozen? ⟨B,2,none⟩=false:=P3.out.fz 2
   obtain⟨V1,hV1⟩:∃V,w2.setCell ⟨B,2,none⟩ (.int .i64 mm)=V:=⟨_,rfl⟩
   rw[hV1] at F4 P4
   obtain⟨kd4,x4,a4,h4⟩:=F4.out.ps
   have kX:=mkHid (prTexts h4 hl hs (by omega))
   obtain⟨Z,hZ⟩:∃Z,Rf.txts T (n+2)=Z:=⟨_,rfl⟩
   rw[show n+1+1=n+2 from rfl,hZ] at kX
   have hR2:Hid (Rf.ma1 T 31 (E.map (·.1)) mm Z=R):=by show _=_;rw[← hZ,← Rf.ma_some];exact hR1
   have HV1:=mkHid hV1
   have hZ1:=mkHid hZ
   clear h0 h2 e2 kM hR1 F3 P3 hV1 F2 P0 h4 hZ HR
   go_wp2_with (go_at_call 225;fail)
   rw[HV1.out]
   clear c2 z2 HV1
   refine kX.out.mono ?_
   rintro e w3 ⟨e3,h3⟩
   clear kX
   cases Z with
   | bad j=>
    obtain rfl:e=_:=h3
    exact⟨rfl,F4.out.ef.trans F4.out.nw e3.weak,PrO.bad (by rw[← hR2.out];rfl)⟩
   | ok j M=>
    rcases h3 with ⟨o,c,kd3,x3,a3,rfl,hO,hp3⟩|hx
    ·have hj1:n+2<j:=HJ.out (n+2) j M hZ1.out
     have F5:=F4.out.names hp3 e3 hO
     have P5:=mkHid (P4.out.ef hgl e3 (.inl rfl))
     have F6:=mkHid (F5.set P5.out 4 (.slice o M.length c))
     have P6:Hid (Pb w B #[.int .i64 31,.int .i64 0,.int .i64 mm,.string ⟨#[]⟩,.slice o M.length c,.slice none 0 0,.slice none 0 0] v (w3.setCell ⟨B,4,none⟩ (.slice o M.length c))):=P5.out.set 4 (.slice o M.length c)
     have c4:w3.cell? ⟨B,4,none⟩=some (.slice none 0 0):=P5.out.cell 4 _ rfl
     have z4:w3.frozen? ⟨B,4,none⟩=false:=P5.out.fz 4
     obtain⟨V2,hV2⟩:∃V,w3.setCell ⟨B,4,none⟩ (.slice o M.length c)=V:=⟨_,rfl⟩
     rw[hV2] at F6 P6
     obtain⟨kd6,x6,a6,h6⟩:=F6.out.ps
     have kX:=mkHid (prTexts h6 hl hs (by omega))
     obtain⟨Z2,hZ2⟩:∃Z,Rf.txts T j=Z:=⟨_,rfl⟩
     rw[hZ2] at kX
     have hR3:Hid (Rf.ma2 31 (E.map (·.1)) mm M Z2=R):=by show _=_;rw[← hZ2];exact hR2.out
     have HV2:=mkHid hV2
     replace hZ2:=mkHid hZ2
     clear e3 F5 P5 hV2 F4 P4 h6 hO hp3 hR2
     go_wp2_with (go_at_call 225;fail)
     rw[HV2.out]
     clear c4 z4 HV2
     refine kX.out.mono ?_
     rintro e w4 ⟨e4,h4⟩
     clear kX
     cases Z2 with
     | bad j2=>
      obtain rfl:e=_:=h4
      exact⟨rfl,F6.out.ef.trans F6.out.nw e4.weak,PrO.bad (by rw[← hR3.out];rfl)⟩
     | ok j2 M2=>
      rcases h4 with ⟨o2,c2,kd4,x4,a4,rfl,hO2,hp4⟩|hx
      ·have hj2:j<j2:=HJ.out j j2 M2 hZ2.out
       have hjT:=hp4.cur.lt
       have F7:=F6.out.keys hp4 e4 hO2
       have P7:=mkHid (P6.out.ef hgl e4 (.inl rfl))
       have F8:=mkHid (F7.set P7.out 5 (.slice o2 M2.length c2))
       have hNz:Hid (R=.ok j2 ((E++([]:List NdE)).map (·.1) ++ [{ Rf.zn 31 with mat:=mm,names:=M,keys:=M2 }])):=by show R=_;rw[← hR3.out,List.append_nil];rfl
       have HR:=hR3
       have d0:(w4).cell? ⟨B,0,none⟩=some (.int .i64 31):=P7.out.cell 0 _ rfl
       have d1:(w4).cell? ⟨B,1,none⟩=some (.int .i64 0):=P7.out.cell 1 _ rfl
       have d2:(w4).cell? ⟨B,2,none⟩=some (.int .i64 mm):=P7.out.cell 2 _ rfl
       have d3:(w4).cell? ⟨B,3,none⟩=some (.string ⟨#[]⟩):=P7.out.cell 3 _ rfl
       have d4:(w4).cell? ⟨B,4,none⟩=some (.slice o M.length c):=P7.out.cell 4 _ rfl
       have d5:(w4).cell? ⟨B,5,none⟩=some (.slice none 0 0):=P7.out.cell 5 _ rfl
       have d6:(w4).cell? ⟨B,6,none⟩=some (.slice none 0 0):=P7.out.cell 6 _ rfl
       have z5:(w4).frozen? ⟨B,5,none⟩=false:=P7.out.fz 5
       clear hp4 e4 hO2 F7 P7 P6 F6
       have kA:=mkHid (F8.out.add { Rf.zn 31 with mat:=mm,names:=M,keys:=M2 } rfl rfl rfl (by rw[List.length_append];first|omega|(simp;omega)))
       have hRR:Hid (R=.ok j2 ((E++([]:List NdE)).map (·.1) ++ [{ Rf.zn 31 with mat:=mm,names:=M,keys:=M2 }])):=hNz
       clear HR F8
       unfold ndV Rf.zn at kA
       dsimp only at kA
       go_wp2_with (go_at_call 149;fail)
       refine kA.out.mono ?_
       rintro e w9 ⟨rfl,v9,A9,hA9,e9,n9,p9,f9,g9⟩
       obtain⟨y,hy⟩:∃y:Int,((E++([]:List NdE)).length:Int)=y:=⟨_,rfl⟩
       have hfin:Hid (Ef g v.ownBlock w w9∧PrO g s l T n v E w R (.returned (.int .i64 y)) w9):=by rw[← hy];exact⟨e9,PrO.added hA9.out hRR.out n9 p9 f9 g9 (by first|omega|(simp;omega))⟩
       rw[hy]
       clear hA9 e9 n9 p9 f9 g9 kA hRR hy
       clear d0 d1 d2 d3 d4 d5 d6
       go_wp2
       go_ret
       exact hfin.out
      ·obtain⟨m1,m2,rfl⟩:=hx
       exact⟨rfl,F6.out.ef.trans F6.out.nw e4.weak,PrO.ofX2 (N:=E.map (·.1) ++ [{ Rf.zn 31 with mat:=mm,names:=M,keys:=M2 }]) ⟨m1,m2,rfl⟩ (by rw[← hR3.out];rfl)⟩
    ·obtain⟨m1,m2,rfl⟩:=hx
     refine⟨rfl,F4.out.ef.trans F4.out.nw e3.weak,PrO.ofX ⟨m1,m2,rfl⟩ ?_⟩
     rw[← hR2.out]
     show Rf.ma2 _ _ _ _ (Rf.txts T j)=_
     rw[Rf.txts_x m2]
     rfl
  ·obtain⟨m1,m2,rfl⟩:=hx
   refine⟨rfl,F2.out.ef.trans F2.out.nw e2.weak,PrO.ofX ⟨m1,m2,rfl⟩ ?_⟩
   rw[← HR.out,h0,Rf.ma_some,Rf.txts_x m2]
   rfl
 ·obtain⟨m1,m2,rfl⟩:=hx
  refine⟨rfl,e1.weak,?_⟩
  refine PrO.ofX ⟨m1,m2,rfl⟩ ?_
  rw[← HR.out,Rf.match_x m2]
  rfl
theorem Rf.all_lst (T:List Rf.Tk)(t:Nat→List Nd→Rf.Out)(k:Int)(Z:Rf.Out):Rf.allStart T t k Z=Rf.allEnd k (Rf.lst T t Z):=by
 cases Z<;>rfl
theorem Pf.join {g:Nat} {s:ByteArray} {l:List UInt8} {T:List Rf.Tk} {v v' v1:Value} {E A A1:List NdE} {w wr w1:World} {na ke:List ByteArray} {ks0 ks:List Int} {vn vk vd0 vd1 vn1 vk1:Value} {n j:Nat} (h:Pf g s l T v E w na ke ks0 vn vk vd0 n v' A wr)(p:Pf g s l T v' (E++A) wr [] [] ks vn1 vk1 vd1 j v1 A1 w1)(hc:A1.length+3*n+1≤3*j):Pf g s l T v E w na ke ks vn vk vd1 j v1 (A++A1) w1:=by
 have q:=h.call p.ef ⟨p.ps,p.nw,p.fr,p.frN,hc⟩
 have fd:=p.fd
 rw[List.append_assoc] at fd
 exact⟨q.ps,q.ef,q.nw,q.fr,q.frN,q.gl,q.hg,q.on,q.ok,own_base p.od h.ef.size,q.fnk,q.fn,q.fk,fd⟩
theorem prTest23 (g:Nat)(s:ByteArray)(l:List UInt8)(T:List Rf.Tk)(f:Nat)(t:Nat→List Nd→Rf.Out)(hl:s.data.toList=l)(hs:s.size≤100000)(hT:T.length≤30000)(hXt:Rf.Kx T t)(hTst:PrC 203 g s l T f t)(hGT:GoodT T)(n kd:Nat)(x:List UInt8)(a:Nat)(v:Value)(E:List NdE)(w:World)(h:Ps g s l T n kd x a v E w)(hG:Gl g w)(hf:T.length≤n+(f+1))(hE:E.length≤3*n+5)(hw:(kd==1 && Fn.isTest (Rf.lk x))=true)(hk:Rf.lk x=23) :
  Calls Tryz.prog 203 #[scp g] w fun e w'=>Ef g v.ownBlock w w'∧PrO g s l T n v E w (Rf.tst T t n (E.map (·.1))) e w':=by
 obtain⟨q1,q2,q3,-⟩:=h.cur.tst.1 hw
 obtain⟨R,hR⟩:∃R,Rf.tst T t n (E.map (·.1))=R:=⟨_,rfl⟩
 rw[hR]
 rw[Rf.tst_23 T t n (E.map (·.1)) q1 (by rw[q2,q3,hk])] at hR
 have kK:=mkHid (prKind kindTst h hl hs hG.ft (fun _=>by rw[q1];exact⟨by decide,by decide⟩))
 rw[hw,hk] at kK
 have F0:=mkHid (Pf.start h hG)
 have hgl:=h.sc.lt
 have HR:=mkHid hR
 have HT:=mkHid hTst
 have HX:=mkHid hXt
 have HG:=mkHid hGT
 have _hf:=hf
 clear h hG q1 q2 q3 hw hk hR hTst hXt hGT
 go_enter Tryz.func203,Tryz.ntmps203
 go_wp2_with (go_at_call 175;fail)
 refine kK.out.mono ?_
 rintro e w1 ⟨e1,⟨h0,-⟩|⟨-,⟨kd1,x1,a1,rfl,h1⟩|hx⟩⟩
 ·cases h0
 ·obtain⟨B,hB⟩:∃B,w1.heap.size=B:=⟨_,rfl⟩
  obtain⟨W0,hW0⟩:∃W0,w1.alloc (.cells #[.int .i64 23,.int .i64 0,.int .i64 0,.string ⟨#[]⟩,.slice none 0 0,.slice none 0 0,.slice none 0 0] 109)=W0:=⟨_,rfl⟩
  have b0:Below w1.heap.size w1 W0:=by rw[← hW0];exact(Below.refl _ _).alloc (Nat.le_refl _) _
  have F2:=mkHid ((F0.out.small (by rw[List.append_nil];exact h1) e1).below b0)
  have P0:Hid (Pb w B #[.int .i64 23,.int .i64 0,.int .i64 0,.string ⟨#[]⟩,.slice none 0 0,.slice none 0 0,.slice none 0 0] v W0):=by show Pb w B _ v W0;rw[← hW0,← hB];exact Pb.new h1 e1.size
  obtain⟨kd0,x0,a0,p0⟩:=F2.out.ps
  have hn1:=p0.cur.lt
  have HW0:=mkHid hW0
  have HB:=mkHid hB
  have HP0:=mkHid p0
  clear h1 e1 b0 hB hW0 kK F0 p0
  have kS:=mkHid (prSign HP0.out hl hs [40] (by decide) (by decide))
  rw[show Rf.cls [40]=112 from rfl] at kS
  clear HP0
  go_wp2_with (go_at_call 183;fail)
  rw[HW0.out,HB.out]
  clear HW0
  refine kS.out.mono ?_
  rintro e w2 ⟨e2,⟨h0,rfl⟩|⟨h0,⟨kd2,x2,a2,rfl,h2⟩|hx⟩⟩
  ·refine⟨rfl,F2.out.ef.trans F2.out.nw e2.weak,PrO.bad ?_⟩
   rw[← HR.out,if_neg (Bool.eq_false_iff.1 h0)]
  ·have hR1:=HR.out
   rw[if_pos h0,← List.append_nil E,Rf.all_lst] at hR1
   have F3:=mkHid (F2.out.small h2 e2)
   have P3:=mkHid (P0.out.ef hgl e2 (.inl rfl))
   have hn2:=h2.cur.lt
   have kL:=mkHid (prListN g s l T f t hl hs hT HX.out HT.out (n+2) kd2 x2 a2 v (E++([]:List NdE)) w2 h2 F3.out.gl (by omega) (by rw[List.append_nil];omega))
   obtain⟨Z,hZ⟩:∃Z,Rf.lst T t (t (n+2) ((E++([]:List NdE)).map (·.1)))=Z:=⟨_,rfl⟩
   rw[hZ] at kL hR1
   replace HR:=mkHid hR1
   clear h0 h2 e2 kS hR1 F2 P0 hZ
   go_wp2_with (go_at_call 223;fail)
   refine kL.out.mono ?_
   rintro e w3 ⟨e3,h3⟩
   clear kL
   cases Z with
   | bad j=>
    obtain rfl:e=_:=h3
    exact⟨rfl,F3.out.ef.trans F3.out.nw e3,PrO.bad (by rw[← HR.out];rfl)⟩
   | ok j N ks=>
    rcases h3 with ⟨A1,v1,o,c,rfl,hN,hcn,hp3⟩|hx
    ·have hjT:j<T.length:=by obtain⟨_,_,_,h⟩:=hp3.ps;exact h.cur.lt
     have F4:=F3.out.join hp3 (by omega)
     rw[List.nil_append] at F4
     have P4:=mkHid (P3.out.call hgl e3 hp3.nw)
     have F5:=mkHid (F4.set P4.out 6 (.slice o ks.length c))
     have hNz:Hid (R=.ok j ((E++A1).map (·.1) ++ [{ Rf.zn 23 with kids:=ks }])):=by
      show R=_
      rw[← HR.out]
      show Rf.Out.ok j (N ++ [{ Rf.zn 23 with kids:=ks }])=_
      rw[hN,List.append_nil]
     have d0:(w3).cell? ⟨B,0,none⟩=some (.int .i64 23):=P4.out.cell 0 _ rfl
     have d1:(w3).cell? ⟨B,1,none⟩=some (.int .i64 0):=P4.out.cell 1 _ rfl
     have d2:(w3).cell? ⟨B,2,none⟩=some (.int .i64 0):=P4.out.cell 2 _ rfl
     have d3:(w3).cell? ⟨B,3,none⟩=some (.string ⟨#[]⟩):=P4.out.cell 3 _ rfl
     have d4:(w3).cell? ⟨B,4,none⟩=some (.slice none 0 0):=P4.out.cell 4 _ rfl
     have d5:(w3).cell? ⟨B,5,none⟩=some (.slice none 0 0):=P4.out.cell 5 _ rfl
     have d6:(w3).cell? ⟨B,6,none⟩=some (.slice none 0 0):=P4.out.cell 6 _ rfl
     have z6:(w3).frozen? ⟨B,6,none⟩=false:=P4.out.fz 6
     clear e3 hN hp3 F4 P4 P3 F3
     have kA:=mkHid (F5.out.add { Rf.zn 23 with kids:=ks } rfl rfl rfl (by rw[List.length_append];first|omega|(simp;omega)))
     have hRR:Hid (R=.ok j ((E++A1).map (·.1) ++ [{ Rf.zn 23 with kids:=ks }])):=hNz
     clear HR F5
     unfold ndV Rf.zn at kA
     dsimp only at kA
     go_wp2_with (go_at_call 149;fail)
     refine kA.out.mono ?_
     rintro e w9 ⟨rfl,v9,A9,hA9,e9,n9,p9,f9,g9⟩
     obtain⟨y,hy⟩:∃y:Int,((E++A1).length:Int)=y:=⟨_,rfl⟩
     have hfin:Hid (Ef g v.ownBlock w w9∧PrO g s l T n v E w R (.returned (.int .i64 y)) w9):=by rw[← hy];exact⟨e9,PrO.added hA9.out hRR.out n9 p9 f9 g9 (by first|omega|(simp;omega))⟩
     rw[hy]
     clear hA9 e9 n9 p9 f9 g9 kA hRR hy
     clear d0 d1 d2 d3 d4 d5 d6
     go_wp2
     go_ret
     exact hfin.out
    ·obtain⟨m1,m2,rfl⟩:=hx
     exact⟨rfl,F3.out.ef.trans F3.out.nw e3,PrO.ofX2 (N:=N ++ [{ Rf.zn 23 with kids:=ks }]) ⟨m1,m2,rfl⟩ (by rw[← HR.out];rfl)⟩
  ·obtain⟨m1,m2,rfl⟩:=hx
   refine⟨rfl,F2.out.ef.trans F2.out.nw e2.weak,PrO.ofX ⟨m1,m2,rfl⟩ ?_⟩
   rw[← HR.out,if_pos h0,HX.out _ _ m2]
   rfl
 ·obtain⟨m1,m2,rfl⟩:=hx
  refine⟨rfl,e1.weak,?_⟩
  refine PrO.ofX ⟨m1,m2,rfl⟩ ?_
  rw[← HR.out,is_x m2 112 (by decide)]
  rfl
theorem prTest24 (g:Nat)(s:ByteArray)(l:List UInt8)(T:List Rf.Tk)(f:Nat)(t:Nat→List Nd→Rf.Out)(hl:s.data.toList=l)(hs:s.size≤100000)(hT:T.length≤30000)(hXt:Rf.Kx T t)(hTst:PrC 203 g s l T f t)(hGT:GoodT T)(n kd:Nat)(x:List UInt8)(a:Nat)(v:Value)(E:List NdE)(w:World)(h:Ps g s l T n kd x a v E w)(hG:Gl g w)(hf:T.length≤n+(f+1))(hE:E.length≤3*n+5)(hw:(kd==1 && Fn.isTest (Rf.lk x))=true)(hk:Rf.lk x=24) :
  Calls Tryz.prog 203 #[scp g] w fun e w'=>Ef g v.ownBlock w w'∧PrO g s l T n v E w (Rf.tst T t n (E.map (·.1))) e w':=by
 obtain⟨q1,q2,q3,-⟩:=h.cur.tst.1 hw
 obtain⟨R,hR⟩:∃R,Rf.tst T t n (E.map (·.1))=R:=⟨_,rfl⟩
 rw[hR]
 rw[Rf.tst_24 T t n (E.map (·.1)) q1 (by rw[q2,q3,hk])] at hR
 have kK:=mkHid (prKind kindTst h hl hs hG.ft (fun _=>by rw[q1];exact⟨by decide,by decide⟩))
 rw[hw,hk] at kK
 have F0:=mkHid (Pf.start h hG)
 have hgl:=h.sc.lt
 have HR:=mkHid hR
 have HT:=mkHid hTst
 have HX:=mkHid hXt
 have HG:=mkHid hGT
 have _hf:=hf
 clear h hG q1 q2 q3 hw hk hR hTst hXt hGT
 go_enter Tryz.func203,Tryz.ntmps203
 go_wp2_with (go_at_call 175;fail)
 refine kK.out.mono ?_
 rintro e w1 ⟨e1,⟨h0,-⟩|⟨-,⟨kd1,x1,a1,rfl,h1⟩|hx⟩⟩
 ·cases h0
 ·obtain⟨B,hB⟩:∃B,w1.heap.size=B:=⟨_,rfl⟩
  obtain⟨W0,hW0⟩:∃W0,w1.alloc (.cells #[.int .i64 24,.int .i64 0,.int .i64 0,.string ⟨#[]⟩,.slice none 0 0,.slice none 0 0,.slice none 0 0] 109)=W0:=⟨_,rfl⟩
  have b0:Below w1.heap.size w1 W0:=by rw[← hW0];exact(Below.refl _ _).alloc (Nat.le_refl _) _
  have F2:=mkHid ((F0.out.small (by rw[List.append_nil];exact h1) e1).below b0)
  have P0:Hid (Pb w B #[.int .i64 24,.int .i64 0,.int .i64 0,.string ⟨#[]⟩,.slice none 0 0,.slice none 0 0,.slice none 0 0] v W0):=by show Pb w B _ v W0;rw[← hW0,← hB];exact Pb.new h1 e1.size
  obtain⟨kd0,x0,a0,p0⟩:=F2.out.ps
  have hn1:=p0.cur.lt
  have HW0:=mkHid hW0
  have HB:=mkHid hB
  have HP0:=mkHid p0
  clear h1 e1 b0 hB hW0 kK F0 p0
  have kS:=mkHid (prSign HP0.out hl hs [40] (by decide) (by decide))
  rw[show Rf.cls [40]=112 from rfl] at kS
  clear HP0
  go_wp2_with (go_at_call 183;fail)
  rw[HW0.out,HB.out]
  clear HW0
  refine kS.out.mono ?_
  rintro e w2 ⟨e2,⟨h0,rfl⟩|⟨h0,⟨kd2,x2,a2,rfl,h2⟩|hx⟩⟩
  ·refine⟨rfl,F2.out.ef.trans F2.out.nw e2.weak,PrO.bad ?_⟩
   rw[← HR.out,if_neg (Bool.eq_false_iff.1 h0)]
  ·have hR1:=HR.out
   rw[if_pos h0,← List.append_nil E,Rf.all_lst] at hR1
   have F3:=mkHid (F2.out.small h2 e2)
   have P3:=mkHid (P0.out.ef hgl e2 (.inl rfl))
   have hn2:=h2.cur.lt
   have kL:=mkHid (prListN g s l T f t hl hs hT HX.out HT.out (n+2) kd2 x2 a2 v (E++([]:List NdE)) w2 h2 F3.out.gl (by omega) (by rw[List.append_nil];omega))
   obtain⟨Z,hZ⟩:∃Z,Rf.lst T t (t (n+2) ((E++([]:List NdE)).map (·.1)))=Z:=⟨_,rfl⟩
   rw[hZ] at kL hR1
   replace HR:=mkHid hR1
   clear h0 h2 e2 kS hR1 F2 P0 hZ
   go_wp2_with (go_at_call 223;fail)
   refine kL.out.mono ?_
   rintro e w3 ⟨e3,h3⟩
   clear kL
   cases Z with
   | bad j=>
    obtain rfl:e=_:=h3
    exact⟨rfl,F3.out.ef.trans F3.out.nw e3,PrO.bad (by rw[← HR.out];rfl)⟩
   | ok j N ks=>
    rcases h3 with ⟨A1,v1,o,c,rfl,hN,hcn,hp3⟩|hx
    ·have hjT:j<T.length:=by obtain⟨_,_,_,h⟩:=hp3.ps;exact h.cur.lt
     have F4:=F3.out.join hp3 (by omega)
     rw[List.nil_append] at F4
     have P4:=mkHid (P3.out.call hgl e3 hp3.nw)
     have F5:=mkHid (F4.set P4.out 6 (.slice o ks.length c))
     have hNz:Hid (R=.ok j ((E++A1).map (·.1) ++ [{ Rf.zn 24 with kids:=ks }])):=by
      show R=_
      rw[← HR.out]
      show Rf.Out.ok j (N ++ [{ Rf.zn 24 with kids:=ks }])=_
      rw[hN,List.append_nil]
     have d0:(w3).cell? ⟨B,0,none⟩=some (.int .i64 24):=P4.out.cell 0 _ rfl
     have d1:(w3).cell? ⟨B,1,none⟩=some (.int .i64 0):=P4.out.cell 1 _ rfl
     have d2:(w3).cell? ⟨B,2,none⟩=some (.int .i64 0):=P4.out.cell 2 _ rfl
     have d3:(w3).cell? ⟨B,3,none⟩=some (.string ⟨#[]⟩):=P4.out.cell 3 _ rfl
     have d4:(w3).cell? ⟨B,4,none⟩=some (.slice none 0 0):=P4.out.cell 4 _ rfl
     have d5:(w3).cell? ⟨B,5,none⟩=some (.slice none 0 0):=P4.out.cell 5 _ rfl
     have d6:(w3).cell? ⟨B,6,none⟩=some (.slice none 0 0):=P4.out.cell 6 _ rfl
     have z6:(w3).frozen? ⟨B,6,none⟩=false:=P4.out.fz 6
     clear e3 hN hp3 F4 P4 P3 F3
     have kA:=mkHid (F5.out.add { Rf.zn 24 with kids:=ks } rfl rfl rfl (by rw[List.length_append];first|omega|(simp;omega)))
     have hRR:Hid (R=.ok j ((E++A1).map (·.1) ++ [{ Rf.zn 24 with kids:=ks }])):=hNz
     clear HR F5
     unfold ndV Rf.zn at kA
     dsimp only at kA
     go_wp2_with (go_at_call 149;fail)
     refine kA.out.mono ?_
     rintro e w9 ⟨rfl,v9,A9,hA9,e9,n9,p9,f9,g9⟩
     obtain⟨y,hy⟩:∃y:Int,((E++A1).length:Int)=y:=⟨_,rfl⟩
     have hfin:Hid (Ef g v.ownBlock w w9∧PrO g s l T n v E w R (.returned (.int .i64 y)) w9):=by rw[← hy];exact⟨e9,PrO.added hA9.out hRR.out n9 p9 f9 g9 (by first|omega|(simp;omega))⟩
     rw[hy]
     clear hA9 e9 n9 p9 f9 g9 kA hRR hy
     clear d0 d1 d2 d3 d4 d5 d6
     go_wp2
     go_ret
     exact hfin.out
    ·obtain⟨m1,m2,rfl⟩:=hx
     exact⟨rfl,F3.out.ef.trans F3.out.nw e3,PrO.ofX2 (N:=N ++ [{ Rf.zn 24 with kids:=ks }]) ⟨m1,m2,rfl⟩ (by rw[← HR.out];rfl)⟩
  ·obtain⟨m1,m2,rfl⟩:=hx
   refine⟨rfl,F2.out.ef.trans F2.out.nw e2.weak,PrO.ofX ⟨m1,m2,rfl⟩ ?_⟩
   rw[← HR.out,if_pos h0,HX.out _ _ m2]
   rfl
 ·obtain⟨m1,m2,rfl⟩:=hx
  refine⟨rfl,e1.weak,?_⟩
  refine PrO.ofX ⟨m1,m2,rfl⟩ ?_
  rw[← HR.out,is_x m2 112 (by decide)]
  rfl
end Go.Proofs.YtkcajnjledldnaaGreatDoor
