import Derived.Test.YtkcajnjledldnaaGreatDoorRpCmd2
import Derived.Test.YtkcajnjledldnaaGreatDoorTk
import Derived.Test.YtkcajnjledldnaaGreatDoorRpTest1
import Derived.Test.YtkcajnjledldnaaGreatDoorRpTest5
import Derived.Test.YtkcajnjledldnaaGreatDoorRfToks
set_option maxRecDepth 20000
set_option maxHeartbeats 8000000
namespace Go.Proofs.YtkcajnjledldnaaGreatDoor
open Go.RowKit Go.Lib Go.Maps
theorem prCmd7 (g:Nat)(s:ByteArray)(l:List UInt8)(T:List Rf.Tk)(f:Nat)(t c:Nat→List Nd→Rf.Out)(hl:s.data.toList=l)(hs:s.size≤100000)(hT:T.length≤30000)(hXc:Rf.Kx T (Rf.cho T t c T.length))(hCho:PrC 177 g s l T f (Rf.cho T t c T.length))(hBlk:PrC 179 g s l T f (Rf.blk T c))(hGT:GoodT T)(n kd:Nat)(x:List UInt8)(a:Nat)(v:Value)(E:List NdE)(w:World)(h:Ps g s l T n kd x a v E w)(hG:Gl g w)(hf:T.length≤n+(f+1))(hE:E.length≤3*n+5)(hw:(kd==1 && Fn.isCmd (Rf.lk x))=true)(hk:Rf.lk x=7)(h1:(x==Rf.wIf)=false)(h2:(x==Rf.wRepeat)=false)(h3:(x==Rf.wSet)=false)(h4:Rf.cmdK x=Rf.lk x) :
  Calls Tryz.prog 148 #[scp g] w fun e w'=>Ef g v.ownBlock w w'∧PrO g s l T n v E w (Rf.cmd T t c n (E.map (·.1))) e w':=by
 obtain⟨q1,q2,-⟩:=h.cur.cmd.1 hw
 obtain⟨R,hR⟩:∃R,Rf.cmd T t c n (E.map (·.1))=R:=⟨_,rfl⟩
 rw[hR]
 rw[Rf.cmd_two T t c n _ 7 q1 (by rw[q2];exact h1) (by rw[q2];exact h2) (by rw[q2];exact h3) (by rw[q2,h4,hk]) (by decide) (by decide)] at hR
 have kK:=mkHid (prKind kindCmd h hl hs hG.ft (fun _=>by rw[q1];exact⟨by decide,by decide⟩))
 rw[hw,hk] at kK
 have F0:=mkHid (Pf.start h hG)
 have hgl:=h.sc.lt
 have HR:=mkHid hR
 have HC:=mkHid hCho
 have HX:=mkHid hXc
 have HL:=mkHid hBlk
 have HG:=mkHid hGT
 have _hf:=hf
 have _hT:=hT
 have _hE:=hE
 clear h hG q1 q2 hw hk hR hCho hXc hGT hBlk
 go_enter Tryz.func148,Tryz.ntmps148
 go_wp2_with (go_at_call 175;fail)
 refine kK.out.mono ?_
 rintro e w1 ⟨e1,⟨h0,-⟩|⟨-,⟨kd1,x1,a1,rfl,h1⟩|hx⟩⟩
 ·cases h0
 ·obtain⟨B,hB⟩:∃B,w1.heap.size=B:=⟨_,rfl⟩
  obtain⟨W0,hW0⟩:∃W0,w1.alloc (.cells #[.int .i64 7,.int .i64 0,.int .i64 0,.string ⟨#[]⟩,.slice none 0 0,.slice none 0 0,.slice none 0 0] 109)=W0:=⟨_,rfl⟩
  have b0:Below w1.heap.size w1 W0:=by rw[← hW0];exact(Below.refl _ _).alloc (Nat.le_refl _) _
  have F2:=mkHid ((F0.out.small (by rw[List.append_nil];exact h1) e1).below b0)
  have P0:Hid (Pb w B #[.int .i64 7,.int .i64 0,.int .i64 0,.string ⟨#[]⟩,.slice none 0 0,.slice none 0 0,.slice none 0 0] v W0):=by show Pb w B _ v W0;rw[← hW0,← hB];exact Pb.new h1 e1.size
  obtain⟨kd0,x0,a0,p0⟩:=F2.out.ps
  have hn1:=p0.cur.lt
  have HW0:=mkHid hW0
  have HB:=mkHid hB
  have HP0:=mkHid p0
  clear h1 e1 b0 hB hW0 kK F0 p0
  have kY:=mkHid (prSaying HP0.out hl hs)
  clear HP0
  go_wp2_with (go_at_call 182;fail)
  rw[HW0.out,HB.out]
  clear HW0
  refine kY.out.mono ?_
  rintro e w2 ⟨e2,⟨h0,rfl⟩|⟨h0,⟨kd2,x2,a2,rfl,h2⟩|hx⟩⟩
  ·refine⟨rfl,F2.out.ef.trans F2.out.nw e2.weak,PrO.bad ?_⟩
   rw[← HR.out,if_neg (Bool.eq_false_iff.1 h0)]
  ·have hR1:=HR.out
   obtain⟨tx,htx⟩:∃tx,Rf.ba (Rf.text T (n+1))=tx:=⟨_,rfl⟩
   rw[if_pos (by rw[h0];rfl),htx] at hR1
   rw[htx]
   have F3:=F2.out.small h2 e2
   have P3:=mkHid (P0.out.ef hgl e2 (.inl rfl))
   have F4:=mkHid (F3.set P3.out 3 (.string tx))
   have P4:Hid (Pb w B #[.int .i64 7,.int .i64 0,.int .i64 0,.string tx,.slice none 0 0,.slice none 0 0,.slice none 0 0] v (w2.setCell ⟨B,3,none⟩ (.string tx))):=P3.out.set 3 (.string tx)
   have c3:w2.cell? ⟨B,3,none⟩=some (.string ⟨#[]⟩):=P3.out.cell 3 _ rfl
   have z3:w2.frozen? ⟨B,3,none⟩=false:=P3.out.fz 3
   obtain⟨V1,hV1⟩:∃V,w2.setCell ⟨B,3,none⟩ (.string tx)=V:=⟨_,rfl⟩
   rw[hV1] at F4 P4
   obtain⟨kd4,x4,a4,h4⟩:=F4.out.ps
   replace HR:=mkHid hR1
   have HV1:=mkHid hV1
   clear h0 h2 e2 kY hR1 F3 P3 hV1 F2 P0 htx
   have kS:=mkHid (prSign h4 hl hs [59] (by decide) (by decide))
   rw[show Rf.cls [59]=112 from rfl] at kS
   clear h4
   go_wp2_with (go_at_call 183;fail)
   rw[HV1.out]
   refine kS.out.mono ?_
   rintro e w7 ⟨e7,⟨h0,rfl⟩|⟨h0,⟨kd7,x7,a7,rfl,h7⟩|hx⟩⟩
   ·refine⟨rfl,F4.out.ef.trans F4.out.nw e7.weak,PrO.bad ?_⟩
    rw[← HR.out,if_neg (Bool.eq_false_iff.1 h0)]
   ·have hR7:=HR.out
    rw[if_pos h0] at hR7
    have hjT:=h7.cur.lt
    have F8:=mkHid (F4.out.small h7 e7)
    have P8:=mkHid (P4.out.ef hgl e7 (.inl rfl))
    have hNz:Hid (R=.ok (n+3) ((E++([]:List NdE)).map (·.1) ++ [{ Rf.zn 7 with text:=tx }])):=by show R=_;rw[← hR7,List.append_nil]
    have d0:(w7).cell? ⟨B,0,none⟩=some (.int .i64 7):=P8.out.cell 0 _ rfl
    have d1:(w7).cell? ⟨B,1,none⟩=some (.int .i64 0):=P8.out.cell 1 _ rfl
    have d2:(w7).cell? ⟨B,2,none⟩=some (.int .i64 0):=P8.out.cell 2 _ rfl
    have d3:(w7).cell? ⟨B,3,none⟩=some (.string tx):=P8.out.cell 3 _ rfl
    have d4:(w7).cell? ⟨B,4,none⟩=some (.slice none 0 0):=P8.out.cell 4 _ rfl
    have d5:(w7).cell? ⟨B,5,none⟩=some (.slice none 0 0):=P8.out.cell 5 _ rfl
    have d6:(w7).cell? ⟨B,6,none⟩=some (.slice none 0 0):=P8.out.cell 6 _ rfl
    clear h0 h7 e7 hR7 P8 P4 F4 kS
    have kA:=mkHid (F8.out.add { Rf.zn 7 with text:=tx } rfl rfl rfl (by rw[List.length_append];first|omega|(simp;omega)))
    have hRR:Hid (R=.ok (n+3) ((E++([]:List NdE)).map (·.1) ++ [{ Rf.zn 7 with text:=tx }])):=hNz
    clear HR F8
    unfold ndV Rf.zn at kA
    dsimp only at kA
    go_wp2_with (go_at_call 149;fail)
    refine kA.out.mono ?_
    rintro e w9 ⟨rfl,v9,A9,hA9,e9,n9,p9,f9,g9⟩
    obtain⟨y,hy⟩:∃y:Int,((E++([]:List NdE)).length:Int)=y:=⟨_,rfl⟩
    have hfin:Hid (Ef g v.ownBlock w w9∧PrO g s l T n v E w R (.returned (.int .i64 y)) w9):=by rw[← hy];exact⟨e9,PrO.added hA9.out hRR.out n9 p9 f9 g9 (by first|omega|(simp;omega))⟩
    rw[hy]
    clear hA9 e9 n9 p9 f9 g9 kA hRR hy
    clear d0 d1 d2 d3 d4 d5 d6
    go_wp2
    go_ret
    exact hfin.out
   ·obtain⟨m1,m2,rfl⟩:=hx
    exact⟨rfl,F4.out.ef.trans F4.out.nw e7.weak,PrO.ofX2 ⟨m1,m2,rfl⟩ (by rw[← HR.out,if_pos h0])⟩
  ·obtain⟨m1,m2,rfl⟩:=hx
   refine⟨rfl,F2.out.ef.trans F2.out.nw e2.weak,PrO.ofX ⟨m1,m2,rfl⟩ ?_⟩
   rw[← HR.out,if_pos (by rw[h0];rfl),is_x m2 112 (by decide)]
   rfl
 ·obtain⟨m1,m2,rfl⟩:=hx
  refine⟨rfl,e1.weak,?_⟩
  refine PrO.ofX ⟨m1,m2,rfl⟩ ?_
  rw[← HR.out,m2]
  rfl
theorem prCmd8 (g:Nat)(s:ByteArray)(l:List UInt8)(T:List Rf.Tk)(f:Nat)(t c:Nat→List Nd→Rf.Out)(hl:s.data.toList=l)(hs:s.size≤100000)(hT:T.length≤30000)(hXc:Rf.Kx T (Rf.cho T t c T.length))(hCho:PrC 177 g s l T f (Rf.cho T t c T.length))(hBlk:PrC 179 g s l T f (Rf.blk T c))(hGT:GoodT T)(n kd:Nat)(x:List UInt8)(a:Nat)(v:Value)(E:List NdE)(w:World)(h:Ps g s l T n kd x a v E w)(hG:Gl g w)(hf:T.length≤n+(f+1))(hE:E.length≤3*n+5)(hw:(kd==1 && Fn.isCmd (Rf.lk x))=true)(hk:Rf.lk x=8)(h1:(x==Rf.wIf)=false)(h2:(x==Rf.wRepeat)=false)(h3:(x==Rf.wSet)=false)(h4:Rf.cmdK x=Rf.lk x) :
  Calls Tryz.prog 148 #[scp g] w fun e w'=>Ef g v.ownBlock w w'∧PrO g s l T n v E w (Rf.cmd T t c n (E.map (·.1))) e w':=by
 obtain⟨q1,q2,-⟩:=h.cur.cmd.1 hw
 obtain⟨R,hR⟩:∃R,Rf.cmd T t c n (E.map (·.1))=R:=⟨_,rfl⟩
 rw[hR]
 rw[Rf.cmd_two T t c n _ 8 q1 (by rw[q2];exact h1) (by rw[q2];exact h2) (by rw[q2];exact h3) (by rw[q2,h4,hk]) (by decide) (by decide)] at hR
 have kK:=mkHid (prKind kindCmd h hl hs hG.ft (fun _=>by rw[q1];exact⟨by decide,by decide⟩))
 rw[hw,hk] at kK
 have F0:=mkHid (Pf.start h hG)
 have hgl:=h.sc.lt
 have HR:=mkHid hR
 have HC:=mkHid hCho
 have HX:=mkHid hXc
 have HL:=mkHid hBlk
 have HG:=mkHid hGT
 have _hf:=hf
 have _hT:=hT
 have _hE:=hE
 clear h hG q1 q2 hw hk hR hCho hXc hGT hBlk
 go_enter Tryz.func148,Tryz.ntmps148
 go_wp2_with (go_at_call 175;fail)
 refine kK.out.mono ?_
 rintro e w1 ⟨e1,⟨h0,-⟩|⟨-,⟨kd1,x1,a1,rfl,h1⟩|hx⟩⟩
 ·cases h0
 ·obtain⟨B,hB⟩:∃B,w1.heap.size=B:=⟨_,rfl⟩
  obtain⟨W0,hW0⟩:∃W0,w1.alloc (.cells #[.int .i64 8,.int .i64 0,.int .i64 0,.string ⟨#[]⟩,.slice none 0 0,.slice none 0 0,.slice none 0 0] 109)=W0:=⟨_,rfl⟩
  have b0:Below w1.heap.size w1 W0:=by rw[← hW0];exact(Below.refl _ _).alloc (Nat.le_refl _) _
  have F2:=mkHid ((F0.out.small (by rw[List.append_nil];exact h1) e1).below b0)
  have P0:Hid (Pb w B #[.int .i64 8,.int .i64 0,.int .i64 0,.string ⟨#[]⟩,.slice none 0 0,.slice none 0 0,.slice none 0 0] v W0):=by show Pb w B _ v W0;rw[← hW0,← hB];exact Pb.new h1 e1.size
  obtain⟨kd0,x0,a0,p0⟩:=F2.out.ps
  have hn1:=p0.cur.lt
  have HW0:=mkHid hW0
  have HB:=mkHid hB
  have HP0:=mkHid p0
  clear h1 e1 b0 hB hW0 kK F0 p0
  have kY:=mkHid (prSaying HP0.out hl hs)
  clear HP0
  go_wp2_with (go_at_call 182;fail)
  rw[HW0.out,HB.out]
  clear HW0
  refine kY.out.mono ?_
  rintro e w2 ⟨e2,⟨h0,rfl⟩|⟨h0,⟨kd2,x2,a2,rfl,h2⟩|hx⟩⟩
  ·refine⟨rfl,F2.out.ef.trans F2.out.nw e2.weak,PrO.bad ?_⟩
   rw[← HR.out,if_neg (Bool.eq_false_iff.1 h0)]
  ·have hR1:=HR.out
   obtain⟨tx,htx⟩:∃tx,Rf.ba (Rf.text T (n+1))=tx:=⟨_,rfl⟩
   rw[if_pos (by rw[h0];rfl),htx] at hR1
   rw[htx]
   have F3:=F2.out.small h2 e2
   have P3:=mkHid (P0.out.ef hgl e2 (.inl rfl))
   have F4:=mkHid (F3.set P3.out 3 (.string tx))
   have P4:Hid (Pb w B #[.int .i64 8,.int .i64 0,.int .i64 0,.string tx,.slice none 0 0,.slice none 0 0,.slice none 0 0] v (w2.setCell ⟨B,3,none⟩ (.string tx))):=P3.out.set 3 (.string tx)
   have c3:w2.cell? ⟨B,3,none⟩=some (.string ⟨#[]⟩):=P3.out.cell 3 _ rfl
   have z3:w2.frozen? ⟨B,3,none⟩=false:=P3.out.fz 3
   obtain⟨V1,hV1⟩:∃V,w2.setCell ⟨B,3,none⟩ (.string tx)=V:=⟨_,rfl⟩
   rw[hV1] at F4 P4
   obtain⟨kd4,x4,a4,h4⟩:=F4.out.ps
   replace HR:=mkHid hR1
   have HV1:=mkHid hV1
   clear h0 h2 e2 kY hR1 F3 P3 hV1 F2 P0 htx
   have kS:=mkHid (prSign h4 hl hs [59] (by decide) (by decide))
   rw[show Rf.cls [59]=112 from rfl] at kS
   clear h4
   go_wp2_with (go_at_call 183;fail)
   rw[HV1.out]
   refine kS.out.mono ?_
   rintro e w7 ⟨e7,⟨h0,rfl⟩|⟨h0,⟨kd7,x7,a7,rfl,h7⟩|hx⟩⟩
   ·refine⟨rfl,F4.out.ef.trans F4.out.nw e7.weak,PrO.bad ?_⟩
    rw[← HR.out,if_neg (Bool.eq_false_iff.1 h0)]
   ·have hR7:=HR.out
    rw[if_pos h0] at hR7
    have hjT:=h7.cur.lt
    have F8:=mkHid (F4.out.small h7 e7)
    have P8:=mkHid (P4.out.ef hgl e7 (.inl rfl))
    have hNz:Hid (R=.ok (n+3) ((E++([]:List NdE)).map (·.1) ++ [{ Rf.zn 8 with text:=tx }])):=by show R=_;rw[← hR7,List.append_nil]
    have d0:(w7).cell? ⟨B,0,none⟩=some (.int .i64 8):=P8.out.cell 0 _ rfl
    have d1:(w7).cell? ⟨B,1,none⟩=some (.int .i64 0):=P8.out.cell 1 _ rfl
    have d2:(w7).cell? ⟨B,2,none⟩=some (.int .i64 0):=P8.out.cell 2 _ rfl
    have d3:(w7).cell? ⟨B,3,none⟩=some (.string tx):=P8.out.cell 3 _ rfl
    have d4:(w7).cell? ⟨B,4,none⟩=some (.slice none 0 0):=P8.out.cell 4 _ rfl
    have d5:(w7).cell? ⟨B,5,none⟩=some (.slice none 0 0):=P8.out.cell 5 _ rfl
    have d6:(w7).cell? ⟨B,6,none⟩=some (.slice none 0 0):=P8.out.cell 6 _ rfl
    clear h0 h7 e7 hR7 P8 P4 F4 kS
    have kA:=mkHid (F8.out.add { Rf.zn 8 with text:=tx } rfl rfl rfl (by rw[List.length_append];first|omega|(simp;omega)))
    have hRR:Hid (R=.ok (n+3) ((E++([]:List NdE)).map (·.1) ++ [{ Rf.zn 8 with text:=tx }])):=hNz
    clear HR F8
    unfold ndV Rf.zn at kA
    dsimp only at kA
    go_wp2_with (go_at_call 149;fail)
    refine kA.out.mono ?_
    rintro e w9 ⟨rfl,v9,A9,hA9,e9,n9,p9,f9,g9⟩
    obtain⟨y,hy⟩:∃y:Int,((E++([]:List NdE)).length:Int)=y:=⟨_,rfl⟩
    have hfin:Hid (Ef g v.ownBlock w w9∧PrO g s l T n v E w R (.returned (.int .i64 y)) w9):=by rw[← hy];exact⟨e9,PrO.added hA9.out hRR.out n9 p9 f9 g9 (by first|omega|(simp;omega))⟩
    rw[hy]
    clear hA9 e9 n9 p9 f9 g9 kA hRR hy
    clear d0 d1 d2 d3 d4 d5 d6
    go_wp2
    go_ret
    exact hfin.out
   ·obtain⟨m1,m2,rfl⟩:=hx
    exact⟨rfl,F4.out.ef.trans F4.out.nw e7.weak,PrO.ofX2 ⟨m1,m2,rfl⟩ (by rw[← HR.out,if_pos h0])⟩
  ·obtain⟨m1,m2,rfl⟩:=hx
   refine⟨rfl,F2.out.ef.trans F2.out.nw e2.weak,PrO.ofX ⟨m1,m2,rfl⟩ ?_⟩
   rw[← HR.out,if_pos (by rw[h0];rfl),is_x m2 112 (by decide)]
   rfl
 ·obtain⟨m1,m2,rfl⟩:=hx
  refine⟨rfl,e1.weak,?_⟩
  refine PrO.ofX ⟨m1,m2,rfl⟩ ?_
  rw[← HR.out,m2]
  rfl
theorem prCmd9 (g:Nat)(s:ByteArray)(l:List UInt8)(T:List Rf.Tk)(f:Nat)(t c:Nat→List Nd→Rf.Out)(hl:s.data.toList=l)(hs:s.size≤100000)(hT:T.length≤30000)(hXc:Rf.Kx T (Rf.cho T t c T.length))(hCho:PrC 177 g s l T f (Rf.cho T t c T.length))(hBlk:PrC 179 g s l T f (Rf.blk T c))(hGT:GoodT T)(n kd:Nat)(x:List UInt8)(a:Nat)(v:Value)(E:List NdE)(w:World)(h:Ps g s l T n kd x a v E w)(hG:Gl g w)(hf:T.length≤n+(f+1))(hE:E.length≤3*n+5)(hw:(kd==1 && Fn.isCmd (Rf.lk x))=true)(hk:Rf.lk x=9)(h1:(x==Rf.wIf)=false)(h2:(x==Rf.wRepeat)=false)(h3:(x==Rf.wSet)=false)(h4:Rf.cmdK x=Rf.lk x) :
  Calls Tryz.prog 148 #[scp g] w fun e w'=>Ef g v.ownBlock w w'∧PrO g s l T n v E w (Rf.cmd T t c n (E.map (·.1))) e w':=by
 obtain⟨q1,q2,-⟩:=h.cur.cmd.1 hw
 obtain⟨R,hR⟩:∃R,Rf.cmd T t c n (E.map (·.1))=R:=⟨_,rfl⟩
 rw[hR]
 rw[Rf.cmd_two T t c n _ 9 q1 (by rw[q2];exact h1) (by rw[q2];exact h2) (by rw[q2];exact h3) (by rw[q2,h4,hk]) (by decide) (by decide)] at hR
 have kK:=mkHid (prKind kindCmd h hl hs hG.ft (fun _=>by rw[q1];exact⟨by decide,by decide⟩))
 rw[hw,hk] at kK
 have F0:=mkHid (Pf.start h hG)
 have hgl:=h.sc.lt
 have HR:=mkHid hR
 have HC:=mkHid hCho
 have HX:=mkHid hXc
 have HL:=mkHid hBlk
 have HG:=mkHid hGT
 have _hf:=hf
 have _hT:=hT
 have _hE:=hE
 clear h hG q1 q2 hw hk hR hCho hXc hGT hBlk
 go_enter Tryz.func148,Tryz.ntmps148
 go_wp2_with (go_at_call 175;fail)
 refine kK.out.mono ?_
 rintro e w1 ⟨e1,⟨h0,-⟩|⟨-,⟨kd1,x1,a1,rfl,h1⟩|hx⟩⟩
 ·cases h0
 ·obtain⟨B,hB⟩:∃B,w1.heap.size=B:=⟨_,rfl⟩
  obtain⟨W0,hW0⟩:∃W0,w1.alloc (.cells #[.int .i64 9,.int .i64 0,.int .i64 0,.string ⟨#[]⟩,.slice none 0 0,.slice none 0 0,.slice none 0 0] 109)=W0:=⟨_,rfl⟩
  have b0:Below w1.heap.size w1 W0:=by rw[← hW0];exact(Below.refl _ _).alloc (Nat.le_refl _) _
  have F2:=mkHid ((F0.out.small (by rw[List.append_nil];exact h1) e1).below b0)
  have P0:Hid (Pb w B #[.int .i64 9,.int .i64 0,.int .i64 0,.string ⟨#[]⟩,.slice none 0 0,.slice none 0 0,.slice none 0 0] v W0):=by show Pb w B _ v W0;rw[← hW0,← hB];exact Pb.new h1 e1.size
  obtain⟨kd0,x0,a0,p0⟩:=F2.out.ps
  have hn1:=p0.cur.lt
  have HW0:=mkHid hW0
  have HB:=mkHid hB
  have HP0:=mkHid p0
  clear h1 e1 b0 hB hW0 kK F0 p0
  have kY:=mkHid (prSaying HP0.out hl hs)
  clear HP0
  go_wp2_with (go_at_call 182;fail)
  rw[HW0.out,HB.out]
  clear HW0
  refine kY.out.mono ?_
  rintro e w2 ⟨e2,⟨h0,rfl⟩|⟨h0,⟨kd2,x2,a2,rfl,h2⟩|hx⟩⟩
  ·refine⟨rfl,F2.out.ef.trans F2.out.nw e2.weak,PrO.bad ?_⟩
   rw[← HR.out,if_neg (Bool.eq_false_iff.1 h0)]
  ·have hR1:=HR.out
   obtain⟨tx,htx⟩:∃tx,Rf.ba (Rf.text T (n+1))=tx:=⟨_,rfl⟩
   rw[if_pos (by rw[h0];rfl),htx] at hR1
   rw[htx]
   have F3:=F2.out.small h2 e2
   have P3:=mkHid (P0.out.ef hgl e2 (.inl rfl))
   have F4:=mkHid (F3.set P3.out 3 (.string tx))
   have P4:Hid (Pb w B #[.int .i64 9,.int .i64 0,.int .i64 0,.string tx,.slice none 0 0,.slice none 0 0,.slice none 0 0] v (w2.setCell ⟨B,3,none⟩ (.string tx))):=P3.out.set 3 (.string tx)
   have c3:w2.cell? ⟨B,3,none⟩=some (.string ⟨#[]⟩):=P3.out.cell 3 _ rfl
   have z3:w2.frozen? ⟨B,3,none⟩=false:=P3.out.fz 3
   obtain⟨V1,hV1⟩:∃V,w2.setCell ⟨B,3,none⟩ (.string tx)=V:=⟨_,rfl⟩
   rw[hV1] at F4 P4
   obtain⟨kd4,x4,a4,h4⟩:=F4.out.ps
   replace HR:=mkHid hR1
   have HV1:=mkHid hV1
   clear h0 h2 e2 kY hR1 F3 P3 hV1 F2 P0 htx
   have kS:=mkHid (prSign h4 hl hs [59] (by decide) (by decide))
   rw[show Rf.cls [59]=112 from rfl] at kS
   clear h4
   go_wp2_with (go_at_call 183;fail)
   rw[HV1.out]
   refine kS.out.mono ?_
   rintro e w7 ⟨e7,⟨h0,rfl⟩|⟨h0,⟨kd7,x7,a7,rfl,h7⟩|hx⟩⟩
   ·refine⟨rfl,F4.out.ef.trans F4.out.nw e7.weak,PrO.bad ?_⟩
    rw[← HR.out,if_neg (Bool.eq_false_iff.1 h0)]
   ·have hR7:=HR.out
    rw[if_pos h0] at hR7
    have hjT:=h7.cur.lt
    have F8:=mkHid (F4.out.small h7 e7)
    have P8:=mkHid (P4.out.ef hgl e7 (.inl rfl))
    have hNz:Hid (R=.ok (n+3) ((E++([]:List NdE)).map (·.1) ++ [{ Rf.zn 9 with text:=tx }])):=by show R=_;rw[← hR7,List.append_nil]
    have d0:(w7).cell? ⟨B,0,none⟩=some (.int .i64 9):=P8.out.cell 0 _ rfl
    have d1:(w7).cell? ⟨B,1,none⟩=some (.int .i64 0):=P8.out.cell 1 _ rfl
    have d2:(w7).cell? ⟨B,2,none⟩=some (.int .i64 0):=P8.out.cell 2 _ rfl
    have d3:(w7).cell? ⟨B,3,none⟩=some (.string tx):=P8.out.cell 3 _ rfl
    have d4:(w7).cell? ⟨B,4,none⟩=some (.slice none 0 0):=P8.out.cell 4 _ rfl
    have d5:(w7).cell? ⟨B,5,none⟩=some (.slice none 0 0):=P8.out.cell 5 _ rfl
    have d6:(w7).cell? ⟨B,6,none⟩=some (.slice none 0 0):=P8.out.cell 6 _ rfl
    clear h0 h7 e7 hR7 P8 P4 F4 kS
    have kA:=mkHid (F8.out.add { Rf.zn 9 with text:=tx } rfl rfl rfl (by rw[List.length_append];first|omega|(simp;omega)))
    have hRR:Hid (R=.ok (n+3) ((E++([]:List NdE)).map (·.1) ++ [{ Rf.zn 9 with text:=tx }])):=hNz
    clear HR F8
    unfold ndV Rf.zn at kA
    dsimp only at kA
    go_wp2_with (go_at_call 149;fail)
    refine kA.out.mono ?_
    rintro e w9 ⟨rfl,v9,A9,hA9,e9,n9,p9,f9,g9⟩
    obtain⟨y,hy⟩:∃y:Int,((E++([]:List NdE)).length:Int)=y:=⟨_,rfl⟩
    have hfin:Hid (Ef g v.ownBlock w w9∧PrO g s l T n v E w R (.returned (.int .i64 y)) w9):=by rw[← hy];exact⟨e9,PrO.added hA9.out hRR.out n9 p9 f9 g9 (by first|omega|(simp;omega))⟩
    rw[hy]
    clear hA9 e9 n9 p9 f9 g9 kA hRR hy
    clear d0 d1 d2 d3 d4 d5 d6
    go_wp2
    go_ret
    exact hfin.out
   ·obtain⟨m1,m2,rfl⟩:=hx
    exact⟨rfl,F4.out.ef.trans F4.out.nw e7.weak,PrO.ofX2 ⟨m1,m2,rfl⟩ (by rw[← HR.out,if_pos h0])⟩
  ·obtain⟨m1,m2,rfl⟩:=hx
   refine⟨rfl,F2.out.ef.trans F2.out.nw e2.weak,PrO.ofX ⟨m1,m2,rfl⟩ ?_⟩
   rw[← HR.out,if_pos (by rw[h0];rfl),is_x m2 112 (by decide)]
   rfl
 ·obtain⟨m1,m2,rfl⟩:=hx
  refine⟨rfl,e1.weak,?_⟩
  refine PrO.ofX ⟨m1,m2,rfl⟩ ?_
  rw[← HR.out,m2]
  rfl
theorem prCmd10 (g:Nat)(s:ByteArray)(l:List UInt8)(T:List Rf.Tk)(f:Nat)(t c:Nat→List Nd→Rf.Out)(hl:s.data.toList=l)(hs:s.size≤100000)(hT:T.length≤30000)(hXc:Rf.Kx T (Rf.cho T t c T.length))(hCho:PrC 177 g s l T f (Rf.cho T t c T.length))(hBlk:PrC 179 g s l T f (Rf.blk T c))(hGT:GoodT T)(n kd:Nat)(x:List UInt8)(a:Nat)(v:Value)(E:List NdE)(w:World)(h:Ps g s l T n kd x a v E w)(hG:Gl g w)(hf:T.length≤n+(f+1))(hE:E.length≤3*n+5)(hw:(kd==1 && Fn.isCmd (Rf.lk x))=true)(hk:Rf.lk x=10)(h1:(x==Rf.wIf)=false)(h2:(x==Rf.wRepeat)=false)(h3:(x==Rf.wSet)=false)(h4:Rf.cmdK x=Rf.lk x) :
  Calls Tryz.prog 148 #[scp g] w fun e w'=>Ef g v.ownBlock w w'∧PrO g s l T n v E w (Rf.cmd T t c n (E.map (·.1))) e w':=by
 obtain⟨q1,q2,-⟩:=h.cur.cmd.1 hw
 obtain⟨R,hR⟩:∃R,Rf.cmd T t c n (E.map (·.1))=R:=⟨_,rfl⟩
 rw[hR]
 rw[Rf.cmd_two T t c n _ 10 q1 (by rw[q2];exact h1) (by rw[q2];exact h2) (by rw[q2];exact h3) (by rw[q2,h4,hk]) (by decide) (by decide)] at hR
 have kK:=mkHid (prKind kindCmd h hl hs hG.ft (fun _=>by rw[q1];exact⟨by decide,by decide⟩))
 rw[hw,hk] at kK
 have F0:=mkHid (Pf.start h hG)
 have hgl:=h.sc.lt
 have HR:=mkHid hR
 have HC:=mkHid hCho
 have HX:=mkHid hXc
 have HL:=mkHid hBlk
 have HG:=mkHid hGT
 have _hf:=hf
 have _hT:=hT
 have _hE:=hE
 clear h hG q1 q2 hw hk hR hCho hXc hGT hBlk
 go_enter Tryz.func148,Tryz.ntmps148
 go_wp2_with (go_at_call 175;fail)
 refine kK.out.mono ?_
 rintro e w1 ⟨e1,⟨h0,-⟩|⟨-,⟨kd1,x1,a1,rfl,h1⟩|hx⟩⟩
 ·cases h0
 ·obtain⟨B,hB⟩:∃B,w1.heap.size=B:=⟨_,rfl⟩
  obtain⟨W0,hW0⟩:∃W0,w1.alloc (.cells #[.int .i64 10,.int .i64 0,.int .i64 0,.string ⟨#[]⟩,.slice none 0 0,.slice none 0 0,.slice none 0 0] 109)=W0:=⟨_,rfl⟩
  have b0:Below w1.heap.size w1 W0:=by rw[← hW0];exact(Below.refl _ _).alloc (Nat.le_refl _) _
  have F2:=mkHid ((F0.out.small (by rw[List.append_nil];exact h1) e1).below b0)
  have P0:Hid (Pb w B #[.int .i64 10,.int .i64 0,.int .i64 0,.string ⟨#[]⟩,.slice none 0 0,.slice none 0 0,.slice none 0 0] v W0):=by show Pb w B _ v W0;rw[← hW0,← hB];exact Pb.new h1 e1.size
  obtain⟨kd0,x0,a0,p0⟩:=F2.out.ps
  have hn1:=p0.cur.lt
  have HW0:=mkHid hW0
  have HB:=mkHid hB
  have HP0:=mkHid p0
  clear h1 e1 b0 hB hW0 kK F0 p0
  have kY:=mkHid (prSaying HP0.out hl hs)
  clear HP0
  go_wp2_with (go_at_call 182;fail)
  rw[HW0.out,HB.out]
  clear HW0
  refine kY.out.mono ?_
  rintro e w2 ⟨e2,⟨h0,rfl⟩|⟨h0,⟨kd2,x2,a2,rfl,h2⟩|hx⟩⟩
  ·refine⟨rfl,F2.out.ef.trans F2.out.nw e2.weak,PrO.bad ?_⟩
   rw[← HR.out,if_neg (Bool.eq_false_iff.1 h0)]
  ·have hR1:=HR.out
   obtain⟨tx,htx⟩:∃tx,Rf.ba (Rf.text T (n+1))=tx:=⟨_,rfl⟩
   rw[if_pos (by rw[h0];rfl),htx] at hR1
   rw[htx]
   have F3:=F2.out.small h2 e2
   have P3:=mkHid (P0.out.ef hgl e2 (.inl rfl))
   have F4:=mkHid (F3.set P3.out 3 (.string tx))
   have P4:Hid (Pb w B #[.int .i64 10,.int .i64 0,.int .i64 0,.string tx,.slice none 0 0,.slice none 0 0,.slice none 0 0] v (w2.setCell ⟨B,3,none⟩ (.string tx))):=P3.out.set 3 (.string tx)
   have c3:w2.cell? ⟨B,3,none⟩=some (.string ⟨#[]⟩):=P3.out.cell 3 _ rfl
   have z3:w2.frozen? ⟨B,3,none⟩=false:=P3.out.fz 3
   obtain⟨V1,hV1⟩:∃V,w2.setCell ⟨B,3,none⟩ (.string tx)=V:=⟨_,rfl⟩
   rw[hV1] at F4 P4
   obtain⟨kd4,x4,a4,h4⟩:=F4.out.ps
   replace HR:=mkHid hR1
   have HV1:=mkHid hV1
   clear h0 h2 e2 kY hR1 F3 P3 hV1 F2 P0 htx
   have kS:=mkHid (prSign h4 hl hs [59] (by decide) (by decide))
   rw[show Rf.cls [59]=112 from rfl] at kS
   clear h4
   go_wp2_with (go_at_call 183;fail)
   rw[HV1.out]
   refine kS.out.mono ?_
   rintro e w7 ⟨e7,⟨h0,rfl⟩|⟨h0,⟨kd7,x7,a7,rfl,h7⟩|hx⟩⟩
   ·refine⟨rfl,F4.out.ef.trans F4.out.nw e7.weak,PrO.bad ?_⟩
    rw[← HR.out,if_neg (Bool.eq_false_iff.1 h0)]
   ·have hR7:=HR.out
    rw[if_pos h0] at hR7
    have hjT:=h7.cur.lt
    have F8:=mkHid (F4.out.small h7 e7)
    have P8:=mkHid (P4.out.ef hgl e7 (.inl rfl))
    have hNz:Hid (R=.ok (n+3) ((E++([]:List NdE)).map (·.1) ++ [{ Rf.zn 10 with text:=tx }])):=by show R=_;rw[← hR7,List.append_nil]
    have d0:(w7).cell? ⟨B,0,none⟩=some (.int .i64 10):=P8.out.cell 0 _ rfl
    have d1:(w7).cell? ⟨B,1,none⟩=some (.int .i64 0):=P8.out.cell 1 _ rfl
    have d2:(w7).cell? ⟨B,2,none⟩=some (.int .i64 0):=P8.out.cell 2 _ rfl
    have d3:(w7).cell? ⟨B,3,none⟩=some (.string tx):=P8.out.cell 3 _ rfl
    have d4:(w7).cell? ⟨B,4,none⟩=some (.slice none 0 0):=P8.out.cell 4 _ rfl
    have d5:(w7).cell? ⟨B,5,none⟩=some (.slice none 0 0):=P8.out.cell 5 _ rfl
    have d6:(w7).cell? ⟨B,6,none⟩=some (.slice none 0 0):=P8.out.cell 6 _ rfl
    clear h0 h7 e7 hR7 P8 P4 F4 kS
    have kA:=mkHid (F8.out.add { Rf.zn 10 with text:=tx } rfl rfl rfl (by rw[List.length_append];first|omega|(simp;omega)))
    have hRR:Hid (R=.ok (n+3) ((E++([]:List NdE)).map (·.1) ++ [{ Rf.zn 10 with text:=tx }])):=hNz
    clear HR F8
    unfold ndV Rf.zn at kA
    dsimp only at kA
    go_wp2_with (go_at_call 149;fail)
    refine kA.out.mono ?_
    rintro e w9 ⟨rfl,v9,A9,hA9,e9,n9,p9,f9,g9⟩
    obtain⟨y,hy⟩:∃y:Int,((E++([]:List NdE)).length:Int)=y:=⟨_,rfl⟩
    have hfin:Hid (Ef g v.ownBlock w w9∧PrO g s l T n v E w R (.returned (.int .i64 y)) w9):=by rw[← hy];exact⟨e9,PrO.added hA9.out hRR.out n9 p9 f9 g9 (by first|omega|(simp;omega))⟩
    rw[hy]
    clear hA9 e9 n9 p9 f9 g9 kA hRR hy
    clear d0 d1 d2 d3 d4 d5 d6
    go_wp2
    go_ret
    exact hfin.out
   ·obtain⟨m1,m2,rfl⟩:=hx
    exact⟨rfl,F4.out.ef.trans F4.out.nw e7.weak,PrO.ofX2 ⟨m1,m2,rfl⟩ (by rw[← HR.out,if_pos h0])⟩
  ·obtain⟨m1,m2,rfl⟩:=hx
   refine⟨rfl,F2.out.ef.trans F2.out.nw e2.weak,PrO.ofX ⟨m1,m2,rfl⟩ ?_⟩
   rw[← HR.out,if_pos (by rw[h0];rfl),is_x m2 112 (by decide)]
   rfl
 ·obtain⟨m1,m2,rfl⟩:=hx
  refine⟨rfl,e1.weak,?_⟩
  refine PrO.ofX ⟨m1,m2,rfl⟩ ?_
  rw[← HR.out,m2]
  rfl
theorem name_of (x:List UInt8):Fn.nameOk ⟨x.toArray⟩=Rf.isName x:=name_same x
theorem prCmdSet (g:Nat)(s:ByteArray)(l:List UInt8)(T:List Rf.Tk)(f:Nat)(t c:Nat→List Nd→Rf.Out)(hl:s.data.toList=l)(hs:s.size≤100000)(hT:T.length≤30000)(hXc:Rf.Kx T (Rf.cho T t c T.length))(hCho:PrC 177 g s l T f (Rf.cho T t c T.length))(hBlk:PrC 179 g s l T f (Rf.blk T c))(hGT:GoodT T)(n kd:Nat)(x:List UInt8)(a:Nat)(v:Value)(E:List NdE)(w:World)(h:Ps g s l T n kd x a v E w)(hG:Gl g w)(hf:T.length≤n+(f+1))(hE:E.length≤3*n+5)(hw:(kd==1 && Fn.isCmd (Rf.lk x))=true)(hk:Rf.lk x=11)(hx:x=Rf.wSet) :
  Calls Tryz.prog 148 #[scp g] w fun e w'=>Ef g v.ownBlock w w'∧PrO g s l T n v E w (Rf.cmd T t c n (E.map (·.1))) e w':=by
 obtain⟨q1,q2,-⟩:=h.cur.cmd.1 hw
 obtain⟨R,hR⟩:∃R,Rf.cmd T t c n (E.map (·.1))=R:=⟨_,rfl⟩
 rw[hR]
 rw[Rf.cmd_set T t c n _ (by unfold Rf.is;rw[q1,q2,hx];rfl)] at hR
 have kK:=mkHid (prKind kindCmd h hl hs hG.ft (fun _=>by rw[q1];exact⟨by decide,by decide⟩))
 rw[hw,hk] at kK
 have F0:=mkHid (Pf.start h hG)
 have hgl:=h.sc.lt
 have HR:=mkHid hR
 have HC:=mkHid hCho
 have HX:=mkHid hXc
 have HL:=mkHid hBlk
 have HG:=mkHid hGT
 have _hf:=hf
 have _hT:=hT
 have _hE:=hE
 clear h hG q1 q2 hw hk hR hCho hXc hGT hBlk
 go_enter Tryz.func148,Tryz.ntmps148
 go_wp2_with (go_at_call 175;fail)
 refine kK.out.mono ?_
 rintro e w1 ⟨e1,⟨h0,-⟩|⟨-,⟨kd1,x1,a1,rfl,h1⟩|hx⟩⟩
 ·cases h0
 ·obtain⟨B,hB⟩:∃B,w1.heap.size=B:=⟨_,rfl⟩
  obtain⟨W0,hW0⟩:∃W0,w1.alloc (.cells #[.int .i64 11,.int .i64 0,.int .i64 0,.string ⟨#[]⟩,.slice none 0 0,.slice none 0 0,.slice none 0 0] 109)=W0:=⟨_,rfl⟩
  have b0:Below w1.heap.size w1 W0:=by rw[← hW0];exact(Below.refl _ _).alloc (Nat.le_refl _) _
  have F2:=mkHid ((F0.out.small (by rw[List.append_nil];exact h1) e1).below b0)
  have P0:Hid (Pb w B #[.int .i64 11,.int .i64 0,.int .i64 0,.string ⟨#[]⟩,.slice none 0 0,.slice none 0 0,.slice none 0 0] v W0):=by show Pb w B _ v W0;rw[← hW0,← hB];exact Pb.new h1 e1.size
  obtain⟨kd0,x0,a0,p0⟩:=F2.out.ps
  have hn1:=p0.cur.lt
  have HW0:=mkHid hW0
  have HB:=mkHid hB
  have HP0:=mkHid p0
  clear h1 e1 b0 hB hW0 kK F0 p0
  have bD:Below W0.heap.size W0 W0.drew:=below_drew (Below.refl _ _)
  have hxs:x0.length≤100000:=by
   have:=HP0.out.cur.small
   have:l.length=s.size:=by rw[← hl];simp
   omega
  have hp1:=HP0.out.below bD
  have c4:=hp1.sc.c4
  have kV:=mkHid (implVariable ⟨x0.toArray⟩ W0.drew (by simp[ByteArray.size];omega))
  rw[name_of] at kV
  have kN:=mkHid (scNeedNo g s a0 (Rf.pos T (n+1)) W0.drew hp1.sc)
  have kY:=mkHid (scNeedYes g W0.drew)
  have kS:=mkHid (prSaying hp1 hl hs)
  have hcur:=mkHid HP0.out.cur
  replace F2:=mkHid (F2.out.below bD)
  replace P0:=mkHid (P0.out.below bD)
  clear HP0 hp1 bD
  obtain⟨xb,hxb⟩:∃xb:ByteArray,⟨x0.toArray⟩=xb:=⟨_,rfl⟩
  rw[hxb] at c4 kV
  clear hxb
  go_wp2
  rw[HW0.out,HB.out]
  clear HW0
  refine wp_region_any (by kernel_rfl) ?_
  refine ta 0 (scp g) ?_ ?_
  ·intro w
   go_simp
   all_goals omega
  go_simp
  refine ta 1 (.pointer (some ⟨g,0,none⟩)) ?_ ?_
  ·intro w
   go_simp
   all_goals omega
  go_simp
  refine ta 2 (.pointer (some ⟨g,0,none⟩)) ?_ ?_
  ·intro w
   go_simp
   all_goals omega
  go_simp
  refine ta 3 (scp g) ?_ ?_
  ·intro w
   go_simp
   all_goals omega
  go_simp
  refine ta 4 (.pointer (some ⟨g,0,none⟩)) ?_ ?_
  ·intro w
   go_simp
   all_goals omega
  go_simp
  refine ta 5 (.pointer (some ⟨g,3,none⟩)) ?_ ?_
  ·intro w
   go_simp
   all_goals omega
  go_simp
  refine ta 6 (.pointer (some ⟨g,4,none⟩)) ?_ ?_
  ·intro w
   go_simp
   all_goals omega
  go_simp
  refine r1 7 (fun K hK=>?_)
  go_simp
  refine hK _ _ ?_
  clear hK K
  go_simp
  refine r1 8 (fun K hK=>?_)
  go_simp
  refine kV.out.mono ?_
  rintro e w2 ⟨rfl,rfl⟩
  clear c4 kV
  cases hnm:Rf.isName x0 with
  | false=>
   have hRb:Hid (R=.bad (n+1)):=by
    show R=_
    rw[← HR.out]
    by_cases hk:Rf.kind T (n+1)=116
    ·rw[← hcur.out.txt hk,hnm,Bool.and_false,if_neg (by decide)]
    ·rw[if_neg (by rw[Bool.and_eq_true,beq_iff_eq];exact fun h=>hk h.1)]
   clear HR hnm
   go_simp
   refine hK _ _ ?_
   clear hK K
   go_simp
   refine r1 9 (fun K hK=>?_)
   go_simp
   refine kN.out.mono ?_
   rintro e w2 ⟨rfl,rfl⟩
   go_simp
   exact⟨rfl,F2.out.ef,PrO.bad hRb.out⟩
  | true=>
   have hRk:=HR.out
   replace hnm:=mkHid hnm
   go_simp
   refine hK _ _ ?_
   clear hK K
   go_simp
   refine r1 9 (fun K hK=>?_)
   go_simp
   refine kY.out.mono ?_
   rintro e w2 ⟨rfl,rfl⟩
   go_simp
   refine hK _ _ ?_
   clear hK K hRk
   go_simp
   refine wpAny_done (by kernel_rfl) ?_ _
   clear kN kY
   obtain⟨WD,hWD⟩:∃WD,W0.drew=WD:=⟨_,rfl⟩
   rw[hWD] at kS F2 P0 ⊢
   clear hWD
   go_wp2_with (go_at_call 182;fail)
   refine kS.out.mono ?_
   rintro e w3 ⟨e3,⟨h0,rfl⟩|⟨h0,⟨kd3,x3,a3,rfl,h3⟩|hx⟩⟩
   ·refine⟨rfl,F2.out.ef.trans F2.out.nw e3.weak,PrO.bad ?_⟩
    rw[← HR.out,h0,Bool.false_and,if_neg (by decide)]
   ·have hR1:=HR.out
    have hnt:Rf.isName (Rf.text T (n+1))=true:=by rw[← hcur.out.txt h0];exact hnm.out
    rw[if_pos (by rw[h0,hnt];rfl)] at hR1
    obtain⟨tn,htn⟩:∃tn,Rf.ba (Rf.text T (n+1))=tn:=⟨_,rfl⟩
    rw[htn] at hR1 ⊢
    have P3:=P0.out.ef hgl e3 (.inl rfl)
    have b3:Below w3.heap.size w3 (w3.alloc (.cells #[.string tn] 9)):=(Below.refl _ _).alloc (Nat.le_refl _) _
    have hs3:=e3.size
    have hO:OwnX WD.heap.size (.slice (some ⟨w3.heap.size,0,none⟩) 1 1) [tn] (w3.alloc (.cells #[.string tn] 9)):=⟨rfl,.inr ⟨w3.heap.size,1,_,rfl,hs3,heap_alloc_at _ _,Nat.le_refl _,by unfold maxLen;omega,rfl,rfl⟩⟩
    have F4:=F2.out.names (h3.below b3) (e3.trans0 (Ef.of_below b3)) hO
    have P4:=mkHid (P3.below b3)
    have F5:=mkHid (F4.set P4.out 4 (.slice (some ⟨w3.heap.size,0,none⟩) 1 1))
    have P5:Hid (Pb w B #[.int .i64 11,.int .i64 0,.int .i64 0,.string ⟨#[]⟩,.slice (some ⟨w3.heap.size,0,none⟩) 1 1,.slice none 0 0,.slice none 0 0] v ((w3.alloc (.cells #[.string tn] 9)).setCell ⟨B,4,none⟩ (.slice (some ⟨w3.heap.size,0,none⟩) 1 1))):=P4.out.set 4 _
    have c4:(w3.alloc (.cells #[.string tn] 9)).cell? ⟨B,4,none⟩=some (.slice none 0 0):=P4.out.cell 4 _ rfl
    have z4:(w3.alloc (.cells #[.string tn] 9)).frozen? ⟨B,4,none⟩=false:=P4.out.fz 4
    obtain⟨q3,hq3⟩:∃q3,w3.heap.size=q3:=⟨_,rfl⟩
    obtain⟨V1,hV1⟩:∃V,(w3.alloc (.cells #[.string tn] 9)).setCell ⟨B,4,none⟩ (.slice (some ⟨w3.heap.size,0,none⟩) 1 1)=V:=⟨_,rfl⟩
    rw[hV1,hq3] at F5 P5
    obtain⟨kd5,x5,a5,h5⟩:=F5.out.ps
    have kS2:=mkHid (prSaying h5 hl hs)
    replace HR:=mkHid hR1
    have HV1:=mkHid hV1
    have Hq3:=mkHid hq3
    clear h0 h3 e3 kS hR1 P3 b3 hO F4 P4 hV1 F2 P0 htn hnm hcur hnt h5 hs3 hq3
    go_wp2_with (go_at_call 182;fail)
    rw[HV1.out,Hq3.out]
    clear c4 z4 HV1 Hq3
    refine kS2.out.mono ?_
    rintro e w4 ⟨e4,⟨h0,rfl⟩|⟨h0,⟨kd4,x4,a4,rfl,h4⟩|hx⟩⟩
    ·refine⟨rfl,F5.out.ef.trans F5.out.nw e4.weak,PrO.bad ?_⟩
     rw[← HR.out,if_neg (Bool.eq_false_iff.1 h0)]
    ·have hR1:=HR.out
     obtain⟨tx,htx⟩:∃tx,Rf.ba (Rf.text T (n+2))=tx:=⟨_,rfl⟩
     rw[if_pos (by rw[h0];rfl),htx] at hR1
     rw[show n+1+1=n+2 from rfl,htx]
     have F6:=F5.out.small h4 e4
     have P6:=mkHid (P5.out.ef hgl e4 (.inl rfl))
     have F7:=mkHid (F6.set P6.out 3 (.string tx))
     have P7:Hid (Pb w B #[.int .i64 11,.int .i64 0,.int .i64 0,.string tx,.slice (some ⟨q3,0,none⟩) 1 1,.slice none 0 0,.slice none 0 0] v (w4.setCell ⟨B,3,none⟩ (.string tx))):=P6.out.set 3 (.string tx)
     have c3:w4.cell? ⟨B,3,none⟩=some (.string ⟨#[]⟩):=P6.out.cell 3 _ rfl
     have z3:w4.frozen? ⟨B,3,none⟩=false:=P6.out.fz 3
     obtain⟨V2,hV2⟩:∃V,w4.setCell ⟨B,3,none⟩ (.string tx)=V:=⟨_,rfl⟩
     rw[hV2] at F7 P7
     obtain⟨kd6,x6,a6,h6⟩:=F7.out.ps
     replace HR:=mkHid hR1
     have HV2:=mkHid hV2
     clear h0 h4 e4 kS2 hR1 F6 P6 hV2 F5 P5 htx
     have kS:=mkHid (prSign h6 hl hs [59] (by decide) (by decide))
     rw[show Rf.cls [59]=112 from rfl] at kS
     clear h6
     go_wp2_with (go_at_call 183;fail)
     rw[HV2.out]
     refine kS.out.mono ?_
     rintro e w7 ⟨e7,⟨h0,rfl⟩|⟨h0,⟨kd7,x7,a7,rfl,h7⟩|hx⟩⟩
     ·refine⟨rfl,F7.out.ef.trans F7.out.nw e7.weak,PrO.bad ?_⟩
      rw[← HR.out,if_neg (Bool.eq_false_iff.1 h0)]
     ·have hR7:=HR.out
      rw[if_pos h0] at hR7
      have hjT:=h7.cur.lt
      have F8:=mkHid (F7.out.small h7 e7)
      have P8:=mkHid (P7.out.ef hgl e7 (.inl rfl))
      have hNz:Hid (R=.ok (n+4) ((E++([]:List NdE)).map (·.1) ++ [{ Rf.zn 11 with names:=[tn],text:=tx }])):=by show R=_;rw[← hR7,List.append_nil]
      have d0:(w7).cell? ⟨B,0,none⟩=some (.int .i64 11):=P8.out.cell 0 _ rfl
      have d1:(w7).cell? ⟨B,1,none⟩=some (.int .i64 0):=P8.out.cell 1 _ rfl
      have d2:(w7).cell? ⟨B,2,none⟩=some (.int .i64 0):=P8.out.cell 2 _ rfl
      have d3:(w7).cell? ⟨B,3,none⟩=some (.string tx):=P8.out.cell 3 _ rfl
      have d4:(w7).cell? ⟨B,4,none⟩=some (.slice (some ⟨q3,0,none⟩) 1 1):=P8.out.cell 4 _ rfl
      have d5:(w7).cell? ⟨B,5,none⟩=some (.slice none 0 0):=P8.out.cell 5 _ rfl
      have d6:(w7).cell? ⟨B,6,none⟩=some (.slice none 0 0):=P8.out.cell 6 _ rfl
      clear h0 h7 e7 hR7 P8 P7 F7 kS
      have kA:=mkHid (F8.out.add { Rf.zn 11 with names:=[tn],text:=tx } rfl rfl rfl (by rw[List.length_append];first|omega|(simp;omega)))
      have hRR:Hid (R=.ok (n+4) ((E++([]:List NdE)).map (·.1) ++ [{ Rf.zn 11 with names:=[tn],text:=tx }])):=hNz
      clear HR F8
      unfold ndV Rf.zn at kA
      dsimp only at kA
      go_wp2_with (go_at_call 149;fail)
      refine kA.out.mono ?_
      rintro e w9 ⟨rfl,v9,A9,hA9,e9,n9,p9,f9,g9⟩
      obtain⟨y,hy⟩:∃y:Int,((E++([]:List NdE)).length:Int)=y:=⟨_,rfl⟩
      have hfin:Hid (Ef g v.ownBlock w w9∧PrO g s l T n v E w R (.returned (.int .i64 y)) w9):=by rw[← hy];exact⟨e9,PrO.added hA9.out hRR.out n9 p9 f9 g9 (by first|omega|(simp;omega))⟩
      rw[hy]
      clear hA9 e9 n9 p9 f9 g9 kA hRR hy
      clear d0 d1 d2 d3 d4 d5 d6
      go_wp2
      go_ret
      exact hfin.out
     ·obtain⟨m1,m2,rfl⟩:=hx
      exact⟨rfl,F7.out.ef.trans F7.out.nw e7.weak,PrO.ofX2 ⟨m1,m2,rfl⟩ (by rw[← HR.out,if_pos h0])⟩
    ·obtain⟨m1,m2,rfl⟩:=hx
     refine⟨rfl,F5.out.ef.trans F5.out.nw e4.weak,PrO.ofX ⟨m1,m2,rfl⟩ ?_⟩
     rw[← HR.out,if_pos (by rw[h0];rfl),is_x m2 112 (by decide)]
     rfl
   ·obtain⟨m1,m2,rfl⟩:=hx
    have hnt:Rf.isName (Rf.text T (n+1))=true:=by rw[← hcur.out.txt h0];exact hnm.out
    refine⟨rfl,F2.out.ef.trans F2.out.nw e3.weak,PrO.ofX ⟨m1,m2,rfl⟩ ?_⟩
    rw[← HR.out,if_pos (by rw[h0,hnt];rfl),if_neg (by rw[m2];decide)]
 ·obtain⟨m1,m2,rfl⟩:=hx
  refine⟨rfl,e1.weak,?_⟩
  refine PrO.ofX ⟨m1,m2,rfl⟩ ?_
  rw[← HR.out,if_neg (by rw[m2];exact fun h=>absurd (Bool.and_eq_true _ _ ▸ h).1 (by decide))]
theorem PrC.less {fn g:Nat} {s:ByteArray} {l:List UInt8} {T:List Rf.Tk} {f f':Nat} {P:Nat→List Nd→Rf.Out} (h:PrC fn g s l T f P)(hf:f'≤f):PrC fn g s l T f' P:=fun n kd x a v E w hp hG h1 h2=>h n kd x a v E w hp hG (by omega) h2
theorem prTestBad (g:Nat)(s:ByteArray)(l:List UInt8)(T:List Rf.Tk)(t:Nat→List Nd→Rf.Out)(hl:s.data.toList=l)(hs:s.size≤100000)(n kd:Nat)(x:List UInt8)(a:Nat)(v:Value)(E:List NdE)(w:World)(h:Ps g s l T n kd x a v E w)(hG:Gl g w)(hw:(kd==1 && Fn.isTest (Rf.lk x))=false) :
  Calls Tryz.prog 203 #[scp g] w fun e w'=>Ef g v.ownBlock w w'∧PrO g s l T n v E w (Rf.tst T t n (E.map (·.1))) e w':=by
 have kK:=mkHid (prKind kindTst h hl hs hG.ft (fun h=>by rw[hw] at h;cases h))
 rw[hw] at kK
 have HR:=mkHid (Rf.tst_no T t n (E.map (·.1)) (h.cur.tst.2 hw))
 clear h hG hw
 go_enter Tryz.func203,Tryz.ntmps203
 go_wp2_with (go_at_call 175;fail)
 refine kK.out.mono ?_
 rintro e w1 ⟨e1,⟨-,rfl⟩|⟨h0,-⟩⟩
 ·exact⟨rfl,e1.weak,PrO.bad HR.out⟩
 ·cases h0
theorem prCmdBad (g:Nat)(s:ByteArray)(l:List UInt8)(T:List Rf.Tk)(t c:Nat→List Nd→Rf.Out)(hl:s.data.toList=l)(hs:s.size≤100000)(n kd:Nat)(x:List UInt8)(a:Nat)(v:Value)(E:List NdE)(w:World)(h:Ps g s l T n kd x a v E w)(hG:Gl g w)(hw:(kd==1 && Fn.isCmd (Rf.lk x))=false) :
  Calls Tryz.prog 148 #[scp g] w fun e w'=>Ef g v.ownBlock w w'∧PrO g s l T n v E w (Rf.cmd T t c n (E.map (·.1))) e w':=by
 have kK:=mkHid (prKind kindCmd h hl hs hG.ft (fun h=>by rw[hw] at h;cases h))
 rw[hw] at kK
 have HR:=mkHid (Rf.cmd_no T t c n (E.map (·.1)) (h.cur.cmd.2 hw))
 clear h hG hw
 go_enter Tryz.func148,Tryz.ntmps148
 go_wp2_with (go_at_call 175;fail)
 refine kK.out.mono ?_
 rintro e w1 ⟨e1,⟨-,rfl⟩|⟨h0,-⟩⟩
 ·exact⟨rfl,e1.weak,PrO.bad HR.out⟩
 ·cases h0
theorem prTest (g:Nat)(s:ByteArray)(l:List UInt8)(T:List Rf.Tk)(f:Nat)(t:Nat→List Nd→Rf.Out)(hl:s.data.toList=l)(hs:s.size≤100000)(hT:T.length≤30000)(hGT:GoodT T)(hXt:Rf.Kx T t)(hTst:PrC 203 g s l T f t):PrC 203 g s l T (f+1) (Rf.tst T t):=by
 intro n kd x a v E w h hG hf hE
 cases hw:(kd==1 && Fn.isTest (Rf.lk x)) with
 | false=>exact prTestBad g s l T t hl hs n kd x a v E w h hG hw
 | true=>
  obtain⟨-,-,q3,q4⟩:=h.cur.tst.1 hw
  rcases Rf.tstK_cases x with e|e|e|e|e|e|e|e|e|e|e|e
  ·exact absurd e q4
  ·exact prTest20 g s l T f t hl hs hT hXt hTst hGT n kd x a v E w h hG hf hE hw (q3.symm.trans e)
  ·exact prTest21 g s l T f t hl hs hT hXt hTst hGT n kd x a v E w h hG hf hE hw (q3.symm.trans e)
  ·exact prTest22 g s l T f t hl hs hT hXt hTst hGT n kd x a v E w h hG hf hE hw (q3.symm.trans e)
  ·exact prTest23 g s l T f t hl hs hT hXt hTst hGT n kd x a v E w h hG hf hE hw (q3.symm.trans e)
  ·exact prTest24 g s l T f t hl hs hT hXt hTst hGT n kd x a v E w h hG hf hE hw (q3.symm.trans e)
  ·exact prTest25 g s l T f t hl hs hT hXt hTst hGT n kd x a v E w h hG hf hE hw (q3.symm.trans e)
  ·exact prTest26 g s l T f t hl hs hT hXt hTst hGT n kd x a v E w h hG hf hE hw (q3.symm.trans e)
  ·exact prTest27 g s l T f t hl hs hT hXt hTst hGT n kd x a v E w h hG hf hE hw (q3.symm.trans e)
  ·exact prTest28 g s l T f t hl hs hT hXt hTst hGT n kd x a v E w h hG hf hE hw (q3.symm.trans e)
  ·exact prTest29 g s l T f t hl hs hT hXt hTst hGT n kd x a v E w h hG hf hE hw (q3.symm.trans e)
  ·exact prTest31 g s l T f t hl hs hT hXt hTst hGT n kd x a v E w h hG hf hE hw (q3.symm.trans e)
theorem prCmd (g:Nat)(s:ByteArray)(l:List UInt8)(T:List Rf.Tk)(f:Nat)(t c:Nat→List Nd→Rf.Out)(hl:s.data.toList=l)(hs:s.size≤100000)(hT:T.length≤30000)(hGT:GoodT T)(hXt:Rf.Kx T t)(hXc:Rf.Kx T c)(hTst:PrC 203 g s l T f t)(hCmd:PrC 148 g s l T f c):PrC 148 g s l T (f+1) (Rf.cmd T t c):=by
 intro n kd x a v E w h hG hf hE
 cases hw:(kd==1 && Fn.isCmd (Rf.lk x)) with
 | false=>exact prCmdBad g s l T t c hl hs n kd x a v E w h hG hw
 | true=>
  have hlt:=h.cur.lt
  have hB:=prBlock g s l T f c hl hs hT hXc hCmd
  have hC:=prChoice g s l T f t c hl hs hT hXt hTst hB T.length (T.length-(n+1)) (by omega) (by omega)
  have hB1:=hB.less (f':=T.length-(n+1)) (by omega)
  have hX:=Rf.cho_x (c:=c) hXt T.length
  have hf1:T.length≤n+(T.length-(n+1)+1):=by omega
  obtain⟨-,-,⟨e,q⟩|⟨e,q⟩|⟨e,q⟩|⟨h1,h2,h3,h4,q⟩⟩:=h.cur.cmd.1 hw
  ·exact prCmdIf g s l T _ t c hl hs hT hX hC hB1 hGT n kd x a v E w h hG hf1 hE hw q e
  ·exact prCmdRep g s l T _ t c hl hs hT hX hC hB1 hGT n kd x a v E w h hG hf1 hE hw q e
  ·exact prCmdSet g s l T _ t c hl hs hT hX hC hB1 hGT n kd x a v E w h hG hf1 hE hw q e
  ·rcases q with q|q|q|q|q|q|q
   ·exact prCmd4 g s l T _ t c hl hs hT hX hC hB1 hGT n kd x a v E w h hG hf1 hE hw q h1 h2 h3 h4
   ·exact prCmd5 g s l T _ t c hl hs hT hX hC hB1 hGT n kd x a v E w h hG hf1 hE hw q h1 h2 h3 h4
   ·exact prCmd6 g s l T _ t c hl hs hT hX hC hB1 hGT n kd x a v E w h hG hf1 hE hw q h1 h2 h3 h4
   ·exact prCmd7 g s l T _ t c hl hs hT hX hC hB1 hGT n kd x a v E w h hG hf1 hE hw q h1 h2 h3 h4
   ·exact prCmd8 g s l T _ t c hl hs hT hX hC hB1 hGT n kd x a v E w h hG hf1 hE hw q h1 h2 h3 h4
   ·exact prCmd9 g s l T _ t c hl hs hT hX hC hB1 hGT n kd x a v E w h hG hf1 hE hw q h1 h2 h3 h4
   ·exact prCmd10 g s l T _ t c hl hs hT hX hC hB1 hGT n kd x a v E w h hG hf1 hE hw q h1 h2 h3 h4
theorem prLv (g:Nat)(s:ByteArray)(l:List UInt8)(T:List Rf.Tk)(hl:s.data.toList=l)(hs:s.size≤100000)(hT:T.length≤30000)(hGT:GoodT T):∀f,PrC 203 g s l T f (Rf.lv T f).1∧PrC 148 g s l T f (Rf.lv T f).2
 | 0=>⟨fun n kd x a v E w h _ hf _=>by have:=h.cur.lt;omega,fun n kd x a v E w h _ hf _=>by have:=h.cur.lt;omega⟩
 | f+1=>⟨prTest g s l T f _ hl hs hT hGT (Rf.lv_x T f).1 (prLv g s l T hl hs hT hGT f).1,prCmd g s l T f _ _ hl hs hT hGT (Rf.lv_x T f).1 (Rf.lv_x T f).2 (prLv g s l T hl hs hT hGT f).1 (prLv g s l T hl hs hT hGT f).2⟩
theorem Ef.fore {g:Nat} {w w1 w2:World} (h:Ef g none w w1)(h2:Ef g none w1 w2):Ef g none w w2:=h.trans0 h2
def ScO (g:Nat)(T:List Rf.Tk)(R:Rf.Out)(e:Ending)(w':World):Prop:=
 match R with
 | .ok _ N=>∃ v' A,e=.returned v'∧N=A.map (·.1)∧A.length≤3*T.length+1∧Nt (g+1) v' A w'
 | .bad j=>e=faultAt (Rf.pos T j)
theorem prScript (g:Nat)(s:ByteArray)(l:List UInt8)(T:List Rf.Tk)(C:Nat→List Nd→Rf.Out)(hl:s.data.toList=l)(hs:s.size≤100000)(hT:T.length≤30000)(hTk:Rf.tk l=T)(hX:Rf.Kx T C)(hC:PrC 148 g s l T T.length C)
  (w:World) (h:Sc (prR 0 ⟨#[]⟩ (.slice none 0 0)) w g s 0 0) (hG:Gl g w) :
  Calls Tryz.prog 117 #[scp g] w fun e w'=>Ef g none w w'∧ScO g T (Rf.topEnd (Rf.all T C T.length 0 [] [])) e w':=by
 have kA:=mkHid (scAdvance g s l T 0 0 0 0 (l.length+1) ⟨#[]⟩ (.slice none 0 0) w hl hs (Nat.zero_le _) h (by omega) (by rw[← hTk];rfl))
 have HC:=mkHid hC
 have HX:=mkHid hX
 have HGl:=mkHid hG
 obtain⟨R,hR⟩:∃R,Rf.topEnd (Rf.all T C T.length 0 [] [])=R:=⟨_,rfl⟩
 rw[hR]
 replace hR:=mkHid hR
 clear h hC hX hG hTk
 go_enter Tryz.func117,Tryz.ntmps117
 go_wp2_with (go_at_call 147;fail)
 refine kA.out.mono ?_
 rintro e w1 ⟨g1,⟨kd',x',a',rfl,s1,c1⟩|⟨m1,m2,rfl⟩⟩
 ·have e1:=Ef.of_grown g1
  have hp1:Ps g s l T 0 kd' x' a' (.slice none 0 0) [] w1:=⟨s1,c1,Nt.nil _ _⟩
  have hlt:=c1.lt
  have S0:Hid (∃(m F:Nat) (A:List NdE) (ks:List Int) (v':Value),T.length-m≤T.length∧T.length≤m+F∧m<T.length∧ks.length≤m∧A.length≤3*m∧Rf.topEnd (Rf.all T C F m (A.map (·.1)) ks)=R∧Pf g s l T (.slice none 0 0) [] w1 [] [] ks (.slice none 0 0) (.slice none 0 0) (.slice none 0 0) m v' A w1):=
   ⟨0,T.length,[],[],.slice none 0 0,by omega,by omega,hlt,by simp,by simp,hR.out,Pf.start hp1 (HGl.out.ef e1 (fun _ e=>by cases e))⟩
  have E1:=mkHid e1
  clear s1 c1 g1 e1 hp1 hlt hR kA HGl
  go_wp2
  go_loopg [3] (T.length) (fun q ov wr=>∃ (m F:Nat) (A:List NdE) (ks:List Int) (v':Value),T.length-m≤q∧T.length≤m+F∧m<T.length∧ks.length≤m∧A.length≤3*m∧Rf.topEnd (Rf.all T C F m (A.map (·.1)) ks)=R∧Pf g s l T (.slice none 0 0) [] w1 [] [] ks (.slice none 0 0) (.slice none 0 0) ov m v' A wr)
  case atStart=>exact S0.out
  case round=>
   clear S0
   obtain⟨m,F,A,ks,v',hq,hmF,hmT,hkm,hAm,hRm,hP⟩:=hrel
   obtain⟨o,cap,hsh⟩:=own_shape hP.od
   subst hsh
   obtain⟨F,rfl⟩:∃F',F=F'+1:=⟨F-1,by omega⟩
   obtain⟨kd1,x1,a1,hp⟩:=hP.ps
   have c3:=hp.sc.c3
   have HP:=mkHid hP
   by_cases hk0:kd1=0
   ·have hk:Rf.kind T m=101:=by
     rcases hp.cur.kinds with ⟨-,k1,-⟩|⟨e,-⟩|⟨e,-⟩|⟨e,-⟩
     ·exact k1
     ·omega
     ·omega
     ·omega
    have hR2:=hRm
    rw[Rf.all,if_pos (by rw[hk];rfl)] at hR2
    replace hR2:Hid (R=.ok m (A.map (·.1) ++ [{ Rf.zn 1 with kids:=ks }])):=hR2.symm
    have hd:((kd1:Int) != 0)=false:=by subst hk0;rfl
    have kAd:=mkHid (HP.out.add { Rf.zn 1 with kids:=ks } rfl rfl rfl (by rw[List.nil_append];omega))
    clear hk0 hk hRm hP hp
    unfold ndV Rf.zn at kAd
    dsimp only at kAd
    go_wp2_with (go_at_call 149;fail)
    refine kAd.out.mono ?_
    rintro e w3 ⟨rfl,v2,A2,hA2,e3,n3,⟨kd3,x3,a3,p3⟩,f3,f4⟩
    have c5:=p3.sc.c5
    have hfin:Hid (Ef g none w w3∧ScO g T R (.returned v2) w3):=by
     refine⟨E1.out.fore e3,?_⟩
     rw[hR2.out]
     refine⟨v2,A2,rfl,?_,?_,p3.nt⟩
     ·rw[hA2.out]
      simp[Rf.zn]
     ·rw[hA2.out]
      simp
      omega
    obtain⟨o2,cap2,hsh2⟩:=p3.nt.shape
    clear hA2 e3 n3 f3 f4 kAd HP hR2 p3 c3 hd
    subst hsh2
    go_wp2
    go_ret
    exact hfin.out
   ·have hk:¬Rf.kind T m=101:=by
     have hcl:Rf.cls x1≠101:=by
      cases x1 with
      | nil=>decide
      | cons c r=>
       rw[Rf.cls]
       split
       ·decide
       ·split
        ·split<;>decide
        ·split<;>decide
     rcases hp.cur.kinds with ⟨e,-⟩|⟨-,k1,-⟩|⟨-,k1,-⟩|⟨-,k1,-⟩
     ·omega
     ·rw[k1];exact hcl
     ·rw[k1];decide
     ·rw[k1];decide
    have hd:((kd1:Int) != 0)=true:=by rw[bne_iff_ne];omega
    have kC:=mkHid (HC.out m _ _ _ v' ([]++A) wr hp HP.out.gl (by omega) (by rw[List.nil_append];omega))
    obtain⟨Z,hZ⟩:∃Z,C m (([]++A:List NdE).map (·.1))=Z:=⟨_,rfl⟩
    have hR2:=hRm
    rw[Rf.all,if_neg (by simpa using hk),show A.map (·.1)=(([]++A:List NdE).map (·.1)) from rfl,hZ] at hR2
    rw[hZ] at kC
    replace hR2:=mkHid hR2
    clear hk0 hk hRm hP hp hZ
    go_wp2_with (go_at_call 148;fail)
    refine kC.out.mono ?_
    rintro e w3 ⟨e3,h3⟩
    clear kC c3 hd
    cases Z with
    | bad j=>
     obtain rfl:e=_:=h3
     refine⟨rfl,E1.out.fore (HP.out.ef.trans HP.out.nw e3),?_⟩
     rw[← hR2.out]
     exact rfl
    | ok j N=>
     rcases h3 with ⟨A1,v1,rfl,hN,hp3⟩|hx
     ·have hcn:=hp3.cnt
      have hR3:Rf.topEnd (Rf.all T C F j N (ks ++ [Rf.last N]))=R:=hR2.out
      obtain⟨z,hz⟩:∃z,Rf.last N=z:=⟨_,rfl⟩
      rw[hz] at hR3 ⊢
      rw[hN,List.nil_append] at hR3
      replace hR3:=mkHid hR3
      obtain⟨kd4,x4,a4,hp4⟩:=hp3.ps
      have hjT:=hp4.cur.lt
      replace HP:=mkHid (HP.out.call e3 hp3)
      clear hN hz hp3 hp4 e3 hR2
      go_wp2_with (at_builtin;go_must (refine wp_appNat rfl _ _ rfl w1.heap.size (.slice o ks.length cap) ks rfl HP.out.od z 1 rfl (by omega) HP.out.ef.size ?_;intro v4 w4 ho4 hg4 hn4;refine Hid.out ?_))
      refine mkHid ?_
      have HQ:=mkHid (HP.out.kid ho4 hg4 hn4)
      clear ho4 hg4 hn4 HP
      go_wp2
      go_roundg (T.length-j)
      case measure=>omega
      case rel=>exact⟨j,F,A++A1,ks ++ [z],v1,by omega,by omega,hjT,by simp;omega,by simp;omega,hR3.out,HQ.out⟩
     ·obtain⟨m1,m2,rfl⟩:=hx
      refine⟨rfl,E1.out.fore (HP.out.ef.trans HP.out.nw e3),?_⟩
      rw[← hR2.out]
      show ScO g T (Rf.topEnd (Rf.all T C F j N _)) _ _
      rw[Rf.all_x HX.out m2]
      exact rfl
 ·refine⟨rfl,Ef.of_grown g1,?_⟩
  rw[← hR.out,Rf.all_x HX.out m2]
  exact rfl
theorem count_same (c:UInt8):∀l:List UInt8,Lib.countByte l c=l.count c:=by
 intro l
 first|rfl|simp[Lib.countByte]|(unfold Lib.countByte;rfl)
theorem implLine (s:ByteArray)(p:Nat)(w:World)(hp:p≤s.size)(hs:s.size≤100000) :
  Calls Tryz.prog 116 #[.string s,.int .i64 (p:Int)] w fun e w'=>e=.returned (.int .i64 (Rf.line s.data.toList p:Int))∧w=w':=by
 have kC:=mkHid ((Tryz.strings_Count_one (s.extract 0 p) 10 w).mono fun e w' h=>(⟨h.1,h.2.symm⟩:_∧w=w'))
 have hcl:Lib.countByte (s.extract 0 p).data.toList 10=(s.data.toList.take p).count 10:=by
  rw[count_same]
  congr 1
  simp
 rw[hcl] at kC
 have hle:(s.data.toList.take p).count 10≤100000:=by
  have h1:=List.count_le_length (a:=(10:UInt8)) (l:=s.data.toList.take p)
  rw[List.length_take] at h1
  omega
 have hln:Rf.line s.data.toList p=1+(s.data.toList.take p).count 10:=rfl
 rw[hln]
 clear hcl hln
 generalize (s.data.toList.take p).count 10=k at *
 have hpI:(p:Int)≤(s.size:Int):=by omega
 go_enter Tryz.func116,Tryz.ntmps116
 go_wp2_with (go_at_call 146;fail)
 refine kC.out.mono ?_
 rintro e w1 ⟨rfl,rfl⟩
 go_wp2
 go_ret
 first|exact⟨rfl,rfl⟩|exact⟨by simp,rfl⟩|exact⟨by congr 2;omega,rfl⟩
theorem implLong (n:Nd)(a4 a5 a6:Option Addr)(e4 e5 e6:Nat)(w:World) :
  Calls Tryz.prog 152 #[.agg #[.int .i64 n.kind,.int .i64 n.num,.int .i64 n.mat,.string n.text,.slice a4 n.names.length e4,.slice a5 n.keys.length e5,.slice a6 n.kids.length e6]] w fun e w'=>e=.returned (.bool (Rf.long n))∧Below w.heap.size w w':=by
 unfold Rf.long
 generalize n.names.length=x at *
 generalize n.keys.length=y at *
 generalize n.kids.length=z at *
 by_cases h1:100<x
 ·have f1:(100:Int)<(x:Int):=by omega
  rw[decide_eq_true h1,Bool.true_or]
  go_enter Tryz.func152,Tryz.ntmps152
  go_wp2
  go_ret
  exact⟨rfl,(Below.refl _ _).alloc (Nat.le_refl _) _⟩
 ·have f1:¬(100:Int)<(x:Int):=by omega
  rw[decide_eq_false h1,Bool.false_or]
  by_cases h2:100<y
  ·have f2:(100:Int)<(y:Int):=by omega
   rw[decide_eq_true h2]
   go_enter Tryz.func152,Tryz.ntmps152
   go_wp2
   go_ret
   exact⟨rfl,(Below.refl _ _).alloc (Nat.le_refl _) _⟩
  ·have f2:¬(100:Int)<(y:Int):=by omega
   rw[decide_eq_false h2]
   go_enter Tryz.func152,Tryz.ntmps152
   go_wp2
   go_ret
   exact⟨rfl,(Below.refl _ _).alloc (Nat.le_refl _) _⟩
theorem implLongAt (o:Option Addr)(F:List Nd)(cap:Nat)(w:World)(hF:Nds w.heap.size w o F)(hlF:F.length≤100000) :
  Calls Tryz.prog 184 #[.slice o F.length cap,.func (.func 152) #[] #[]] w fun e w'=>∃ r:Int,e=.returned (.int .i64 r)∧decide (0≤r)=F.any Rf.long∧Below w.heap.size w w':=by
 have HF:=mkHid hF
 have hEn:∀(args:Array Value) (w:World),(callFunc 152 args).run Tryz.prog w=.ok (.enter 152 args) w:=Go.Proofs.enters_of Tryz.func152 (by kernel_rfl) rfl
 clear hF
 go_enter Tryz.func184,Tryz.ntmps184
 go_wp2
 go_loopw [8] (fun iv wr=>∃ i:Nat,i≤F.length∧iv=.int .i64 i∧Hid ((F.take i).any Rf.long=false)∧Below w.heap.size w wr) (fun iv _=>F.length-(Lib.intOf iv).toNat)
 case atStart=>exact⟨0,Nat.zero_le _,rfl,rfl,Below.refl _ _⟩
 case round=>
  obtain⟨i,hi,rfl,hno,hb⟩:=hrel
  by_cases hlt:i<F.length
  ·have hF2:=HF.out.below hb
   obtain⟨a,v4,v5,v6,rfl,ha,hA,hI⟩:=hF2 i hlt
   obtain⟨⟨a4,e4,rfl,-⟩,⟨a5,e5,rfl,-⟩,⟨a6,e6,rfl,-⟩⟩:=hI
   have hnx:Hid (Rf.long F[i]=false→(F.take (i+1)).any Rf.long=false):=fun h0=>by
    rw[List.take_succ_eq_append_getElem hlt,List.any_append,hno.out]
    simpa using h0
   have hyes:Hid (Rf.long F[i]=true→F.any Rf.long=true):=fun h0=>List.any_eq_true.2 ⟨F[i],List.getElem_mem hlt,h0⟩
   have c0:=hA.c0
   have c1:=hA.c1
   have c2:=hA.c2
   have c3:=hA.c3
   have c4:=hA.c4
   have c5:=hA.c5
   have c6:=hA.c6
   have kL:=mkHid (implLong F[i] a4 a5 a6 e4 e5 e6 wr)
   have Hb:=mkHid hb
   clear hA hF2 hb
   generalize F[i]=n at *
   go_wp2_with (go_at_call 152;fail)
   refine kL.out.mono ?_
   rintro e w1 ⟨rfl,hb1⟩
   have hb2:=mkHid (Hb.out.trans (hb1.mono Hb.out.size))
   clear c0 c1 c2 c3 c4 c5 c6 hb1 kL
   cases hln:Rf.long n with
   | true=>
    replace hyes:=mkHid (hyes.out hln)
    clear hln
    go_wp2
    go_ret
    exact⟨(i:Int),rfl,by rw[hyes.out];exact decide_eq_true (by omega),hb2.out⟩
   | false=>
    replace hnx:=mkHid (hnx.out hln)
    clear hln
    go_wp2
    go_roundw
    case rel=>exact⟨i+1,by omega,by go_num,hnx,hb2.out⟩
    case measure=>simp[Lib.intOf];omega
  ·obtain rfl:i=F.length:=by omega
   have hno2:Hid (F.any Rf.long=false):=by
    have:=hno.out
    rwa [List.take_length] at this
   go_wp2
   go_ret
   exact⟨-1,rfl,by rw[hno2.out];rfl,hb⟩
theorem implAnyLong (o:Option Addr)(F:List Nd)(cap:Nat)(w:World)(hF:Nds w.heap.size w o F)(hlF:F.length≤100000) :
  Calls Tryz.prog 151 #[.slice o F.length cap,.func (.func 152) #[] #[]] w fun e w'=>e=.returned (.bool (F.any Rf.long))∧Below w.heap.size w w':=by
 have kL:=mkHid (implLongAt o F cap w hF hlF)
 obtain⟨y,hy⟩:∃y,F.any Rf.long=y:=⟨_,rfl⟩
 rw[hy] at kL ⊢
 clear hF hy
 go_enter Tryz.func151,Tryz.ntmps151
 go_wp2_with (go_at_call 184;fail)
 refine kL.out.mono ?_
 rintro e w1 ⟨r,rfl,hr,hb⟩
 replace hb:=mkHid hb
 subst hr
 go_wp2
 go_ret
 first|exact⟨rfl,hb.out⟩|exact⟨by simp,hb.out⟩
theorem implGreat (o:Option Addr)(F:List Nd)(cap:Nat)(w:World)(hF:Nds w.heap.size w o F)(hlF:F.length≤100000)(h1:1≤F.length)(hfit:∀n ∈ F,n.fits 1048576)(hin:∀i,i<F.length→∀k ∈ Fn.kids F i,0≤k∧k<(i:Int)) :
  Calls Tryz.prog 118 #[.slice o F.length cap] w fun e w'=>e=.returned (.bool (F.any Rf.long || (decide (2000<F.length) || decide (20<Tr.depTo (Fn.kids F) F.length (F.length-1)))))∧Below w.heap.size w w':=by
 by_cases hg:2000<F.length
 ·rw[decide_eq_true hg,Bool.true_or,Bool.or_true]
  have f1:(2000:Int)<(F.length:Int):=by omega
  clear hF hfit hin hg
  go_enter Tryz.func118,Tryz.ntmps118
  go_wp2
  go_ret
  exact⟨rfl,Below.refl _ _⟩
 ·have kD:=mkHid (implDepth o F cap w hF (by omega) h1 hfit hin)
  have kL:=mkHid (fun W (hb:Below w.heap.size w W)=>implAnyLong o F cap W ((hF.below hb).mono hb.size) hlF)
  rw[decide_eq_false hg,Bool.false_or]
  have f1:¬(2000:Int)<(F.length:Int):=by omega
  clear hF hfit hin hg
  generalize Tr.depTo (Fn.kids F) F.length (F.length-1)=d at *
  by_cases hd:20<d
  ·have f2:(20:Int)<(d:Int):=by omega
   rw[decide_eq_true hd,Bool.or_true]
   clear kL hd
   go_enter Tryz.func118,Tryz.ntmps118
   go_wp2_with (go_at_call 150;fail)
   refine kD.out.mono ?_
   rintro e w1 ⟨rfl,hb⟩
   replace hb:=mkHid hb
   go_wp2
   go_ret
   exact⟨rfl,hb.out⟩
  ·have f2:decide ((20:Int)<(d:Int))=false:=decide_eq_false (by omega)
   rw[decide_eq_false hd,Bool.or_false]
   obtain⟨y,hy⟩:∃y,F.any Rf.long=y:=⟨_,rfl⟩
   rw[hy] at kL ⊢
   clear hd hy
   go_enter Tryz.func118,Tryz.ntmps118
   go_wp2_with (go_at_call 150;fail)
   refine kD.out.mono ?_
   rintro e w1 ⟨rfl,hb⟩
   have kL2:=mkHid (kL.out w1 hb)
   replace hb:=mkHid hb
   clear kL kD
   go_wp2_with (go_at_call 151;fail)
   refine kL2.out.mono ?_
   rintro e w2 ⟨rfl,hb2⟩
   replace hb2:=mkHid (hb.out.trans (hb2.mono hb.out.size))
   clear kL2
   go_wp2
   go_ret
   exact⟨rfl,hb2.out⟩
end Go.Proofs.YtkcajnjledldnaaGreatDoor
