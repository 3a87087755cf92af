import Derived.Test.YtkcajnjledldnaaGreatDoorTk
import Derived.Test.YtkcajnjledldnaaGreatDoorRfBlock
set_option maxRecDepth 20000
namespace Go.Proofs.YtkcajnjledldnaaGreatDoor
open Go.RowKit Go.Lib Go.Maps
namespace Rf
theorem cho_bad1 {T:List Tk} {t c:Nat→List Nd→Out} {F i j:Nat} {N:List Nd} (h:t i N=.bad j):cho T t c (F+1) i N=.bad j:=by rw[cho,h]
theorem cho_bad2 {T:List Tk} {t c:Nat→List Nd→Out} {F i i1 j:Nat} {N N1:List Nd} (h:t i N=.ok i1 N1)(h2:blk T c i1 N1=.bad j):cho T t c (F+1) i N=.bad j:=by rw[cho,h];simp only[h2]
def choEnd (N1 N2:List Nd):Out→Out
 | .ok i N=>.ok i (N ++ [{ zn 2 with kids:=[last N1,last N2,last N] }])
 | .bad j=>.bad j
theorem cho_elsif {T:List Tk} {t c:Nat→List Nd→Out} {F i i1 i2:Nat} {N N1 N2:List Nd} (h:t i N=.ok i1 N1)(h2:blk T c i1 N1=.ok i2 N2)(h3:is T i2 119 wElsif=true):cho T t c (F+1) i N=choEnd N1 N2 (cho T t c F (i2+1) N2):=by
 rw[cho,h]
 simp only[h2,h3,if_true]
 cases cho T t c F (i2+1) N2<;>rfl
theorem cho_else {T:List Tk} {t c:Nat→List Nd→Out} {F i i1 i2:Nat} {N N1 N2:List Nd} (h:t i N=.ok i1 N1)(h2:blk T c i1 N1=.ok i2 N2)(h3:is T i2 119 wElsif=false)(h4:is T i2 119 wElse=true):cho T t c (F+1) i N=choEnd N1 N2 (blk T c (i2+1) N2):=by
 rw[cho,h]
 simp only[h2,h3,h4,if_true,Bool.false_eq_true,if_false]
 cases blk T c (i2+1) N2<;>rfl
theorem cho_none {T:List Tk} {t c:Nat→List Nd→Out} {F i i1 i2:Nat} {N N1 N2:List Nd} (h:t i N=.ok i1 N1)(h2:blk T c i1 N1=.ok i2 N2)(h3:is T i2 119 wElsif=false)(h4:is T i2 119 wElse=false):cho T t c (F+1) i N=.ok i2 (N2 ++ [{ zn 2 with kids:=[last N1,last N2] }]):=by
 rw[cho,h]
 simp only[h2,h3,h4,Bool.false_eq_true,if_false]
end Rf
set_option maxHeartbeats 8000000 in
theorem specBranch (g:Nat)(tv:Value)(l:List UInt8)(T:List Rf.Tk)(TE:List TkE)(f:Nat)(t c:Nat→List Nd→Rf.Out)(hK:Tks l T TE)(hT:T.length≤30000)(hTst:RdC 132 g tv T TE 0 f t)(hBlk:RdC 92 g tv T TE 1 f (Rf.blk T c)) :
  ∀F f',f'≤f→f'≤F→RdC 90 g tv T TE 2 f' (Rf.cho T t c F):=by
 intro F
 induction F with
 | zero=>
  intro f' _ hF i bad many v E w h hi hf
  exfalso
  omega
 | succ F ih=>
  intro f' hff hfF i bad many v E w h hi hf hE
  obtain⟨R,hR⟩:∃R,R=Rf.given bad i (Rf.cho T t c (F+1) i (E.map (·.1))):=⟨_,rfl⟩
  have hgl:=heap_ltM h.blk
  have hll:=hK.length
  obtain⟨W0,hW0⟩:∃W0,w.alloc (.cells #[.int .i64 2,.int .i64 0,.int .i64 0,.string ⟨#[]⟩,.slice none 0 0,.slice none 0 0,.slice none 0 0] 109)=W0:=⟨_,rfl⟩
  obtain⟨ks0,A0,vd0,hks0,hA0,S0⟩:∃(ks0:List Int) (A0:List NdE) (vd0:Value),Hid (ks0=[])∧Hid (A0=[])∧Hid (Fm g tv TE v E w w.heap.size { Rf.zn 2 with kids:=ks0 } (.slice none 0 0) (.slice none 0 0) vd0 i bad many v A0 W0):=⟨[],[],.slice none 0 0,rfl,rfl,by rw[← hW0];exact Fm.start hgl h (Ef.refl2 _ _ _) 2⟩
  have hl0:A0.length<1:=by rw[hA0.out];decide
  have hk0:ks0.length≤5:=by rw[hks0.out];decide
  have HR:=mkHid hR
  have HK:=mkHid hK
  have HE:=mkHid hE
  have Ih:=mkHid ih
  have HTst:=mkHid hTst
  have HBlk:=mkHid hBlk
  have HW0:=mkHid hW0
  clear hR h ih hW0
  go_enter Tryz.func90,Tryz.ntmps90
  go_wp2
  rw[HW0.out]
  clear HW0
  obtain⟨RR,hRR⟩:∃RR:Act→Act→World→Prop,RR=(fun a a' w'=>∃ (z1:Int) (X1:List NdE) (j1:Nat) (bd1 mn1:Bool) (v1 vd1:Value) (hh1:Nat) (u1:World),a'=(((((((a.put (some 5) (.pointer (some ⟨w.heap.size,6,none⟩))).put (some 6) vd0).put (some 7) (.pointer (some ⟨g,0,none⟩))).put (some 8) (.int .i64 z1)).put (some 9) (.slice (some ⟨hh1,0,none⟩) 1 1)).put (some 10) vd1).put (some 11) (.pointer (some ⟨w.heap.size,6,none⟩)))∧Hid (Fm g tv TE v E w w.heap.size { Rf.zn 2 with kids:=ks0 ++ [z1] } (.slice none 0 0) (.slice none 0 0) vd1 j1 bd1 mn1 v1 (A0++X1) w')∧Hid (RdP g tv T TE 0 t i bad many v (E++A0) W0.drew z1 X1 j1 bd1 mn1 v1 u1)):=⟨_,rfl⟩
  have HRR:=mkHid hRR
  clear hRR
  refine wp_cut RR ?_ ?_
  ·have SD:=mkHid (S0.out.small (S0.out.rs.below (below_drew (Below.refl _ _))) (Ef.of_below (below_drew (Below.refl _ _))))
   have kC:=mkHid (HTst.out i bad many v (E++A0) W0.drew SD.out.rs hi (by omega) (by have:=HE.out;rw[List.length_append];omega))
   obtain⟨oD,cD,eD⟩:=own_shape S0.out.od
   subst eD
   have y0:W0.cell? ⟨w.heap.size,6,none⟩=some (.slice oD ks0.length cD):=by simp[World.cell?,S0.out.blk]
   refine wp_region_any (by kernel_rfl) ?_
   refine ta 0 (.pointer (some ⟨w.heap.size,6,none⟩)) (hQ:=fun _ _ _ h=>nomatch h.1) ?_ ?_
   ·intro w
    go_simp
    all_goals omega
   go_simp
   refine ta 2 (.pointer (some ⟨g,0,none⟩)) (hQ:=fun _ _ _ h=>nomatch h.1) ?_ ?_
   ·intro w
    go_simp
    all_goals omega
   go_simp
   refine wpAny_ready (rs:=[1,3]) (by kernel_rfl) (by simp) ?_
   refine AllReady.cons rfl (fun K hK=>?_) (AllReady.cons rfl (fun K hK=>?_) AllReady.nil)
   ·skip
    go_simp
    refine hK _ _ ?_
    clear hK K
    go_simp
    refine r1 3 (fun K hK=>?_)
    go_simp
    refine kC.out.mono ?_
    rintro e u1 ⟨z1,X1,j1,bd1,mn1,v1,rfl,hp⟩
    have S3:=mkHid (SD.out.call hp)
    have P1:=mkHid hp
    clear hp
    have y3:u1.cell? ⟨w.heap.size,6,none⟩=some (.slice oD ks0.length cD):=by simp[World.cell?,S3.out.blk]
    have y4:(u1.alloc (.cells #[.int .i64 z1] 2)).cell? ⟨w.heap.size,6,none⟩=some (.slice oD ks0.length cD):=(World.cell?_of_block (((Below.refl u1.heap.size u1).alloc (Nat.le_refl _) _).block w.heap.size (heap_ltM S3.out.blk))).trans y3
    go_simp
    refine hK _ _ ?_
    clear hK K
    go_simp
    refine r1 4 (fun K hK=>?_)
    go_simp
    refine hK _ _ ?_
    clear hK K
    go_simp
    refine r1 5 (fun K hK=>?_)
    refine opAppKd _ _ rfl w.heap.size (.slice oD ks0.length cD) ks0 rfl (S3.out.od.below ((Below.refl _ _).alloc (Nat.le_refl _) _)) z1 u1.heap.size 1 rfl (by simp) (by omega) (by have:=S3.out.ef.size;simp;omega) ?_
    intro vd1 w4 ho4 hg4 hn4
    obtain⟨x6,z6,s5⟩:=S3.out.kid ho4 hg4 hn4
    obtain⟨o5,c5,e5⟩:=own_shape ho4
    rw[List.length_append,List.length_singleton] at e5
    subst e5
    have S1:=mkHid s5
    clear s5 ho4 hg4 hn4
    refine hK _ _ ?_
    clear hK K
    go_simp
    refine ta 6 (.pointer (some ⟨w.heap.size,6,none⟩)) (hQ:=fun _ _ _ h=>nomatch h.1) ?_ ?_
    ·intro w
     go_simp
     all_goals omega
    go_simp
    refine r1 7 (fun K hK=>?_)
    go_simp
    refine hK _ _ ?_
    clear hK K
    go_simp
    refine wpAny_done (by kernel_rfl) ?_ _
    first|refine⟨rfl,?_⟩|skip
    rw[HRR.out]
    exact⟨z1,X1,j1,bd1,mn1,v1,.slice o5 (ks0.length+1) c5,u1.heap.size,u1,by kernel_rfl,S1,P1⟩
   ·skip
    go_simp
    refine kC.out.mono ?_
    rintro e u1 ⟨z1,X1,j1,bd1,mn1,v1,rfl,hp⟩
    have S3:=mkHid (SD.out.call hp)
    have P1:=mkHid hp
    clear hp
    have y3:u1.cell? ⟨w.heap.size,6,none⟩=some (.slice oD ks0.length cD):=by simp[World.cell?,S3.out.blk]
    have y4:(u1.alloc (.cells #[.int .i64 z1] 2)).cell? ⟨w.heap.size,6,none⟩=some (.slice oD ks0.length cD):=(World.cell?_of_block (((Below.refl u1.heap.size u1).alloc (Nat.le_refl _) _).block w.heap.size (heap_ltM S3.out.blk))).trans y3
    go_simp
    refine hK _ _ ?_
    clear hK K
    go_simp
    refine wpAny_ready (rs:=[1,4]) (by kernel_rfl) (by simp) ?_
    refine AllReady.cons rfl (fun K hK=>?_) (AllReady.cons rfl (fun K hK=>?_) AllReady.nil)
    ·skip
     go_simp
     refine hK _ _ ?_
     clear hK K
     go_simp
     refine r1 4 (fun K hK=>?_)
     go_simp
     refine hK _ _ ?_
     clear hK K
     go_simp
     refine r1 5 (fun K hK=>?_)
     refine opAppKd _ _ rfl w.heap.size (.slice oD ks0.length cD) ks0 rfl (S3.out.od.below ((Below.refl _ _).alloc (Nat.le_refl _) _)) z1 u1.heap.size 1 rfl (by simp) (by omega) (by have:=S3.out.ef.size;simp;omega) ?_
     intro vd1 w4 ho4 hg4 hn4
     obtain⟨x6,z6,s5⟩:=S3.out.kid ho4 hg4 hn4
     obtain⟨o5,c5,e5⟩:=own_shape ho4
     rw[List.length_append,List.length_singleton] at e5
     subst e5
     have S1:=mkHid s5
     clear s5 ho4 hg4 hn4
     refine hK _ _ ?_
     clear hK K
     go_simp
     refine ta 6 (.pointer (some ⟨w.heap.size,6,none⟩)) (hQ:=fun _ _ _ h=>nomatch h.1) ?_ ?_
     ·intro w
      go_simp
      all_goals omega
     go_simp
     refine r1 7 (fun K hK=>?_)
     go_simp
     refine hK _ _ ?_
     clear hK K
     go_simp
     refine wpAny_done (by kernel_rfl) ?_ _
     first|refine⟨rfl,?_⟩|skip
     rw[HRR.out]
     exact⟨z1,X1,j1,bd1,mn1,v1,.slice o5 (ks0.length+1) c5,u1.heap.size,u1,by kernel_rfl,S1,P1⟩
    ·skip
     go_simp
     refine hK _ _ ?_
     clear hK K
     go_simp
     refine r1 1 (fun K hK=>?_)
     go_simp
     refine hK _ _ ?_
     clear hK K
     go_simp
     refine r1 5 (fun K hK=>?_)
     refine opAppKd _ _ rfl w.heap.size (.slice oD ks0.length cD) ks0 rfl (S3.out.od.below ((Below.refl _ _).alloc (Nat.le_refl _) _)) z1 u1.heap.size 1 rfl (by simp) (by omega) (by have:=S3.out.ef.size;simp;omega) ?_
     intro vd1 w4 ho4 hg4 hn4
     obtain⟨x6,z6,s5⟩:=S3.out.kid ho4 hg4 hn4
     obtain⟨o5,c5,e5⟩:=own_shape ho4
     rw[List.length_append,List.length_singleton] at e5
     subst e5
     have S1:=mkHid s5
     clear s5 ho4 hg4 hn4
     refine hK _ _ ?_
     clear hK K
     go_simp
     refine ta 6 (.pointer (some ⟨w.heap.size,6,none⟩)) (hQ:=fun _ _ _ h=>nomatch h.1) ?_ ?_
     ·intro w
      go_simp
      all_goals omega
     go_simp
     refine r1 7 (fun K hK=>?_)
     go_simp
     refine hK _ _ ?_
     clear hK K
     go_simp
     refine wpAny_done (by kernel_rfl) ?_ _
     first|refine⟨rfl,?_⟩|skip
     rw[HRR.out]
     exact⟨z1,X1,j1,bd1,mn1,v1,.slice o5 (ks0.length+1) c5,u1.heap.size,u1,by kernel_rfl,S1,P1⟩
  rw[HRR.out]
  clear HRR RR
  rintro a' W1 ⟨z1,X1,j1,bd1,mn1,v1,vd1,hh1,u1,rfl,S1,P1⟩
  obtain⟨ks1,hks1⟩:∃x,ks0 ++ [z1]=x:=⟨_,rfl⟩
  obtain⟨A1,hA1⟩:∃x,A0++X1=x:=⟨_,rfl⟩
  rw[hks1,hA1] at S1
  have q1:=mkHid P1.out.res
  have hlt1:=P1.out.lt
  have hle1:=P1.out.le
  have hcn1:=P1.out.cnt
  have hc01:=mkHid P1.out.cnt0
  have hl1:A1.length=A0.length+X1.length:=by rw[← hA1,List.length_append]
  replace hks1:=mkHid hks1
  replace hA1:=mkHid hA1
  clear P1 S0
  have hk1:ks1.length≤6:=by rw[← hks1.out,List.length_append,List.length_singleton];omega
  go_wp2
  obtain⟨RR,hRR⟩:∃RR:Act→Act→World→Prop,RR=(fun a a' w'=>∃ (z2:Int) (X2:List NdE) (j2:Nat) (bd2 mn2:Bool) (v2 vd2:Value) (hh2:Nat) (u2:World),a'=(((((((a.put (some 12) (.pointer (some ⟨w.heap.size,6,none⟩))).put (some 13) vd1).put (some 14) (.pointer (some ⟨g,0,none⟩))).put (some 15) (.int .i64 z2)).put (some 16) (.slice (some ⟨hh2,0,none⟩) 1 1)).put (some 17) vd2).put (some 18) (.pointer (some ⟨w.heap.size,6,none⟩)))∧Hid (Fm g tv TE v E w w.heap.size { Rf.zn 2 with kids:=ks1 ++ [z2] } (.slice none 0 0) (.slice none 0 0) vd2 j2 bd2 mn2 v2 (A1++X2) w')∧Hid (RdP g tv T TE 1 (Rf.blk T c) j1 bd1 mn1 v1 (E++A1) W1.drew z2 X2 j2 bd2 mn2 v2 u2)):=⟨_,rfl⟩
  have HRR:=mkHid hRR
  clear hRR
  refine wp_cut RR ?_ ?_
  ·have SD:=mkHid (S1.out.small (S1.out.rs.below (below_drew (Below.refl _ _))) (Ef.of_below (below_drew (Below.refl _ _))))
   have kC:=mkHid (HBlk.out j1 bd1 mn1 v1 (E++A1) W1.drew SD.out.rs hlt1 (by omega) (by have:=HE.out;rw[List.length_append];omega))
   obtain⟨oD,cD,eD⟩:=own_shape S1.out.od
   subst eD
   have y0:W1.cell? ⟨w.heap.size,6,none⟩=some (.slice oD ks1.length cD):=by simp[World.cell?,S1.out.blk]
   refine wp_region_any (by kernel_rfl) ?_
   refine ta 0 (.pointer (some ⟨w.heap.size,6,none⟩)) (hQ:=fun _ _ _ h=>nomatch h.1) ?_ ?_
   ·intro w
    go_simp
    all_goals omega
   go_simp
   refine ta 2 (.pointer (some ⟨g,0,none⟩)) (hQ:=fun _ _ _ h=>nomatch h.1) ?_ ?_
   ·intro w
    go_simp
    all_goals omega
   go_simp
   refine wpAny_ready (rs:=[1,3]) (by kernel_rfl) (by simp) ?_
   refine AllReady.cons rfl (fun K hK=>?_) (AllReady.cons rfl (fun K hK=>?_) AllReady.nil)
   ·skip
    go_simp
    refine hK _ _ ?_
    clear hK K
    go_simp
    refine r1 3 (fun K hK=>?_)
    go_simp
    refine kC.out.mono ?_
    rintro e u2 ⟨z2,X2,j2,bd2,mn2,v2,rfl,hp⟩
    have S3:=mkHid (SD.out.call hp)
    have P2:=mkHid hp
    clear hp
    have y3:u2.cell? ⟨w.heap.size,6,none⟩=some (.slice oD ks1.length cD):=by simp[World.cell?,S3.out.blk]
    have y4:(u2.alloc (.cells #[.int .i64 z2] 2)).cell? ⟨w.heap.size,6,none⟩=some (.slice oD ks1.length cD):=(World.cell?_of_block (((Below.refl u2.heap.size u2).alloc (Nat.le_refl _) _).block w.heap.size (heap_ltM S3.out.blk))).trans y3
    go_simp
    refine hK _ _ ?_
    clear hK K
    go_simp
    refine r1 4 (fun K hK=>?_)
    go_simp
    refine hK _ _ ?_
    clear hK K
    go_simp
    refine r1 5 (fun K hK=>?_)
    refine opAppKd _ _ rfl w.heap.size (.slice oD ks1.length cD) ks1 rfl (S3.out.od.below ((Below.refl _ _).alloc (Nat.le_refl _) _)) z2 u2.heap.size 1 rfl (by simp) (by omega) (by have:=S3.out.ef.size;simp;omega) ?_
    intro vd2 w4 ho4 hg4 hn4
    obtain⟨x6,z6,s5⟩:=S3.out.kid ho4 hg4 hn4
    obtain⟨o5,c5,e5⟩:=own_shape ho4
    rw[List.length_append,List.length_singleton] at e5
    subst e5
    have S2:=mkHid s5
    clear s5 ho4 hg4 hn4
    refine hK _ _ ?_
    clear hK K
    go_simp
    refine ta 6 (.pointer (some ⟨w.heap.size,6,none⟩)) (hQ:=fun _ _ _ h=>nomatch h.1) ?_ ?_
    ·intro w
     go_simp
     all_goals omega
    go_simp
    refine r1 7 (fun K hK=>?_)
    go_simp
    refine hK _ _ ?_
    clear hK K
    go_simp
    refine wpAny_done (by kernel_rfl) ?_ _
    first|refine⟨rfl,?_⟩|skip
    rw[HRR.out]
    exact⟨z2,X2,j2,bd2,mn2,v2,.slice o5 (ks1.length+1) c5,u2.heap.size,u2,by kernel_rfl,S2,P2⟩
   ·skip
    go_simp
    refine kC.out.mono ?_
    rintro e u2 ⟨z2,X2,j2,bd2,mn2,v2,rfl,hp⟩
    have S3:=mkHid (SD.out.call hp)
    have P2:=mkHid hp
    clear hp
    have y3:u2.cell? ⟨w.heap.size,6,none⟩=some (.slice oD ks1.length cD):=by simp[World.cell?,S3.out.blk]
    have y4:(u2.alloc (.cells #[.int .i64 z2] 2)).cell? ⟨w.heap.size,6,none⟩=some (.slice oD ks1.length cD):=(World.cell?_of_block (((Below.refl u2.heap.size u2).alloc (Nat.le_refl _) _).block w.heap.size (heap_ltM S3.out.blk))).trans y3
    go_simp
    refine hK _ _ ?_
    clear hK K
    go_simp
    refine wpAny_ready (rs:=[1,4]) (by kernel_rfl) (by simp) ?_
    refine AllReady.cons rfl (fun K hK=>?_) (AllReady.cons rfl (fun K hK=>?_) AllReady.nil)
    ·skip
     go_simp
     refine hK _ _ ?_
     clear hK K
     go_simp
     refine r1 4 (fun K hK=>?_)
     go_simp
     refine hK _ _ ?_
     clear hK K
     go_simp
     refine r1 5 (fun K hK=>?_)
     refine opAppKd _ _ rfl w.heap.size (.slice oD ks1.length cD) ks1 rfl (S3.out.od.below ((Below.refl _ _).alloc (Nat.le_refl _) _)) z2 u2.heap.size 1 rfl (by simp) (by omega) (by have:=S3.out.ef.size;simp;omega) ?_
     intro vd2 w4 ho4 hg4 hn4
     obtain⟨x6,z6,s5⟩:=S3.out.kid ho4 hg4 hn4
     obtain⟨o5,c5,e5⟩:=own_shape ho4
     rw[List.length_append,List.length_singleton] at e5
     subst e5
     have S2:=mkHid s5
     clear s5 ho4 hg4 hn4
     refine hK _ _ ?_
     clear hK K
     go_simp
     refine ta 6 (.pointer (some ⟨w.heap.size,6,none⟩)) (hQ:=fun _ _ _ h=>nomatch h.1) ?_ ?_
     ·intro w
      go_simp
      all_goals omega
     go_simp
     refine r1 7 (fun K hK=>?_)
     go_simp
     refine hK _ _ ?_
     clear hK K
     go_simp
     refine wpAny_done (by kernel_rfl) ?_ _
     first|refine⟨rfl,?_⟩|skip
     rw[HRR.out]
     exact⟨z2,X2,j2,bd2,mn2,v2,.slice o5 (ks1.length+1) c5,u2.heap.size,u2,by kernel_rfl,S2,P2⟩
    ·skip
     go_simp
     refine hK _ _ ?_
     clear hK K
     go_simp
     refine r1 1 (fun K hK=>?_)
     go_simp
     refine hK _ _ ?_
     clear hK K
     go_simp
     refine r1 5 (fun K hK=>?_)
     refine opAppKd _ _ rfl w.heap.size (.slice oD ks1.length cD) ks1 rfl (S3.out.od.below ((Below.refl _ _).alloc (Nat.le_refl _) _)) z2 u2.heap.size 1 rfl (by simp) (by omega) (by have:=S3.out.ef.size;simp;omega) ?_
     intro vd2 w4 ho4 hg4 hn4
     obtain⟨x6,z6,s5⟩:=S3.out.kid ho4 hg4 hn4
     obtain⟨o5,c5,e5⟩:=own_shape ho4
     rw[List.length_append,List.length_singleton] at e5
     subst e5
     have S2:=mkHid s5
     clear s5 ho4 hg4 hn4
     refine hK _ _ ?_
     clear hK K
     go_simp
     refine ta 6 (.pointer (some ⟨w.heap.size,6,none⟩)) (hQ:=fun _ _ _ h=>nomatch h.1) ?_ ?_
     ·intro w
      go_simp
      all_goals omega
     go_simp
     refine r1 7 (fun K hK=>?_)
     go_simp
     refine hK _ _ ?_
     clear hK K
     go_simp
     refine wpAny_done (by kernel_rfl) ?_ _
     first|refine⟨rfl,?_⟩|skip
     rw[HRR.out]
     exact⟨z2,X2,j2,bd2,mn2,v2,.slice o5 (ks1.length+1) c5,u2.heap.size,u2,by kernel_rfl,S2,P2⟩
  rw[HRR.out]
  clear HRR RR
  rintro a' W2 ⟨z2,X2,j2,bd2,mn2,v2,vd2,hh2,u2,rfl,S2,P2⟩
  obtain⟨ks2,hks2⟩:∃x,ks1 ++ [z2]=x:=⟨_,rfl⟩
  obtain⟨A2,hA2⟩:∃x,A1++X2=x:=⟨_,rfl⟩
  rw[hks2,hA2] at S2
  have q2:=mkHid P2.out.res
  have hlt2:=P2.out.lt
  have hle2:=P2.out.le
  have hcn2:=P2.out.cnt
  have hc02:=mkHid P2.out.cnt0
  have hl2:A2.length=A1.length+X2.length:=by rw[← hA2,List.length_append]
  replace hks2:=mkHid hks2
  replace hA2:=mkHid hA2
  clear P2 S1
  have hk2:ks2.length≤7:=by rw[← hks2.out,List.length_append,List.length_singleton];omega
  have G1:Hid ((bd1=true→R=.bad j1)∧(bd1=false→bad=false∧t i (E.map (·.1))=.ok j1 ((E++A1).map (·.1))∧z1=Rf.last ((E++A1).map (·.1))∧mn1=(many || big A1))):=by
   have q:=q1.out
   have hA:=hA1.out
   rw[hA0.out] at q hA
   rw[List.append_nil] at q
   rw[List.nil_append] at hA
   rw[hA] at q
   refine⟨fun e=>?_,q.2⟩
   have q:=q.1 e
   rw[HR.out]
   cases bad
   ·exact Rf.cho_bad1 q
   ·exact q
  have G2:Hid ((bd2=true→R=.bad j2)∧(bd2=false→bd1=false∧Rf.blk T c j1 ((E++A1).map (·.1))=.ok j2 ((E++A2).map (·.1))∧z2=Rf.last ((E++A2).map (·.1))∧mn2=(many || big A2))):=by
   have q:=q2.out
   rw[List.append_assoc,hA2.out] at q
   refine⟨fun e=>?_,fun e=>?_⟩
   ·have q:=q.1 e
    cases hb:bd1 with
    | true=>
     rw[hb] at q
     exact(G1.out.1 hb).trans q
    | false=>
     rw[hb] at q
     obtain⟨a1,a2,a3,a4⟩:=G1.out.2 hb
     rw[HR.out,a1]
     exact Rf.cho_bad2 a2 q
   ·obtain⟨b1,b2,b3,b4⟩:=q.2 e
    obtain⟨a1,a2,a3,a4⟩:=G1.out.2 b1
    exact⟨b1,b2,b3,by rw[b4,a4,← hA2.out,big_app,Bool.or_assoc]⟩
  clear q1 q2
  go_wp2_with (go_at_call 89;fail)
  by_cases hX:(!bd2 && Rf.is T j2 119 Rf.wElsif)=true
  ·obtain⟨hb0,hY⟩:bd2=false∧Rf.is T j2 119 Rf.wElsif=true:=by cases bd2<;>simp_all
   subst hb0
   have hj2:=HK.out.is_nxt j2 hlt2 119 Rf.wElsif hY
   refine(specMayY g tv TE j2 mn2 v2 (E++A2) W2 119 ⟨#[101,108,115,105,102]⟩ S2.out.rs (by omega) (by omega) (by rw[HK.out.is j2 hlt2];exact hY)).mono ?_
   rintro e W3 ⟨rfl,h3,e3⟩
   have S3:=mkHid (S2.out.small h3 e3)
   clear h3 e3 S2
   have hc2:=hc02.out rfl
   go_wp2
   obtain⟨RR,hRR⟩:∃RR:Act→Act→World→Prop,RR=(fun a a' w'=>∃ (z5:Int) (X5:List NdE) (j5:Nat) (bd5 mn5:Bool) (v5 vd5:Value) (hh5:Nat) (u5:World),a'=(((((((a.put (some 21) (.pointer (some ⟨w.heap.size,6,none⟩))).put (some 22) vd2).put (some 23) (.pointer (some ⟨g,0,none⟩))).put (some 24) (.int .i64 z5)).put (some 25) (.slice (some ⟨hh5,0,none⟩) 1 1)).put (some 26) vd5).put (some 27) (.pointer (some ⟨w.heap.size,6,none⟩)))∧Hid (Fm g tv TE v E w w.heap.size { Rf.zn 2 with kids:=ks2 ++ [z5] } (.slice none 0 0) (.slice none 0 0) vd5 j5 bd5 mn5 v5 (A2++X5) w')∧Hid (RdP g tv T TE 2 (Rf.cho T t c F) (j2+1) false mn2 v2 (E++A2) W3.drew z5 X5 j5 bd5 mn5 v5 u5)):=⟨_,rfl⟩
   have HRR:=mkHid hRR
   clear hRR
   refine wp_cut RR ?_ ?_
   ·have SD:=mkHid (S3.out.small (S3.out.rs.below (below_drew (Below.refl _ _))) (Ef.of_below (below_drew (Below.refl _ _))))
    have kC:=mkHid (Ih.out (f'-1) (by omega) (by omega) (j2+1) false mn2 v2 (E++A2) W3.drew SD.out.rs hj2 (by omega) (by have:=HE.out;rw[List.length_append];omega))
    obtain⟨oD,cD,eD⟩:=own_shape S3.out.od
    subst eD
    have y0:W3.cell? ⟨w.heap.size,6,none⟩=some (.slice oD ks2.length cD):=by simp[World.cell?,S3.out.blk]
    refine wp_region_any (by kernel_rfl) ?_
    refine ta 0 (.pointer (some ⟨w.heap.size,6,none⟩)) (hQ:=fun _ _ _ h=>nomatch h.1) ?_ ?_
    ·intro w
     go_simp
     all_goals omega
    go_simp
    refine ta 2 (.pointer (some ⟨g,0,none⟩)) (hQ:=fun _ _ _ h=>nomatch h.1) ?_ ?_
    ·intro w
     go_simp
     all_goals omega
    go_simp
    refine wpAny_ready (rs:=[1,3]) (by kernel_rfl) (by simp) ?_
    refine AllReady.cons rfl (fun K hK=>?_) (AllReady.cons rfl (fun K hK=>?_) AllReady.nil)
    ·skip
     go_simp
     refine hK _ _ ?_
     clear hK K
     go_simp
     refine r1 3 (fun K hK=>?_)
     go_simp
     refine kC.out.mono ?_
     rintro e u5 ⟨z5,X5,j5,bd5,mn5,v5,rfl,hp⟩
     have S3:=mkHid (SD.out.call hp)
     have P5:=mkHid hp
     clear hp
     have y3:u5.cell? ⟨w.heap.size,6,none⟩=some (.slice oD ks2.length cD):=by simp[World.cell?,S3.out.blk]
     have y4:(u5.alloc (.cells #[.int .i64 z5] 2)).cell? ⟨w.heap.size,6,none⟩=some (.slice oD ks2.length cD):=(World.cell?_of_block (((Below.refl u5.heap.size u5).alloc (Nat.le_refl _) _).block w.heap.size (heap_ltM S3.out.blk))).trans y3
     go_simp
     refine hK _ _ ?_
     clear hK K
     go_simp
     refine r1 4 (fun K hK=>?_)
     go_simp
     refine hK _ _ ?_
     clear hK K
     go_simp
     refine r1 5 (fun K hK=>?_)
     refine opAppKd _ _ rfl w.heap.size (.slice oD ks2.length cD) ks2 rfl (S3.out.od.below ((Below.refl _ _).alloc (Nat.le_refl _) _)) z5 u5.heap.size 1 rfl (by simp) (by omega) (by have:=S3.out.ef.size;simp;omega) ?_
     intro vd5 w4 ho4 hg4 hn4
     obtain⟨x6,z6,s5⟩:=S3.out.kid ho4 hg4 hn4
     obtain⟨o5,c5,e5⟩:=own_shape ho4
     rw[List.length_append,List.length_singleton] at e5
     subst e5
     have S5:=mkHid s5
     clear s5 ho4 hg4 hn4
     refine hK _ _ ?_
     clear hK K
     go_simp
     refine ta 6 (.pointer (some ⟨w.heap.size,6,none⟩)) (hQ:=fun _ _ _ h=>nomatch h.1) ?_ ?_
     ·intro w
      go_simp
      all_goals omega
     go_simp
     refine r1 7 (fun K hK=>?_)
     go_simp
     refine hK _ _ ?_
     clear hK K
     go_simp
     refine wpAny_done (by kernel_rfl) ?_ _
     first|refine⟨rfl,?_⟩|skip
     rw[HRR.out]
     exact⟨z5,X5,j5,bd5,mn5,v5,.slice o5 (ks2.length+1) c5,u5.heap.size,u5,by kernel_rfl,S5,P5⟩
    ·skip
     go_simp
     refine kC.out.mono ?_
     rintro e u5 ⟨z5,X5,j5,bd5,mn5,v5,rfl,hp⟩
     have S3:=mkHid (SD.out.call hp)
     have P5:=mkHid hp
     clear hp
     have y3:u5.cell? ⟨w.heap.size,6,none⟩=some (.slice oD ks2.length cD):=by simp[World.cell?,S3.out.blk]
     have y4:(u5.alloc (.cells #[.int .i64 z5] 2)).cell? ⟨w.heap.size,6,none⟩=some (.slice oD ks2.length cD):=(World.cell?_of_block (((Below.refl u5.heap.size u5).alloc (Nat.le_refl _) _).block w.heap.size (heap_ltM S3.out.blk))).trans y3
     go_simp
     refine hK _ _ ?_
     clear hK K
     go_simp
     refine wpAny_ready (rs:=[1,4]) (by kernel_rfl) (by simp) ?_
     refine AllReady.cons rfl (fun K hK=>?_) (AllReady.cons rfl (fun K hK=>?_) AllReady.nil)
     ·skip
      go_simp
      refine hK _ _ ?_
      clear hK K
      go_simp
      refine r1 4 (fun K hK=>?_)
      go_simp
      refine hK _ _ ?_
      clear hK K
      go_simp
      refine r1 5 (fun K hK=>?_)
      refine opAppKd _ _ rfl w.heap.size (.slice oD ks2.length cD) ks2 rfl (S3.out.od.below ((Below.refl _ _).alloc (Nat.le_refl _) _)) z5 u5.heap.size 1 rfl (by simp) (by omega) (by have:=S3.out.ef.size;simp;omega) ?_
      intro vd5 w4 ho4 hg4 hn4
      obtain⟨x6,z6,s5⟩:=S3.out.kid ho4 hg4 hn4
      obtain⟨o5,c5,e5⟩:=own_shape ho4
      rw[List.length_append,List.length_singleton] at e5
      subst e5
      have S5:=mkHid s5
      clear s5 ho4 hg4 hn4
      refine hK _ _ ?_
      clear hK K
      go_simp
      refine ta 6 (.pointer (some ⟨w.heap.size,6,none⟩)) (hQ:=fun _ _ _ h=>nomatch h.1) ?_ ?_
      ·intro w
       go_simp
       all_goals omega
      go_simp
      refine r1 7 (fun K hK=>?_)
      go_simp
      refine hK _ _ ?_
      clear hK K
      go_simp
      refine wpAny_done (by kernel_rfl) ?_ _
      first|refine⟨rfl,?_⟩|skip
      rw[HRR.out]
      exact⟨z5,X5,j5,bd5,mn5,v5,.slice o5 (ks2.length+1) c5,u5.heap.size,u5,by kernel_rfl,S5,P5⟩
     ·skip
      go_simp
      refine hK _ _ ?_
      clear hK K
      go_simp
      refine r1 1 (fun K hK=>?_)
      go_simp
      refine hK _ _ ?_
      clear hK K
      go_simp
      refine r1 5 (fun K hK=>?_)
      refine opAppKd _ _ rfl w.heap.size (.slice oD ks2.length cD) ks2 rfl (S3.out.od.below ((Below.refl _ _).alloc (Nat.le_refl _) _)) z5 u5.heap.size 1 rfl (by simp) (by omega) (by have:=S3.out.ef.size;simp;omega) ?_
      intro vd5 w4 ho4 hg4 hn4
      obtain⟨x6,z6,s5⟩:=S3.out.kid ho4 hg4 hn4
      obtain⟨o5,c5,e5⟩:=own_shape ho4
      rw[List.length_append,List.length_singleton] at e5
      subst e5
      have S5:=mkHid s5
      clear s5 ho4 hg4 hn4
      refine hK _ _ ?_
      clear hK K
      go_simp
      refine ta 6 (.pointer (some ⟨w.heap.size,6,none⟩)) (hQ:=fun _ _ _ h=>nomatch h.1) ?_ ?_
      ·intro w
       go_simp
       all_goals omega
      go_simp
      refine r1 7 (fun K hK=>?_)
      go_simp
      refine hK _ _ ?_
      clear hK K
      go_simp
      refine wpAny_done (by kernel_rfl) ?_ _
      first|refine⟨rfl,?_⟩|skip
      rw[HRR.out]
      exact⟨z5,X5,j5,bd5,mn5,v5,.slice o5 (ks2.length+1) c5,u5.heap.size,u5,by kernel_rfl,S5,P5⟩
   rw[HRR.out]
   clear HRR RR
   rintro a' W5 ⟨z5,X5,j5,bd5,mn5,v5,vd5,hh5,u5,rfl,S5,P5⟩
   obtain⟨ks5,hks5⟩:∃x,ks2 ++ [z5]=x:=⟨_,rfl⟩
   obtain⟨A5,hA5⟩:∃x,A2++X5=x:=⟨_,rfl⟩
   rw[hks5,hA5] at S5
   have q5:=mkHid P5.out.res
   have hlt5:=P5.out.lt
   have hle5:=P5.out.le
   have hcn5:=P5.out.cnt
   have hc05:=mkHid P5.out.cnt0
   have hl5:A5.length=A2.length+X5.length:=by rw[← hA5,List.length_append]
   replace hks5:=mkHid hks5
   replace hA5:=mkHid hA5
   clear P5 S3
   have HO:Hid ((bd5=true→R=.bad j5)∧(bd5=false→R=.ok j5 ((E++A5).map (·.1) ++ [{ Rf.zn 2 with kids:=ks5 }])∧mn5=(many || big A5))):=by
    have q:=q5.out
    rw[List.append_assoc,hA5.out] at q
    obtain⟨b1,b2,b3,b4⟩:=G2.out.2 (by trivial)
    obtain⟨a1,a2,a3,a4⟩:=G1.out.2 b1
    refine⟨fun e=>?_,fun e=>?_⟩
    ·have q:_=Rf.Out.bad j5:=q.1 e
     rw[HR.out,a1]
     refine(Rf.cho_elsif a2 b2 hY).trans ?_
     exact congrArg (Rf.choEnd _ _) q
    ·obtain⟨-,c2,c3,c4⟩:=q.2 e
     refine⟨?_,by rw[c4,b4,← hA5.out,big_app,Bool.or_assoc]⟩
     rw[HR.out,a1,← hks5.out,← hks2.out,← hks1.out,hks0.out,a3,b3,c3]
     refine(Rf.cho_elsif a2 b2 hY).trans ?_
     rw[c2]
     rfl
   clear q5
   obtain⟨oD,cD,eD⟩:=own_shape S5.out.od
   subst eD
   have hbk:=S5.out.blk
   have d0:W5.cell? ⟨w.heap.size,0,none⟩=some (.int .i64 2):=by simp[World.cell?,hbk];rfl
   have d1:W5.cell? ⟨w.heap.size,1,none⟩=some (.int .i64 0):=by simp[World.cell?,hbk];rfl
   have d2:W5.cell? ⟨w.heap.size,2,none⟩=some (.int .i64 0):=by simp[World.cell?,hbk];rfl
   have d3:W5.cell? ⟨w.heap.size,3,none⟩=some (.string ⟨#[]⟩):=by simp[World.cell?,hbk];rfl
   have d4:W5.cell? ⟨w.heap.size,4,none⟩=some (.slice none 0 0):=by simp[World.cell?,hbk]
   have d5:W5.cell? ⟨w.heap.size,5,none⟩=some (.slice none 0 0):=by simp[World.cell?,hbk]
   have d6:W5.cell? ⟨w.heap.size,6,none⟩=some (.slice oD ks5.length cD):=by simp[World.cell?,hbk]
   clear hbk
   have kP:=mkHid (S5.out.put (by rw[List.length_append];omega))
   clear S5
   go_wp2_with (go_at_call 50;fail)
   refine kP.out.mono ?_
   rintro e w9 ⟨rfl,v9,h9,e9,n9,f9,g9⟩
   clear d0 d1 d2 d3 d4 d5 d6 kP
   go_wp2
   go_ret
   exact⟨_,_,j5,bd5,mn5,v9,rfl,RdP.mk2 R HR.out h9 e9 n9 f9 g9 hlt5 (by omega) (by simp;omega) (fun e=>⟨by have:=hc05.out e;simp;omega,by have:=hc05.out e;omega⟩) HO.out.1 (fun e=>⟨by rw[(HO.out.2 e).1];simp,by simp[Rf.last];omega,by rw[(HO.out.2 e).2,big_app];simp[big,Rf.zn]⟩)⟩
  ·have hX1:(!bd2 && Rf.is T j2 119 Rf.wElsif)=false:=by simpa using hX
   refine(specMayN g tv TE j2 bd2 mn2 v2 (E++A2) W2 119 ⟨#[101,108,115,105,102]⟩ S2.out.rs (by omega) (by rw[HK.out.is j2 hlt2];exact hX1)).mono ?_
   rintro e W3 ⟨rfl,hb3⟩
   have S3:=mkHid (S2.out.small (S2.out.rs.below hb3) (Ef.of_below hb3))
   clear hb3 S2
   go_wp2_with (go_at_call 89;fail)
   by_cases hZ:(!bd2 && Rf.is T j2 119 Rf.wElse)=true
   ·obtain⟨hb0,hY⟩:bd2=false∧Rf.is T j2 119 Rf.wElse=true:=by cases bd2<;>simp_all
    subst hb0
    have hX2:Rf.is T j2 119 Rf.wElsif=false:=by simpa using hX1
    have hj2:=HK.out.is_nxt j2 hlt2 119 Rf.wElse hY
    refine(specMayY g tv TE j2 mn2 v2 (E++A2) W3 119 ⟨#[101,108,115,101]⟩ S3.out.rs (by omega) (by omega) (by rw[HK.out.is j2 hlt2];exact hY)).mono ?_
    rintro e W4 ⟨rfl,h3,e3⟩
    have S4:=mkHid (S3.out.small h3 e3)
    clear h3 e3 S3
    have hc2:=hc02.out rfl
    go_wp2
    obtain⟨RR,hRR⟩:∃RR:Act→Act→World→Prop,RR=(fun a a' w'=>∃ (z5:Int) (X5:List NdE) (j5:Nat) (bd5 mn5:Bool) (v5 vd5:Value) (hh5:Nat) (u5:World),a'=(((((((a.put (some 30) (.pointer (some ⟨w.heap.size,6,none⟩))).put (some 31) vd2).put (some 32) (.pointer (some ⟨g,0,none⟩))).put (some 33) (.int .i64 z5)).put (some 34) (.slice (some ⟨hh5,0,none⟩) 1 1)).put (some 35) vd5).put (some 36) (.pointer (some ⟨w.heap.size,6,none⟩)))∧Hid (Fm g tv TE v E w w.heap.size { Rf.zn 2 with kids:=ks2 ++ [z5] } (.slice none 0 0) (.slice none 0 0) vd5 j5 bd5 mn5 v5 (A2++X5) w')∧Hid (RdP g tv T TE 1 (Rf.blk T c) (j2+1) false mn2 v2 (E++A2) W4.drew z5 X5 j5 bd5 mn5 v5 u5)):=⟨_,rfl⟩
    have HRR:=mkHid hRR
    clear hRR
    refine wp_cut RR ?_ ?_
    ·have SD:=mkHid (S4.out.small (S4.out.rs.below (below_drew (Below.refl _ _))) (Ef.of_below (below_drew (Below.refl _ _))))
     have kC:=mkHid (HBlk.out (j2+1) false mn2 v2 (E++A2) W4.drew SD.out.rs hj2 (by omega) (by have:=HE.out;rw[List.length_append];omega))
     obtain⟨oD,cD,eD⟩:=own_shape S4.out.od
     subst eD
     have y0:W4.cell? ⟨w.heap.size,6,none⟩=some (.slice oD ks2.length cD):=by simp[World.cell?,S4.out.blk]
     refine wp_region_any (by kernel_rfl) ?_
     refine ta 0 (.pointer (some ⟨w.heap.size,6,none⟩)) (hQ:=fun _ _ _ h=>nomatch h.1) ?_ ?_
     ·intro w
      go_simp
      all_goals omega
     go_simp
     refine ta 2 (.pointer (some ⟨g,0,none⟩)) (hQ:=fun _ _ _ h=>nomatch h.1) ?_ ?_
     ·intro w
      go_simp
      all_goals omega
     go_simp
     refine wpAny_ready (rs:=[1,3]) (by kernel_rfl) (by simp) ?_
     refine AllReady.cons rfl (fun K hK=>?_) (AllReady.cons rfl (fun K hK=>?_) AllReady.nil)
     ·skip
      go_simp
      refine hK _ _ ?_
      clear hK K
      go_simp
      refine r1 3 (fun K hK=>?_)
      go_simp
      refine kC.out.mono ?_
      rintro e u5 ⟨z5,X5,j5,bd5,mn5,v5,rfl,hp⟩
      have S3:=mkHid (SD.out.call hp)
      have P5:=mkHid hp
      clear hp
      have y3:u5.cell? ⟨w.heap.size,6,none⟩=some (.slice oD ks2.length cD):=by simp[World.cell?,S3.out.blk]
      have y4:(u5.alloc (.cells #[.int .i64 z5] 2)).cell? ⟨w.heap.size,6,none⟩=some (.slice oD ks2.length cD):=(World.cell?_of_block (((Below.refl u5.heap.size u5).alloc (Nat.le_refl _) _).block w.heap.size (heap_ltM S3.out.blk))).trans y3
      go_simp
      refine hK _ _ ?_
      clear hK K
      go_simp
      refine r1 4 (fun K hK=>?_)
      go_simp
      refine hK _ _ ?_
      clear hK K
      go_simp
      refine r1 5 (fun K hK=>?_)
      refine opAppKd _ _ rfl w.heap.size (.slice oD ks2.length cD) ks2 rfl (S3.out.od.below ((Below.refl _ _).alloc (Nat.le_refl _) _)) z5 u5.heap.size 1 rfl (by simp) (by omega) (by have:=S3.out.ef.size;simp;omega) ?_
      intro vd5 w4 ho4 hg4 hn4
      obtain⟨x6,z6,s5⟩:=S3.out.kid ho4 hg4 hn4
      obtain⟨o5,c5,e5⟩:=own_shape ho4
      rw[List.length_append,List.length_singleton] at e5
      subst e5
      have S5:=mkHid s5
      clear s5 ho4 hg4 hn4
      refine hK _ _ ?_
      clear hK K
      go_simp
      refine ta 6 (.pointer (some ⟨w.heap.size,6,none⟩)) (hQ:=fun _ _ _ h=>nomatch h.1) ?_ ?_
      ·intro w
       go_simp
       all_goals omega
      go_simp
      refine r1 7 (fun K hK=>?_)
      go_simp
      refine hK _ _ ?_
      clear hK K
      go_simp
      refine wpAny_done (by kernel_rfl) ?_ _
      first|refine⟨rfl,?_⟩|skip
      rw[HRR.out]
      exact⟨z5,X5,j5,bd5,mn5,v5,.slice o5 (ks2.length+1) c5,u5.heap.size,u5,by kernel_rfl,S5,P5⟩
     ·skip
      go_simp
      refine kC.out.mono ?_
      rintro e u5 ⟨z5,X5,j5,bd5,mn5,v5,rfl,hp⟩
      have S3:=mkHid (SD.out.call hp)
      have P5:=mkHid hp
      clear hp
      have y3:u5.cell? ⟨w.heap.size,6,none⟩=some (.slice oD ks2.length cD):=by simp[World.cell?,S3.out.blk]
      have y4:(u5.alloc (.cells #[.int .i64 z5] 2)).cell? ⟨w.heap.size,6,none⟩=some (.slice oD ks2.length cD):=(World.cell?_of_block (((Below.refl u5.heap.size u5).alloc (Nat.le_refl _) _).block w.heap.size (heap_ltM S3.out.blk))).trans y3
      go_simp
      refine hK _ _ ?_
      clear hK K
      go_simp
      refine wpAny_ready (rs:=[1,4]) (by kernel_rfl) (by simp) ?_
      refine AllReady.cons rfl (fun K hK=>?_) (AllReady.cons rfl (fun K hK=>?_) AllReady.nil)
      ·skip
       go_simp
       refine hK _ _ ?_
       clear hK K
       go_simp
       refine r1 4 (fun K hK=>?_)
       go_simp
       refine hK _ _ ?_
       clear hK K
       go_simp
       refine r1 5 (fun K hK=>?_)
       refine opAppKd _ _ rfl w.heap.size (.slice oD ks2.length cD) ks2 rfl (S3.out.od.below ((Below.refl _ _).alloc (Nat.le_refl _) _)) z5 u5.heap.size 1 rfl (by simp) (by omega) (by have:=S3.out.ef.size;simp;omega) ?_
       intro vd5 w4 ho4 hg4 hn4
       obtain⟨x6,z6,s5⟩:=S3.out.kid ho4 hg4 hn4
       obtain⟨o5,c5,e5⟩:=own_shape ho4
       rw[List.length_append,List.length_singleton] at e5
       subst e5
       have S5:=mkHid s5
       clear s5 ho4 hg4 hn4
       refine hK _ _ ?_
       clear hK K
       go_simp
       refine ta 6 (.pointer (some ⟨w.heap.size,6,none⟩)) (hQ:=fun _ _ _ h=>nomatch h.1) ?_ ?_
       ·intro w
        go_simp
        all_goals omega
       go_simp
       refine r1 7 (fun K hK=>?_)
       go_simp
       refine hK _ _ ?_
       clear hK K
       go_simp
       refine wpAny_done (by kernel_rfl) ?_ _
       first|refine⟨rfl,?_⟩|skip
       rw[HRR.out]
       exact⟨z5,X5,j5,bd5,mn5,v5,.slice o5 (ks2.length+1) c5,u5.heap.size,u5,by kernel_rfl,S5,P5⟩
      ·skip
       go_simp
       refine hK _ _ ?_
       clear hK K
       go_simp
       refine r1 1 (fun K hK=>?_)
       go_simp
       refine hK _ _ ?_
       clear hK K
       go_simp
       refine r1 5 (fun K hK=>?_)
       refine opAppKd _ _ rfl w.heap.size (.slice oD ks2.length cD) ks2 rfl (S3.out.od.below ((Below.refl _ _).alloc (Nat.le_refl _) _)) z5 u5.heap.size 1 rfl (by simp) (by omega) (by have:=S3.out.ef.size;simp;omega) ?_
       intro vd5 w4 ho4 hg4 hn4
       obtain⟨x6,z6,s5⟩:=S3.out.kid ho4 hg4 hn4
       obtain⟨o5,c5,e5⟩:=own_shape ho4
       rw[List.length_append,List.length_singleton] at e5
       subst e5
       have S5:=mkHid s5
       clear s5 ho4 hg4 hn4
       refine hK _ _ ?_
       clear hK K
       go_simp
       refine ta 6 (.pointer (some ⟨w.heap.size,6,none⟩)) (hQ:=fun _ _ _ h=>nomatch h.1) ?_ ?_
       ·intro w
        go_simp
        all_goals omega
       go_simp
       refine r1 7 (fun K hK=>?_)
       go_simp
       refine hK _ _ ?_
       clear hK K
       go_simp
       refine wpAny_done (by kernel_rfl) ?_ _
       first|refine⟨rfl,?_⟩|skip
       rw[HRR.out]
       exact⟨z5,X5,j5,bd5,mn5,v5,.slice o5 (ks2.length+1) c5,u5.heap.size,u5,by kernel_rfl,S5,P5⟩
    rw[HRR.out]
    clear HRR RR
    rintro a' W5 ⟨z5,X5,j5,bd5,mn5,v5,vd5,hh5,u5,rfl,S5,P5⟩
    obtain⟨ks5,hks5⟩:∃x,ks2 ++ [z5]=x:=⟨_,rfl⟩
    obtain⟨A5,hA5⟩:∃x,A2++X5=x:=⟨_,rfl⟩
    rw[hks5,hA5] at S5
    have q5:=mkHid P5.out.res
    have hlt5:=P5.out.lt
    have hle5:=P5.out.le
    have hcn5:=P5.out.cnt
    have hc05:=mkHid P5.out.cnt0
    have hl5:A5.length=A2.length+X5.length:=by rw[← hA5,List.length_append]
    replace hks5:=mkHid hks5
    replace hA5:=mkHid hA5
    clear P5 S4
    have HO:Hid ((bd5=true→R=.bad j5)∧(bd5=false→R=.ok j5 ((E++A5).map (·.1) ++ [{ Rf.zn 2 with kids:=ks5 }])∧mn5=(many || big A5))):=by
     have q:=q5.out
     rw[List.append_assoc,hA5.out] at q
     obtain⟨b1,b2,b3,b4⟩:=G2.out.2 (by trivial)
     obtain⟨a1,a2,a3,a4⟩:=G1.out.2 b1
     refine⟨fun e=>?_,fun e=>?_⟩
     ·have q:_=Rf.Out.bad j5:=q.1 e
      rw[HR.out,a1]
      refine(Rf.cho_else a2 b2 hX2 hY).trans ?_
      exact congrArg (Rf.choEnd _ _) q
     ·obtain⟨-,c2,c3,c4⟩:=q.2 e
      refine⟨?_,by rw[c4,b4,← hA5.out,big_app,Bool.or_assoc]⟩
      rw[HR.out,a1,← hks5.out,← hks2.out,← hks1.out,hks0.out,a3,b3,c3]
      refine(Rf.cho_else a2 b2 hX2 hY).trans ?_
      rw[c2]
      rfl
    clear q5
    obtain⟨oD,cD,eD⟩:=own_shape S5.out.od
    subst eD
    have hbk:=S5.out.blk
    have d0:W5.cell? ⟨w.heap.size,0,none⟩=some (.int .i64 2):=by simp[World.cell?,hbk];rfl
    have d1:W5.cell? ⟨w.heap.size,1,none⟩=some (.int .i64 0):=by simp[World.cell?,hbk];rfl
    have d2:W5.cell? ⟨w.heap.size,2,none⟩=some (.int .i64 0):=by simp[World.cell?,hbk];rfl
    have d3:W5.cell? ⟨w.heap.size,3,none⟩=some (.string ⟨#[]⟩):=by simp[World.cell?,hbk];rfl
    have d4:W5.cell? ⟨w.heap.size,4,none⟩=some (.slice none 0 0):=by simp[World.cell?,hbk]
    have d5:W5.cell? ⟨w.heap.size,5,none⟩=some (.slice none 0 0):=by simp[World.cell?,hbk]
    have d6:W5.cell? ⟨w.heap.size,6,none⟩=some (.slice oD ks5.length cD):=by simp[World.cell?,hbk]
    clear hbk
    have kP:=mkHid (S5.out.put (by rw[List.length_append];omega))
    clear S5
    go_wp2_with (go_at_call 50;fail)
    refine kP.out.mono ?_
    rintro e w9 ⟨rfl,v9,h9,e9,n9,f9,g9⟩
    clear d0 d1 d2 d3 d4 d5 d6 kP
    go_wp2
    go_ret
    exact⟨_,_,j5,bd5,mn5,v9,rfl,RdP.mk2 R HR.out h9 e9 n9 f9 g9 hlt5 (by omega) (by simp;omega) (fun e=>⟨by have:=hc05.out e;simp;omega,by have:=hc05.out e;omega⟩) HO.out.1 (fun e=>⟨by rw[(HO.out.2 e).1];simp,by simp[Rf.last];omega,by rw[(HO.out.2 e).2,big_app];simp[big,Rf.zn]⟩)⟩
   ·have hZ1:(!bd2 && Rf.is T j2 119 Rf.wElse)=false:=by simpa using hZ
    refine(specMayN g tv TE j2 bd2 mn2 v2 (E++A2) W3 119 ⟨#[101,108,115,101]⟩ S3.out.rs (by omega) (by rw[HK.out.is j2 hlt2];exact hZ1)).mono ?_
    rintro e W4 ⟨rfl,hb4⟩
    have S4:=mkHid (S3.out.small (S3.out.rs.below hb4) (Ef.of_below hb4))
    clear hb4 S3
    have HO:Hid (bd2=false→R=.ok j2 ((E++A2).map (·.1) ++ [{ Rf.zn 2 with kids:=ks2 }])):=by
     intro e
     obtain⟨b1,b2,b3,b4⟩:=G2.out.2 e
     obtain⟨a1,a2,a3,a4⟩:=G1.out.2 b1
     rw[e] at hX1 hZ1
     rw[HR.out,a1,← hks2.out,← hks1.out,hks0.out,a3,b3]
     exact Rf.cho_none a2 b2 hX1 hZ1
    have HC0:Hid (bd2=false→A2.length+3*i+2≤3*j2):=by
     intro e
     have x2:=hc02.out e
     have x1:=hc01.out (G2.out.2 e).1
     omega
    obtain⟨oD,cD,eD⟩:=own_shape S4.out.od
    subst eD
    have hbk:=S4.out.blk
    have d0:W4.cell? ⟨w.heap.size,0,none⟩=some (.int .i64 2):=by simp[World.cell?,hbk];rfl
    have d1:W4.cell? ⟨w.heap.size,1,none⟩=some (.int .i64 0):=by simp[World.cell?,hbk];rfl
    have d2:W4.cell? ⟨w.heap.size,2,none⟩=some (.int .i64 0):=by simp[World.cell?,hbk];rfl
    have d3:W4.cell? ⟨w.heap.size,3,none⟩=some (.string ⟨#[]⟩):=by simp[World.cell?,hbk];rfl
    have d4:W4.cell? ⟨w.heap.size,4,none⟩=some (.slice none 0 0):=by simp[World.cell?,hbk]
    have d5:W4.cell? ⟨w.heap.size,5,none⟩=some (.slice none 0 0):=by simp[World.cell?,hbk]
    have d6:W4.cell? ⟨w.heap.size,6,none⟩=some (.slice oD ks2.length cD):=by simp[World.cell?,hbk]
    clear hbk
    have kP:=mkHid (S4.out.put (by rw[List.length_append];omega))
    clear S4
    go_wp2_with (go_at_call 50;fail)
    refine kP.out.mono ?_
    rintro e w9 ⟨rfl,v9,h9,e9,n9,f9,g9⟩
    clear d0 d1 d2 d3 d4 d5 d6 kP
    go_wp2
    go_ret
    exact⟨_,_,j2,bd2,mn2,v9,rfl,RdP.mk2 R HR.out h9 e9 n9 f9 g9 hlt2 (by omega) (by simp;omega) (fun e=>⟨by have:=HC0.out e;simp;omega,by have:=HC0.out e;omega⟩) G2.out.1 (fun e=>⟨by rw[HO.out e];simp,by simp[Rf.last];omega,by rw[(G2.out.2 e).2.2.2,big_app];simp[big,Rf.zn]⟩)⟩
section
variable {g:Nat} {tv:Value} {l:List UInt8} {T:List Rf.Tk} {TE:List TkE} {i:Nat} {bad many:Bool} {v:Value} {E:List NdE} {w:World}
theorem jWant (hK:Tks l T TE)(h:Rs g tv TE i bad many v E w)(hi:i<T.length)(k:Nat)(t:List UInt8)(h1:k≠101:=by decide)(h2:k≠120:=by decide) :
  Calls Tryz.prog 95 #[.pointer (some ⟨g,0,none⟩),.int .u8 (k:Int),.string ⟨t.toArray⟩] w fun e w'=>e=.returned (.tuple #[])∧∃(j:Nat) (bd:Bool),Rs g tv TE j bd many v E w'∧Ef g none w w'∧j<T.length∧i≤j∧j≤i+1∧Hid (bd=(bad || !Rf.is T i k t))∧Hid (j=if bd=true then i else i+1):=by
 have hll:=hK.length
 have hl:=hK.len
 by_cases hA:(!bad && Rf.is T i k t)=true
 ·obtain⟨hb0,hA1⟩:bad=false∧Rf.is T i k t=true:=by cases bad<;>simp_all
  subst hb0
  refine(specWantY g tv TE i many v E w k ⟨t.toArray⟩ h (by omega) (by omega) (by rw[hK.is i hi];exact hA1)).mono ?_
  rintro e w1 ⟨rfl,h1',e1⟩
  exact⟨rfl,i+1,false,h1',e1,hK.is_nxt i hi k t hA1 h1 h2,by omega,by omega,by show _=_;rw[hA1];rfl,by show _=_;rfl⟩
 ·refine(specWantN g tv TE i bad many v E w k ⟨t.toArray⟩ h (by omega) (by rw[hK.is i hi];simpa using hA)).mono ?_
  rintro e w1 ⟨rfl,h1',e1⟩
  refine⟨rfl,i,true,h1',e1,hi,Nat.le_refl _,by omega,?_,by show _=_;rfl⟩
  show true=_
  cases bad
  ·simp at hA;simp[hA]
  ·rfl
theorem jMay (hK:Tks l T TE)(h:Rs g tv TE i bad many v E w)(hi:i<T.length)(k:Nat)(t:List UInt8)(h1:k≠101:=by decide)(h2:k≠120:=by decide) :
  Calls Tryz.prog 89 #[.pointer (some ⟨g,0,none⟩),.int .u8 (k:Int),.string ⟨t.toArray⟩] w fun e w'=>∃ (j:Nat) (y:Bool),e=.returned (.bool y)∧Rs g tv TE j bad many v E w'∧Ef g none w w'∧j<T.length∧i≤j∧j≤i+1∧Hid (y=(!bad && Rf.is T i k t))∧Hid (j=if y=true then i+1 else i):=by
 have hll:=hK.length
 have hl:=hK.len
 by_cases hA:(!bad && Rf.is T i k t)=true
 ·obtain⟨hb0,hA1⟩:bad=false∧Rf.is T i k t=true:=by cases bad<;>simp_all
  subst hb0
  refine(specMayY g tv TE i many v E w k ⟨t.toArray⟩ h (by omega) (by omega) (by rw[hK.is i hi];exact hA1)).mono ?_
  rintro e w1 ⟨rfl,h1',e1⟩
  exact⟨i+1,true,rfl,h1',e1,hK.is_nxt i hi k t hA1 h1 h2,by omega,by omega,by show _=_;rw[hA1];rfl,by show _=_;rfl⟩
 ·refine(specMayN g tv TE i bad many v E w k ⟨t.toArray⟩ h (by omega) (by rw[hK.is i hi];simpa using hA)).mono ?_
  rintro e w1 ⟨rfl,hb1⟩
  exact⟨i,false,rfl,h.below hb1,Ef.of_below hb1,hi,Nat.le_refl _,by omega,by show _=_;exact(Bool.eq_false_iff.2 hA).symm,by show _=_;rfl⟩
theorem jTake (hK:Tks l T TE)(h:Rs g tv TE i bad many v E w)(hi:i<T.length)(k:Nat)(h1:k≠101:=by decide)(h2:k≠120:=by decide) :
  Calls Tryz.prog 94 #[.pointer (some ⟨g,0,none⟩),.int .u8 (k:Int)] w fun e w'=>∃ (j:Nat) (y:Bool) (x:ByteArray),e=.returned (.string x)∧Rs g tv TE j (!y) many v E w'∧Ef g none w w'∧j<T.length∧i≤j∧j≤i+1∧Hid (y=(!bad && Rf.kind T i==k))∧Hid (j=if y=true then i+1 else i)∧Hid (x=if y=true then Rf.ba (Rf.text T i) else ⟨#[]⟩):=by
 have hll:=hK.length
 have hl:=hK.len
 have hi2:i<TE.length:=by omega
 by_cases hA:(!bad && Rf.kind T i==k)=true
 ·obtain⟨hb0,hA1⟩:bad=false∧Rf.kind T i=k:=by cases bad<;>simp_all
  subst hb0
  refine(specTakeY g tv TE i many v E w k h (by omega) (by omega) (by rw[hK.kind i hi2];exact hA1)).mono ?_
  rintro e w1 ⟨rfl,h1',e1⟩
  exact⟨i+1,true,TE[i].2.1,rfl,h1',e1,hK.nxt i hi (by rw[hA1];exact h1) (by rw[hA1];exact h2),by omega,by omega,by show _=_;rw[hA],by show _=_;rfl,by show _=_;rw[hK.text i hi2];rfl⟩
 ·refine(specTakeN g tv TE i bad many v E w k h (by omega) (by
   rw[hK.kind i hi2]
   cases bad
   ·right;simpa using hA
   ·exact .inl rfl)).mono ?_
  rintro e w1 ⟨rfl,h1',e1⟩
  exact⟨i,false,⟨#[]⟩,rfl,h1',e1,hi,Nat.le_refl _,by omega,by show _=_;exact(Bool.eq_false_iff.2 hA).symm,by show _=_;rfl,by show _=_;rfl⟩
theorem jNumber (hK:Tks l T TE)(h:Rs g tv TE i bad many v E w)(hi:i<T.length)(m:Nat) :
  Calls Tryz.prog 91 #[.pointer (some ⟨g,0,none⟩),.int .i64 (m:Int)] w fun e w'=>∃ (j:Nat) (y:Bool) (x:Nat),e=.returned (.int .i64 (x:Int))∧Rs g tv TE j (!y) many v E w'∧Ef g none w w'∧j<T.length∧i≤j∧j≤i+1∧Hid (y=(!bad && (Rf.kind T i==110 && decide (Rf.num (Rf.text T i)≤m))))∧Hid (j=if y=true then i+1 else i)∧Hid (x=if y=true then Rf.num (Rf.text T i) else 0):=by
 have hll:=hK.length
 have hl:=hK.len
 have hi2:i<TE.length:=by omega
 have ht:TE[i].2.1.toList=Rf.text T i:=by rw[hK.text i hi2,Rf.ba_list]
 by_cases hA:(!bad && (Rf.kind T i==110 && decide (Rf.num (Rf.text T i)≤m)))=true
 ·obtain⟨hb0,hA1,hA2⟩:bad=false∧Rf.kind T i=110∧Rf.num (Rf.text T i)≤m:=by cases bad<;>simp_all
  subst hb0
  refine(specNumberY g tv TE i many v E w m h (by omega) (by omega) hK.num (by rw[hK.kind i hi2];exact hA1) (by rw[ht];exact hA2)).mono ?_
  rintro e w1 ⟨rfl,h1',e1⟩
  exact⟨i+1,true,_,rfl,h1',e1,hK.nxt i hi (by rw[hA1];decide) (by rw[hA1];decide),by omega,by omega,by show _=_;rw[hA],by show _=_;rfl,by show _=_;rw[ht];rfl⟩
 ·refine(specNumberN g tv TE i bad many v E w m h (by omega) hK.num (by
   rw[hK.kind i hi2,ht]
   cases bad
   ·right
    by_cases hk:Rf.kind T i=110
    ·right
     simp[hk] at hA
     omega
    ·exact .inl hk
   ·exact .inl rfl)).mono ?_
  rintro e w1 ⟨rfl,h1',e1⟩
  exact⟨i,false,0,rfl,h1',e1,hi,Nat.le_refl _,by omega,by show _=_;exact(Bool.eq_false_iff.2 hA).symm,by show _=_;rfl,by show _=_;rfl⟩
theorem jMatch (hK:Tks l T TE)(h:Rs g tv TE i bad many v E w)(hi:i<T.length) :
  Calls Tryz.prog 161 #[.pointer (some ⟨g,0,none⟩)] w fun e w'=>∃ (j:Nat) (y:Bool) (x:Int),e=.returned (.int .i64 x)∧Rs g tv TE j (!y) many v E w'∧Ef g none w w'∧j<T.length∧i≤j∧j≤i+1∧Hid (y=(!bad && (Rf.matchOf T i).isSome))∧Hid (j=if y=true then i+1 else i)∧Hid (x=if y=true then (Rf.matchOf T i).getD 0 else 0):=by
 have hll:=hK.length
 have hl:=hK.len
 have hi2:i<TE.length:=by omega
 have i0:=hK.is i hi 58 Rf.wIs
 have i1:=hK.is i hi 58 Rf.wContains
 have i2:=hK.is i hi 58 Rf.wMatches
 cases bad
 ·cases h0:Rf.is T i 58 Rf.wIs
  ·cases h1:Rf.is T i 58 Rf.wContains
   ·cases h2:Rf.is T i 58 Rf.wMatches
    ·refine(specMatchN g tv TE i false many v E w h hi2 (by rw[i0,h0];rfl) (by rw[i1,h1];rfl) (by rw[i2,h2];rfl)).mono ?_
     rintro e w1 ⟨rfl,h1',e1⟩
     exact⟨i,false,0,rfl,h1',e1,hi,Nat.le_refl _,by omega,by show _=_;simp[Rf.matchOf,h0,h1,h2],by show _=_;rfl,by show _=_;rfl⟩
    ·refine(specMatch2 g tv TE i many v E w h hi2 (by omega) (by rw[i0,h0]) (by rw[i1,h1]) (by rw[i2,h2])).mono ?_
     rintro e w1 ⟨rfl,h1',e1⟩
     exact⟨i+1,true,2,rfl,h1',e1,hK.is_nxt i hi 58 _ h2,by omega,by omega,by show _=_;simp[Rf.matchOf,h0,h1,h2],by show _=_;rfl,by show _=_;simp[Rf.matchOf,h0,h1,h2]⟩
   ·refine(specMatch1 g tv TE i many v E w h hi2 (by omega) (by rw[i0,h0]) (by rw[i1,h1])).mono ?_
    rintro e w1 ⟨rfl,h1',e1⟩
    exact⟨i+1,true,1,rfl,h1',e1,hK.is_nxt i hi 58 _ h1,by omega,by omega,by show _=_;simp[Rf.matchOf,h0,h1],by show _=_;rfl,by show _=_;simp[Rf.matchOf,h0,h1]⟩
  ·refine(specMatch0 g tv TE i many v E w h hi2 (by omega) (by rw[i0,h0])).mono ?_
   rintro e w1 ⟨rfl,h1',e1⟩
   exact⟨i+1,true,0,rfl,h1',e1,hK.is_nxt i hi 58 _ h0,by omega,by omega,by show _=_;simp[Rf.matchOf,h0],by show _=_;rfl,by show _=_;simp[Rf.matchOf,h0]⟩
 ·refine(specMatchN g tv TE i true many v E w h hi2 rfl rfl rfl).mono ?_
  rintro e w1 ⟨rfl,h1',e1⟩
  exact⟨i,false,0,rfl,h1',e1,hi,Nat.le_refl _,by omega,by show _=_;rfl,by show _=_;rfl,by show _=_;rfl⟩
end
theorem Rf.tail_le (T:List Rf.Tk):∀(f i:Nat)(L:List ByteArray),(∀j M,Rf.txtsTail T f i L=.ok j M→i<j)∧(∀j,Rf.txtsTail T f i L=.bad j→i≤j)
 | 0,i,L=>⟨fun j M h=>by simp[Rf.txtsTail] at h,fun j h=>by simp[Rf.txtsTail] at h;omega⟩
 | f+1,i,L=>by
  rw[Rf.txtsTail]
  have ih:=Rf.tail_le T f (i+2) (L ++ [Rf.ba (Rf.text T (i+1))])
  refine⟨fun j M h=>?_,fun j h=>?_⟩
  ·split at h
   ·split at h
    ·have:=ih.1 j M h;omega
    ·cases h
   ·split at h
    ·cases h;omega
    ·cases h
  ·split at h
   ·split at h
    ·have:=ih.2 j h;omega
    ·cases h;omega
   ·split at h
    ·cases h
    ·cases h;omega
theorem Rf.txts_le (T:List Rf.Tk)(i:Nat):(∀j M,Rf.txts T i=.ok j M→i<j)∧(∀j,Rf.txts T i=.bad j→i≤j):=by
 unfold Rf.txts
 have ih:=Rf.tail_le T T.length (i+2) [Rf.ba (Rf.text T (i+1))]
 refine⟨fun j M h=>?_,fun j h=>?_⟩
 ·split at h
  ·split at h
   ·have:=ih.1 j M h;omega
   ·cases h
  ·split at h
   ·cases h;omega
   ·cases h
 ·split at h
  ·split at h
   ·have:=ih.2 j h;omega
   ·cases h;omega
  ·split at h
   ·cases h
   ·cases h;omega
section
variable {g:Nat} {tv:Value} {l:List UInt8} {T:List Rf.Tk} {TE:List TkE} {i:Nat} {bad many:Bool} {v:Value} {E:List NdE} {w:World}
theorem jTexts (hK:Tks l T TE)(h:Rs g tv TE i bad many v E w)(hi:i<T.length) :
  Calls Tryz.prog 160 #[.pointer (some ⟨g,0,none⟩)] w fun e w'=>∃ (o:Option Addr) (c:Nat) (M:List ByteArray) (j:Nat) (bd mn:Bool),e=.returned (.slice o M.length c)∧OwnX w.heap.size (.slice o M.length c) M w'∧Ef g none w w'∧Rs g tv TE j bd mn v E w'∧j<T.length∧i≤j∧Hid (bd=true→bad=true∧j=i∨bad=false∧Rf.txts T i=.bad j)∧Hid (bd=false→bad=false∧Rf.txts T i=.ok j M∧mn=(many || decide (100<M.length))):=by
 refine(specTexts g tv l T TE i bad many v E w hK h hi).mono ?_
 rintro e w' ⟨out,M,j,bd,mn,rfl,hO,he,hr,ht,hj⟩
 obtain⟨o,c,rfl⟩:=hO.shape
 unfold TxR at ht
 cases bad
 ·rw[if_neg (by decide)] at ht
  cases hx:Rf.txts T i with
  | ok j' M'=>
   rw[hx] at ht
   obtain⟨rfl,rfl,rfl,rfl⟩:=ht
   have:=(Rf.txts_le T i).1 _ _ hx
   exact⟨o,c,M,j,false,_,rfl,hO,he,hr,hj,by omega,fun e=>(by cases e),fun _=>⟨rfl,rfl,rfl⟩⟩
  | bad j'=>
   rw[hx] at ht
   obtain⟨rfl,rfl⟩:=ht
   have:=(Rf.txts_le T i).2 _ hx
   exact⟨o,c,M,j,true,_,rfl,hO,he,hr,hj,by omega,fun _=>.inr ⟨rfl,rfl⟩,fun e=>(by cases e)⟩
 ·rw[if_pos rfl] at ht
  obtain⟨rfl,rfl⟩:=ht
  exact⟨o,c,M,j,true,_,rfl,hO,he,hr,hj,Nat.le_refl _,fun _=>.inl ⟨rfl,rfl⟩,fun e=>(by cases e)⟩
end
end Go.Proofs.YtkcajnjledldnaaGreatDoor
