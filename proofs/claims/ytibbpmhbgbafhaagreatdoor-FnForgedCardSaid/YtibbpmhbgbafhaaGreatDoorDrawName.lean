import Derived.Test.YtibbpmhbgbafhaaGreatDoorDraw
set_option maxRecDepth 20000
set_option maxHeartbeats 2000000
namespace Go.Proofs.YtibbpmhbgbafhaaGreatDoor
open Go.RowKit Go.Lib
theorem srcWord (g:Nat)(o:Option Addr)(c:List UInt8)(cp a z:Nat)(w:World)(h:Src w g o c.length cp a z)(hc:Code g w o c)(ha:a≤900000000000)(hl:c.length≤1048576) :
  Calls Tryz.prog 62 #[.pointer (some ⟨g,0,none⟩)] w fun e w'=>∃ (t:ByteArray) (a':Nat),e=.returned (.string t)∧t.size≤6∧a'≤a+7∧Src w' g o c.length cp a' z∧w.grownBy w' (some g):=by
 obtain⟨i0,hi,hy0,hy1,hy2⟩:=info_parts Tryz.info5
 have hgl:=h.lt
 have HC:Hid (Code g w o c):=hc
 have hbA:Below w.heap.size w (w.alloc (.cells #[] 5)):=(Below.refl _ _).alloc (Nat.le_refl _) _
 have Hs0:Hid (Src (w.alloc (.cells #[] 5)) g o c.length cp a z):=h.below hbA
 have Hg0:Hid (w.grownBy (w.alloc (.cells #[] 5)) (some g)):=gr_below hbA
 have Hown0:Hid (Own w.heap.size (.slice (some ⟨w.heap.size,0,none⟩) 0 0) [] (w.alloc (.cells #[] 5))):=Own.made w.heap.size w (Nat.le_refl _)
 clear h hc hbA
 have hN:=srcN g o c cp a z 6 _ Hs0.out (HC.out.grown Hg0.out (Nat.le_refl _)) (by omega) hl (by omega) (by omega)
 go_enter Tryz.func62,Tryz.ntmps62
 go_wp2_with fail
 refine hN.mono ?_
 rintro e w1 ⟨v,rfl,hv,hs1,hg1⟩
 have Hs1:Hid (Src w1 g o c.length cp (a+1) z):=hs1
 have Hg1:Hid (w.grownBy w1 (some g)):=gr_trans Hg0.out hg1
 have Hown1:Hid (Own w.heap.size (.slice (some ⟨w.heap.size,0,none⟩) 0 0) [] w1):=Own.gr Hown0.out hg1 hgl
 have hsz1:=Hg1.out.size
 clear hN hs1 hg1 Hs0 Hg0 Hown0
 go_wp2
 go_loopw [3,4] (fun u i wr=>∃ (k:Nat) (p:List UInt8) (a':Nat),i=.int .i64 k∧p.length+k≤6∧a'+k≤a+7∧Hid (Src wr g o c.length cp a' z)∧Hid (w.grownBy wr (some g))∧Own w.heap.size u p wr) (fun _ i _=>(Lib.intOf i).toNat)
 case atStart=>exact⟨1+v,[],a+1,by go_num,by simp;omega,by omega,Hs1,Hg1,Hown1.out⟩
 case round=>
  clear Hs1 Hg1 Hown1
  obtain⟨k,p,a',rfl,hpk,hak,Hs,Hg,hown⟩:=hrel
  by_cases hk:0<k
  ·have hN:=srcN g o c cp a' z 26 wr Hs.out (HC.out.grown Hg.out (Nat.le_refl _)) (by omega) hl (by omega) (by omega)
   go_wp2_with fail
   refine hN.mono ?_
   rintro e w2 ⟨v2,rfl,hv2,hs2,hg2⟩
   have Hs2:Hid (Src w2 g o c.length cp (a'+1) z):=hs2
   have Hg2:Hid (w.grownBy w2 (some g)):=gr_trans Hg.out hg2
   have hown2:=hown.gr hg2 hgl
   clear hN hs2 hg2 hown Hs Hg
   have hv3:v2<26:=by omega
   go_wp2_with (at_builtin;go_must (refine wp_app (W:=w2) rfl _ _ 22 rfl i0 Tryz.underlying22 hi hy0 hy1 hy2 w.heap.size u3 p rfl hown2 _ [_] rfl 1 1 rfl rfl (by simp;omega) Hg2.out.size (Below.refl _ _) ?_;intro v4 w4 hown4 hb4))
   have Hs4:Hid (Src w4 g o c.length cp (a'+1) z):=Hs2.out.belowB hb4 hgl
   have Hg4:Hid (w.grownBy w4 (some g)):=gr_belowB Hg2.out hb4
   go_roundw
   case rel=>exact⟨k-1,_,a'+1,by go_num,by simp;omega,by omega,Hs4,Hg4,hown4⟩
   case measure=>simp[Lib.intOf];omega
  ·have hbk:=hown.back (P:=Tryz.prog) 22 9 Tryz.underlying22 Tryz.underlying5 Tryz.underlying9
   have hps:(⟨p.toArray⟩:ByteArray).size≤6:=by show p.toArray.size≤6;rw[List.size_toArray];omega
   go_wp2
   go_ret
   exact⟨_,a',rfl,hps,by omega,Hs.out,Hg.out⟩
theorem by_byte (n:Int)(h0:0≤n)(h1:n<256):∃b:UInt8,(b.toNat:Int)=n:=⟨UInt8.ofNat n.toNat,by simp[UInt8.toNat_ofNat'];omega⟩
set_option maxRecDepth 10000 in
theorem srcBytes (g:Nat)(o:Option Addr)(c:List UInt8)(cp a z n:Nat)(w:World)(h:Src w g o c.length cp a z)(hc:Code g w o c)(ha:a≤900000000000)(hl:c.length≤1048576)(hn:n≤1000) :
  Calls Tryz.prog 34 #[.pointer (some ⟨g,0,none⟩),.int .i64 n] w fun e w'=>∃ (t:ByteArray) (a':Nat),e=.returned (.string t)∧t.size≤3*n∧a'≤a+1+2*n∧Src w' g o c.length cp a' z∧w.grownBy w' (some g):=by
 obtain⟨i0,hi,hy0,hy1,hy2⟩:=info_parts Tryz.info5
 have hgl:=h.lt
 have HC:Hid (Code g w o c):=hc
 have hbA:Below w.heap.size w (w.alloc (.cells #[] 5)):=(Below.refl _ _).alloc (Nat.le_refl _) _
 have Hs0:Hid (Src (w.alloc (.cells #[] 5)) g o c.length cp a z):=h.below hbA
 have Hg0:Hid (w.grownBy (w.alloc (.cells #[] 5)) (some g)):=gr_below hbA
 have Hown0:Hid (Own w.heap.size (.slice (some ⟨w.heap.size,0,none⟩) 0 0) [] (w.alloc (.cells #[] 5))):=Own.made w.heap.size w (Nat.le_refl _)
 clear h hc hbA
 have hN:=srcN g o c cp a z 6 _ Hs0.out (HC.out.grown Hg0.out (Nat.le_refl _)) (by omega) hl (by omega) (by omega)
 go_enter Tryz.func34,Tryz.ntmps34
 go_wp2_with fail
 refine hN.mono ?_
 rintro e w1 ⟨v,rfl,hv,hs1,hg1⟩
 have Hs1:Hid (Src w1 g o c.length cp (a+1) z):=hs1
 have Hg1:Hid (w.grownBy w1 (some g)):=gr_trans Hg0.out hg1
 have Hown1:Hid (Own w.heap.size (.slice (some ⟨w.heap.size,0,none⟩) 0 0) [] w1):=Own.gr Hown0.out hg1 hgl
 clear hN hs1 hg1 Hs0 Hg0 Hown0
 go_wp2
 go_loopw [5,7] (fun u i wr=>∃ (k:Nat) (p:List UInt8) (a':Nat),k≤n∧i=.int .i64 k∧p.length≤3*k∧a'≤a+1+2*k∧Hid (Src wr g o c.length cp a' z)∧Hid (w.grownBy wr (some g))∧Own w.heap.size u p wr) (fun _ i _=>n-(Lib.intOf i).toNat)
 case atStart=>exact⟨0,[],a+1,Nat.zero_le _,rfl,by simp,by omega,Hs1,Hg1,Hown1.out⟩
 case round=>
  clear Hs1 Hg1 Hown1
  obtain⟨k,p,a',hk,rfl,hpk,hak,Hs,Hg,hown⟩:=hrel
  by_cases hlt:k<n
  ·have hN:=fun m h1 h2=>srcN g o c cp a' z m wr Hs.out (HC.out.grown Hg.out (Nat.le_refl _)) (by omega) hl h1 h2
   have hO:=srcOne g o c cp a' z 12 wr Hs.out (HC.out.grown Hg.out (Nat.le_refl _)) (by omega) hl (by omega) (by omega)
   have HN:=(show Hid _ from hN)
   clear hN
   by_cases h0:v=0
   ·have e0:((v:Int)==0)=true:=by rw[h0];rfl
    clear h0
    go_wp2_with fail
    refine(HN.out 256 (by omega) (by omega)).mono ?_
    rintro e w2 ⟨v2,rfl,hv2,hs2,hg2⟩
    have Hs2:Hid (Src w2 g o c.length cp (a'+1) z):=hs2
    have Hg2:Hid (w.grownBy w2 (some g)):=gr_trans Hg.out hg2
    have hown2:=hown.gr hg2 hgl
    clear hs2 hg2 hown HN hO
    obtain⟨bb,hbb⟩:=by_byte (v2:Int) (by omega) (by omega)
    have Hbb:Hid (((bb.toNat:Nat):Int)=(v2:Int)):=hbb
    clear hbb
    go_wp2_with (at_builtin;go_must (refine wp_app (W:=w2) rfl _ _ 22 rfl i0 Tryz.underlying22 hi hy0 hy1 hy2 w.heap.size u5 p rfl hown2 _ [bb] (by simp[byteCells,Hbb.out]) 1 1 rfl rfl (by simp;omega) Hg2.out.size (Below.refl _ _) ?_;intro v4 w4 hown4 hb4))
    have Hs4:Hid (Src w4 g o c.length cp (a'+1) z):=Hs2.out.belowB hb4 hgl
    have Hg4:Hid (w.grownBy w4 (some g)):=gr_belowB Hg2.out hb4
    go_roundw
    case rel=>exact⟨k+1,_,(a'+1),by omega,by go_num,by simp;omega,by omega,Hs4,Hg4,hown4⟩
    case measure=>simp[Lib.intOf];omega
   by_cases h1:v=1
   ·have e0:((v:Int)==0)=false:=beq_eq_false_iff_ne.2 (by omega)
    have e1:((v:Int)==1)=true:=by rw[h1];rfl
    clear h0 h1
    go_wp2_with fail
    refine(HN.out 9 (by omega) (by omega)).mono ?_
    rintro e w2 ⟨v2,rfl,hv2,hs2,hg2⟩
    have Hs2:Hid (Src w2 g o c.length cp (a'+1) z):=hs2
    have Hg2:Hid (w.grownBy w2 (some g)):=gr_trans Hg.out hg2
    have hown2:=hown.gr hg2 hgl
    clear hs2 hg2 hown HN hO
    have hv3:v2<9:=by omega
    go_wp2_with (at_builtin;go_must (refine wp_app (W:=w2) rfl _ _ 22 rfl i0 Tryz.underlying22 hi hy0 hy1 hy2 w.heap.size u5 p rfl hown2 _ [_] rfl 1 1 rfl rfl (by simp;omega) Hg2.out.size (Below.refl _ _) ?_;intro v4 w4 hown4 hb4))
    have Hs4:Hid (Src w4 g o c.length cp (a'+1) z):=Hs2.out.belowB hb4 hgl
    have Hg4:Hid (w.grownBy w4 (some g)):=gr_belowB Hg2.out hb4
    go_roundw
    case rel=>exact⟨k+1,_,(a'+1),by omega,by go_num,by simp;omega,by omega,Hs4,Hg4,hown4⟩
    case measure=>simp[Lib.intOf];omega
   by_cases h2:v=2
   ·have e0:((v:Int)==0)=false:=beq_eq_false_iff_ne.2 (by omega)
    have e1:((v:Int)==1)=false:=beq_eq_false_iff_ne.2 (by omega)
    have e2:((v:Int)==2)=true:=by rw[h2];rfl
    clear h0 h1 h2
    go_wp2_with fail
    refine hO.mono ?_
    rintro e w2 ⟨b2,rfl,hs2,hg2⟩
    have Hs2:Hid (Src w2 g o c.length cp (a'+1) z):=hs2
    have Hg2:Hid (w.grownBy w2 (some g)):=gr_trans Hg.out hg2
    have hown2:=hown.gr hg2 hgl
    clear hs2 hg2 hown HN hO
    have sub:∀(u:Value) (q:List UInt8) (wx:World),Hid (Src wx g o c.length cp (a'+1) z)→Hid (w.grownBy wx (some g))→True:=fun _ _ _ _ _=>trivial
    clear sub
    cases b2
    ·have hN3:=srcN g o c cp (a'+1) z 95 w2 Hs2.out (HC.out.grown Hg2.out (Nat.le_refl _)) (by omega) hl (by omega) (by omega)
     go_wp2_with fail
     refine hN3.mono ?_
     rintro e w3 ⟨v3,rfl,hv3,hs3,hg3⟩
     have Hs3:Hid (Src w3 g o c.length cp (a'+1+1) z):=hs3
     have Hg3:Hid (w.grownBy w3 (some g)):=gr_trans Hg2.out hg3
     have hown3:=hown2.gr hg3 hgl
     clear hs3 hg3 hown2 hN3
     obtain⟨bb,hbb⟩:=by_byte (32+v3:Int) (by omega) (by omega)
     have Hbb:Hid (((bb.toNat:Nat):Int)=(32+v3:Int)):=hbb
     clear hbb
     go_wp2_with (at_builtin;go_must (refine wp_app (W:=w3) rfl _ _ 22 rfl i0 Tryz.underlying22 hi hy0 hy1 hy2 w.heap.size u5 p rfl hown3 _ [bb] (by simp[byteCells,Hbb.out]) 1 1 rfl rfl (by simp;omega) Hg3.out.size (Below.refl _ _) ?_;intro v4 w4 hown4 hb4))
     have Hs4:Hid (Src w4 g o c.length cp (a'+1+1) z):=Hs3.out.belowB hb4 hgl
     have Hg4:Hid (w.grownBy w4 (some g)):=gr_belowB Hg3.out hb4
     go_roundw
     case rel=>exact⟨k+1,_,(a'+1+1),by omega,by go_num,by simp;omega,by omega,Hs4,Hg4,hown4⟩
     case measure=>simp[Lib.intOf];omega
    ·go_wp2_with (at_builtin;go_must (refine wp_app (W:=w2) rfl _ _ 22 rfl i0 Tryz.underlying22 hi hy0 hy1 hy2 w.heap.size u5 p rfl hown2 _ [13,10] rfl 2 2 rfl rfl (by simp;omega) Hg2.out.size (Below.refl _ _) ?_;intro v4 w4 hown4 hb4))
     have Hs4:Hid (Src w4 g o c.length cp (a'+1) z):=Hs2.out.belowB hb4 hgl
     have Hg4:Hid (w.grownBy w4 (some g)):=gr_belowB Hg2.out hb4
     clear hb4 Hs2 Hg2 hown2
     have hN3:=srcN g o c cp (a'+1) z 95 w4 Hs4.out (HC.out.grown Hg4.out (Nat.le_refl _)) (by omega) hl (by omega) (by omega)
     refine hN3.mono ?_
     rintro e w3 ⟨v3,rfl,hv3,hs3,hg3⟩
     have Hs3:Hid (Src w3 g o c.length cp (a'+1+1) z):=hs3
     have Hg3:Hid (w.grownBy w3 (some g)):=gr_trans Hg4.out hg3
     have hown3:=hown4.gr hg3 hgl
     clear hs3 hg3 hown4 hN3
     obtain⟨bb,hbb⟩:=by_byte (32+v3:Int) (by omega) (by omega)
     have Hbb:Hid (((bb.toNat:Nat):Int)=(32+v3:Int)):=hbb
     clear hbb
     go_wp2_with (at_builtin;go_must (refine wp_app (W:=w3) rfl _ _ 22 rfl i0 Tryz.underlying22 hi hy0 hy1 hy2 w.heap.size v4 (p ++ [13,10]) rfl hown3 _ [bb] (by simp[byteCells,Hbb.out]) 1 1 rfl rfl (by simp;omega) Hg3.out.size (Below.refl _ _) ?_;intro v5 w5 hown5 hb5))
     have Hs4:Hid (Src w5 g o c.length cp (a'+1+1) z):=Hs3.out.belowB hb5 hgl
     have Hg4:Hid (w.grownBy w5 (some g)):=gr_belowB Hg3.out hb5
     go_roundw
     case rel=>exact⟨k+1,_,(a'+1+1),by omega,by go_num,by simp;omega,by omega,Hs4,Hg4,hown5⟩
     case measure=>simp[Lib.intOf];omega
   ·have e0:((v:Int)==0)=false:=beq_eq_false_iff_ne.2 (by omega)
    have e1:((v:Int)==1)=false:=beq_eq_false_iff_ne.2 (by omega)
    have e2:((v:Int)==2)=false:=beq_eq_false_iff_ne.2 (by omega)
    go_wp2_with fail
    refine(HN.out 23 (by omega) (by omega)).mono ?_
    rintro e w2 ⟨v2,rfl,hv2,hs2,hg2⟩
    have Hs2:Hid (Src w2 g o c.length cp (a'+1) z):=hs2
    have Hg2:Hid (w.grownBy w2 (some g)):=gr_trans Hg.out hg2
    have hown2:=hown.gr hg2 hgl
    clear hs2 hg2 hown HN hO
    have hv3:v2<23:=by omega
    go_wp2_with (at_builtin;go_must (refine wp_app (W:=w2) rfl _ _ 22 rfl i0 Tryz.underlying22 hi hy0 hy1 hy2 w.heap.size u5 p rfl hown2 _ [_] rfl 1 1 rfl rfl (by simp;omega) Hg2.out.size (Below.refl _ _) ?_;intro v4 w4 hown4 hb4))
    have Hs4:Hid (Src w4 g o c.length cp (a'+1) z):=Hs2.out.belowB hb4 hgl
    have Hg4:Hid (w.grownBy w4 (some g)):=gr_belowB Hg2.out hb4
    go_roundw
    case rel=>exact⟨k+1,_,(a'+1),by omega,by go_num,by simp;omega,by omega,Hs4,Hg4,hown4⟩
    case measure=>simp[Lib.intOf];omega
  ·have hbk:=hown.back (P:=Tryz.prog) 22 9 Tryz.underlying22 Tryz.underlying5 Tryz.underlying9
   have hps:(⟨p.toArray⟩:ByteArray).size≤3*n:=by show p.toArray.size≤_;rw[List.size_toArray];omega
   go_wp2
   go_ret
   exact⟨_,a',rfl,hps,by omega,Hs.out,Hg.out⟩
theorem Code.mono {B B':Nat} {w:World} {o:Option Addr} {c:List UInt8} (h:Code B w o c)(hB:B≤B'):Code B' w o c:=by
 intro k hk
 obtain⟨a,rfl,ha,hc⟩:=h k hk
 exact⟨a,rfl,by omega,hc⟩
theorem Code.below {B:Nat} {w w':World} {o:Option Addr} {c:List UInt8} (h:Code B w o c)(hb:Below B w w'):Code B w' o c:=by
 intro k hk
 obtain⟨a,rfl,ha,hc⟩:=h k hk
 exact⟨a,rfl,ha,(hb.cell (by rw[addr_block];exact ha)).trans hc⟩
theorem gr_new {w w1 w':World} (hb:Below w.heap.size w w1)(hg:w1.grownBy w' (some w.heap.size)):Below w.heap.size w w':=
 ⟨hg.os.trans hb.os,hg.tape.trans hb.tape,hg.output.trans hb.output,Nat.le_trans hb.size hg.size,fun i hi=>(hg.block i (by have:=hb.size;omega) (by intro e;have:=Option.some.inj e;omega)).trans (hb.block i hi)⟩
def strOk (M:Nat):Value→Bool
 | .string t=>decide (t.size≤M)
 | _=>false
theorem table_at {w w3:World} {cs:Array Value} {g v M:Nat} (hg:(w.alloc (.cells cs 9)).grownBy w3 (some g))(hgl:g<w.heap.size)(hv:v<cs.size)(hcs:cs.toList.all (strOk M)=true) :
  ∃ t:ByteArray,w3.cell? ⟨w.heap.size,v,none⟩=some (.string t)∧t.size≤M:=by
 have hm:strOk M cs[v]=true:=List.all_eq_true.1 hcs _ (Array.mem_toList_iff.2 (Array.getElem_mem hv))
 have hc:(w.alloc (.cells cs 9)).cell? ⟨w.heap.size,v,none⟩=some cs[v]:=by simp[hv]
 have h3:=gr_cell hg (show w.heap.size≠g by omega) hc
 cases hx:cs[v] with
 | string t=>
  rw[hx] at h3 hm
  exact⟨t,h3,by simpa [strOk] using hm⟩
 | _=>rw[hx] at hm;cases hm
theorem srcName (g:Nat)(o:Option Addr)(c:List UInt8)(cp a z:Nat)(w:World)(h:Src w g o c.length cp a z)(hc:Code g w o c)(ha:a≤800000000000)(hl:c.length≤1048576) :
  Calls Tryz.prog 36 #[.pointer (some ⟨g,0,none⟩)] w fun e w'=>∃ (t:ByteArray) (a':Nat),e=.returned (.string t)∧t.size≤80∧a'≤a+10∧Src w' g o c.length cp a' z∧w.grownBy w' (some g):=by
 have HC:Hid (Code g w o c):=hc
 have hO:=srcOne g o c cp a z 3 w h hc (by omega) hl (by omega) (by omega)
 have hgl:=h.lt
 clear h hc
 go_enter Tryz.func36,Tryz.ntmps36
 go_wp2_with fail
 refine hO.mono ?_
 rintro e w2 ⟨b,rfl,hs2,hg2⟩
 clear hO
 cases b
 ·have hB:=srcWord g o c cp (a+1) z w2 hs2 (HC.out.grown hg2 (Nat.le_refl _)) (by omega) hl
  go_wp2_with fail
  refine hB.mono ?_
  rintro e w3 ⟨t,a',rfl,ht,ha',hs3,hg3⟩
  go_wp2
  go_ret
  exact⟨_,a',rfl,by rw[ByteArray.size_append];show 2+t.size≤80;omega,by omega,hs3,gr_trans hg2 hg3⟩
 ·go_wp2_with fail
  have hbA:∀cs,Below w2.heap.size w2 (w2.alloc (.cells cs 9)):=fun cs=>(Below.refl _ _).alloc (Nat.le_refl _) _
  have hg2l:=hg2.size
  have hN3:=fun cs=>srcN g o c cp (a+1) z 12 (w2.alloc (.cells cs 9)) (hs2.below (hbA cs)) (HC.out.grown (gr_trans hg2 (gr_below (hbA cs))) (Nat.le_refl _)) (by omega) hl (by omega) (by omega)
  refine(hN3 _).mono ?_
  rintro e w3 ⟨v3,rfl,hv3,hs3,hg3⟩
  obtain⟨t,ht,hts⟩:=table_at (M:=12) hg3 (by omega) (show v3<12 by omega) (by decide)
  have hg13:=gr_trans hg2 (gr_trans (gr_below (hbA _)) hg3)
  clear hN3 hg3 hbA
  have hv4:v3<12:=by omega
  go_wp2
  go_ret
  exact⟨_,_,rfl,by omega,by omega,hs3,hg13⟩
end Go.Proofs.YtibbpmhbgbafhaaGreatDoor
