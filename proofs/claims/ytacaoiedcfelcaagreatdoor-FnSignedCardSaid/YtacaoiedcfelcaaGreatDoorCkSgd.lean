import Derived.Test.YtacaoiedcfelcaaGreatDoorAllOf
import Derived.Laws.OwnMore
import Derived.Laws.Pointers
import Derived.Test.YtacaoiedcfelcaaGreatDoorChecked
import Derived.Lib.QuietBelow
import Derived.Deep.QuietTactic
import Derived.BigQuiet
import Derived.Deep.RegionWith
import Derived.WalkSmall
import Derived.Test.YtacaoiedcfelcaaGreatDoorOwnF
import Derived.Test.YtacaoiedcfelcaaGreatDoorCkRel
import Derived.Test.YtacaoiedcfelcaaGreatDoorSgSpecSign
set_option maxRecDepth 20000
set_option maxHeartbeats 2000000
namespace Go.Proofs.YtacaoiedcfelcaaGreatDoor
open Go.RowKit Go.Lib
def Code (B:Nat)(w:World)(o:Option Addr)(c:List UInt8):Prop:=∀k (h:k<c.length),∃ a,o=some a∧a.block<B∧w.cell? (a.add k)=some (.int .u8 (c[k].toNat:Int))
structure Src (w:World)(g:Nat)(o:Option Addr)(n cp a z:Nat):Prop where
 blk:w.heap[g]?=some (.cells #[.slice o n cp,.int .i64 a,.int .i64 z] 75)
theorem Src.c0 {w:World} {g n cp a z:Nat} {o:Option Addr} (h:Src w g o n cp a z):w.cell? ⟨g,0,none⟩=some (.slice o n cp):=by simp[World.cell?,h.blk]
theorem Src.c1 {w:World} {g n cp a z:Nat} {o:Option Addr} (h:Src w g o n cp a z):w.cell? ⟨g,1,none⟩=some (.int .i64 a):=by simp[World.cell?,h.blk]
theorem Src.c2 {w:World} {g n cp a z:Nat} {o:Option Addr} (h:Src w g o n cp a z):w.cell? ⟨g,2,none⟩=some (.int .i64 z):=by simp[World.cell?,h.blk]
theorem Src.f1 {w:World} {g n cp a z:Nat} {o:Option Addr} (h:Src w g o n cp a z):w.frozen? ⟨g,1,none⟩=false:=by simp[World.frozen?,h.blk]
theorem Src.lt {w:World} {g n cp a z:Nat} {o:Option Addr} (h:Src w g o n cp a z):g<w.heap.size:=by
 have h:=h.blk
 by_cases hg:g<w.heap.size
 ·exact hg
 ·rw[Array.getElem?_eq_none (by omega)] at h;cases h
theorem Src.below {w w':World} {g n cp a z:Nat} {o:Option Addr} (h:Src w g o n cp a z)(hb:Below w.heap.size w w'):Src w' g o n cp a z:=
 ⟨by rw[hb.block g h.lt];exact h.blk⟩
theorem Src.set1 {w:World} {g n cp a z:Nat} {o:Option Addr} (h:Src w g o n cp a z)(m:Int)(k:Nat)(hm:m=k):Src (w.setCell ⟨g,1,none⟩ (.int .i64 m)) g o n cp k z:=by
 subst hm
 exact⟨by simp[World.setCell,Array.getElem?_modify,h.blk]⟩
theorem gr_refl (w:World)(r:Option Nat):w.grownBy w r:=⟨rfl,rfl,rfl,Nat.le_refl _,fun _ _ _=>rfl⟩
theorem gr_trans {a b c:World} {r:Option Nat} (h:a.grownBy b r)(k:b.grownBy c r):a.grownBy c r:=
 ⟨k.os.trans h.os,k.tape.trans h.tape,k.output.trans h.output,Nat.le_trans h.size k.size,fun i hi hr=>(k.block i (Nat.lt_of_lt_of_le hi h.size) hr).trans (h.block i hi hr)⟩
theorem gr_below {w w':World} {r:Option Nat} (h:Below w.heap.size w w'):w.grownBy w' r:=⟨h.os,h.tape,h.output,h.size,fun k hk _=>h.block k hk⟩
theorem gr_set (w:World)(g j:Nat)(v:Value):w.grownBy (w.setCell ⟨g,j,none⟩ v) (some g):=by
 refine⟨rfl,rfl,rfl,by simp[World.setCell],?_⟩
 intro k hk hr
 have:g≠k:=fun e=>hr (by rw[e])
 simp[World.setCell,Array.getElem?_modify,this]
theorem gr_cell {w w':World} {g:Nat} (h:w.grownBy w' (some g)) {a:Addr} {v:Value} (ha:a.block≠g)(hc:w.cell? a=some v):w'.cell? a=some v:=by
 have hlt:a.block<w.heap.size:=World.block_lt_of_cell? _ _ hc
 unfold World.cell? at hc ⊢
 rw[h.block a.block hlt (by intro e;exact ha (Option.some.inj e))]
 exact hc
theorem addr_block (a:Addr)(k:Nat):(a.add k).block=a.block:=by unfold Addr.add;split<;>rfl
theorem Code.grown {B:Nat} {w w':World} {o:Option Addr} {c:List UInt8} {g:Nat} (h:Code B w o c)(hg:w.grownBy w' (some g))(hB:B≤g):Code B w' o c:=by
 intro k hk
 obtain⟨a,rfl,ha,hc⟩:=h k hk
 exact⟨a,rfl,ha,gr_cell hg (by rw[addr_block];omega) hc⟩
theorem srcN (g:Nat)(o:Option Addr)(c:List UInt8)(cp a z:Nat)(most:Int)(w:World)(h:Src w g o c.length cp a z)(hc:Code g w o c)(ha:a≤1000000000000)(hl:c.length≤1048576)(hm:most≤4000000000)(h1:1≤most) :
  Calls Tryz.prog 43 #[.pointer (some ⟨g,0,none⟩),.int .i64 most] w fun e w'=>∃ v:Nat,e=.returned (.int .i64 v)∧(v:Int)<most∧Src w' g o c.length cp (a+1) z∧w.grownBy w' (some g):=by
 have c0:=h.c0
 have c1:=h.c1
 have f1:=h.f1
 have Hs:Hid (Src (w.setCell ⟨g,1,none⟩ (.int .i64 ((a:Int)+1))) g o c.length cp (a+1) z):=h.set1 _ _ (by omega)
 have hg:=gr_set w g 1 (.int .i64 ((a:Int)+1))
 have Hg:Hid (w.grownBy (w.setCell ⟨g,1,none⟩ (.int .i64 ((a:Int)+1))) (some g)):=hg
 have HC:Hid (Code g (w.setCell ⟨g,1,none⟩ (.int .i64 ((a:Int)+1))) o c):=hc.grown hg (Nat.le_refl _)
 clear h hc hg
 by_cases hz:c.length=0
 ·have hz2:((c.length:Int)==0)=true:=by rw[hz];rfl
  go_enter Tryz.func43,Tryz.ntmps43
  go_wp2
  go_ret
  refine⟨((a:Int)*7 % most).toNat,?_,?_,Hs.out,Hg.out⟩
  ·have:=Int.emod_nonneg ((a:Int)*7) (show most≠0 by omega)
   rw[Int.toNat_of_nonneg this]
   rfl
  ·have:=Int.emod_nonneg ((a:Int)*7) (show most≠0 by omega)
   have:=Int.emod_lt_of_pos ((a:Int)*7) (show 0<most by omega)
   omega
 ·have hz2:((c.length:Int)==0)=false:=beq_eq_false_iff_ne.2 (by omega)
  obtain⟨r,hr⟩:∃r,a % c.length=r:=⟨_,rfl⟩
  obtain⟨q,hq⟩:∃q,a / c.length=q:=⟨_,rfl⟩
  obtain⟨r2,hr2⟩:∃r2,(a+1) % c.length=r2:=⟨_,rfl⟩
  have hrl:r<c.length:=by rw[← hr];exact Nat.mod_lt _ (by omega)
  have hr2l:r2<c.length:=by rw[← hr2];exact Nat.mod_lt _ (by omega)
  have hql:q≤a:=by rw[← hq];exact Nat.div_le_self _ _
  have hrI:(a:Int) % (c.length:Int)=(r:Int):=by rw[← hr];rfl
  have hqI:(a:Int) / (c.length:Int)=(q:Int):=by rw[← hq];rfl
  have hr2I:((a:Int)+1) % (c.length:Int)=(r2:Int):=by rw[← hr2];rfl
  obtain⟨ad,rfl,had,k1⟩:=HC.out r hrl
  obtain⟨ad2,hade,-,k2⟩:=HC.out r2 hr2l
  obtain rfl:=Option.some.inj hade
  have b1:c[r].toNat<256:=UInt8.toNat_lt _
  have b2:c[r2].toNat<256:=UInt8.toNat_lt _
  generalize c[r].toNat=x1 at *
  generalize c[r2].toNat=x2 at *
  have hne:¬(c.length:Int)=0:=by omega
  clear hr hq hr2 hade HC hz
  go_enter Tryz.func43,Tryz.ntmps43
  go_wp2
  go_quiet (fail)
  obtain⟨V,hV⟩:∃V,V=(w.setCell ⟨g,1,none⟩ (.int .i64 ((a:Int)+1))).drewN nq:=⟨_,rfl⟩
  have HsV:Hid (Src V g (some ad) c.length cp (a+1) z):=by rw[hV];exact⟨Hs.out.blk⟩
  have HgV:Hid (w.grownBy V (some g)):=by rw[hV];exact gr_trans Hg.out (gr_below (Go.below_drewN (Below.refl _ _) _))
  have c0V:=HsV.out.c0
  have k2V:V.cell? (ad.add r2)=some (.int .u8 (x2:Int)):=by rw[hV];exact k2
  rw[← hV]
  clear hV k1 k2 c0 c1 f1 Hs Hg
  have nn:∀x:Int,(x % most).toNat=x % most:=fun x=>Int.toNat_of_nonneg (Int.emod_nonneg x (by omega))
  have nl:∀x:Int,x % most<most:=fun x=>Int.emod_lt_of_pos x (by omega)
  have Hnn:=(show Hid _ from nn)
  have Hnl:=(show Hid _ from nl)
  clear nn nl
  by_cases hbig:200<most
  ·go_wp2
   go_quiet (fail)
   have HsV2:Hid (Src (V.drewN nq) g (some ad) c.length cp (a+1) z):=⟨HsV.out.blk⟩
   have HgV2:Hid (w.grownBy (V.drewN nq) (some g)):=gr_trans HgV.out (gr_below (Go.below_drewN (Below.refl _ _) _))
   go_wp2
   go_ret
   refine⟨((((x1:Int)+q*37)*251+x2*13+a) % most).toNat,?_,?_,HsV2.out,HgV2.out⟩
   ·rw[Hnn.out];rfl
   ·rw[Hnn.out];exact Hnl.out _
  ·go_wp2
   go_ret
   refine⟨(((x1:Int)+q*37) % most).toNat,?_,?_,HsV.out,HgV.out⟩
   ·rw[Hnn.out];rfl
   ·rw[Hnn.out];exact Hnl.out _
theorem Src.belowB {w w':World} {g n cp a z B:Nat} {o:Option Addr} (h:Src w g o n cp a z)(hb:Below B w w')(hB:g<B):Src w' g o n cp a z:=
 ⟨by rw[hb.block g hB];exact h.blk⟩
theorem gr_belowB {w0 w w':World} {g:Nat} (h:w0.grownBy w (some g))(hb:Below w0.heap.size w w'):w0.grownBy w' (some g):=
 ⟨hb.os.trans h.os,hb.tape.trans h.tape,hb.output.trans h.output,Nat.le_trans h.size hb.size,fun i hi hr=>(hb.block i hi).trans (h.block i hi hr)⟩
theorem hp_alloc (w:World)(o:Obj):(w.alloc o).heap[w.heap.size]?=some o:=by
 show(w.heap.push o)[w.heap.size]?=some o
 simp
theorem hp_lt {w:World} {k:Nat} {o:Obj} (h:w.heap[k]?=some o):k<w.heap.size:=by
 by_cases hg:k<w.heap.size
 ·exact hg
 ·rw[Array.getElem?_eq_none (by omega)] at h;cases h
theorem Own.gr {B g:Nat} {v:Value} {p:List UInt8} {w w':World} (h:Own B v p w)(hg:w.grownBy w' (some g))(hB:g<B):Own B v p w':=by
 obtain⟨h1,h2⟩:=h
 refine⟨h1,?_⟩
 rcases h2 with h2|⟨k,cap,cur,e1,e2,e3,e4⟩
 ·exact .inl h2
 ·refine .inr ⟨k,cap,cur,e1,e2,?_,e4⟩
  rw[hg.block k (hp_lt e3) (by intro e;have:=Option.some.inj e;omega)]
  exact e3
theorem srcOne (g:Nat)(o:Option Addr)(c:List UInt8)(cp a z:Nat)(most:Int)(w:World)(h:Src w g o c.length cp a z)(hc:Code g w o c)(ha:a≤1000000000000)(hl:c.length≤1048576)(hm:most≤4000000000)(h1:1≤most) :
  Calls Tryz.prog 48 #[.pointer (some ⟨g,0,none⟩),.int .i64 most] w fun e w'=>∃ b:Bool,e=.returned (.bool b)∧Src w' g o c.length cp (a+1) z∧w.grownBy w' (some g):=by
 have hN:=srcN g o c cp a z most w h hc ha hl hm h1
 clear h hc
 go_enter Tryz.func48,Tryz.ntmps48
 go_wp2_with fail
 refine hN.mono ?_
 rintro e w1 ⟨v,rfl,hv,hs,hg⟩
 go_wp2
 go_ret
 exact⟨_,rfl,hs,hg⟩
theorem srcNew (o:Option Addr)(n cp:Nat)(w:World)(hn:n≤1048576) :
  Calls Tryz.prog 11 #[.slice o n cp] w fun e w'=>∃ z,e=.returned (.pointer (some ⟨w.heap.size,0,none⟩))∧z≤12∧Src w' w.heap.size o n cp 0 z∧Below w.heap.size w w':=by
 by_cases h12:12<n / 16
 ·have h12i:(12:Int)<(n:Int) / 16:=by omega
  go_enter Tryz.func11,Tryz.ntmps11
  go_wp2
  go_ret
  first|exact⟨12,rfl,Nat.le_refl _,⟨hp_alloc _ _⟩,(Below.refl _ _).alloc (Nat.le_refl _) _⟩|exact⟨rfl,12,Nat.le_refl _,⟨hp_alloc _ _⟩,(Below.refl _ _).alloc (Nat.le_refl _) _⟩
 ·have h12i:¬(12:Int)<(n:Int) / 16:=by omega
  go_enter Tryz.func11,Tryz.ntmps11
  go_wp2
  go_ret
  first|exact⟨rfl,n / 16,by omega,⟨hp_alloc _ _⟩,(Below.refl _ _).alloc (Nat.le_refl _) _⟩|exact⟨n / 16,rfl,by omega,⟨hp_alloc _ _⟩,(Below.refl _ _).alloc (Nat.le_refl _) _⟩
theorem srcWord (g:Nat)(o:Option Addr)(c:List UInt8)(cp a z:Nat)(w:World)(h:Src w g o c.length cp a z)(hc:Code g w o c)(ha:a≤900000000000)(hl:c.length≤1048576) :
  Calls Tryz.prog 88 #[.pointer (some ⟨g,0,none⟩)] w fun e w'=>∃ (t:ByteArray) (a':Nat),e=.returned (.string t)∧t.size≤6∧a'≤a+7∧Src w' g o c.length cp a' z∧w.grownBy w' (some g):=by
 obtain⟨i0,hi,hy0,hy1,hy2⟩:=info_parts Tryz.info5
 have hgl:=h.lt
 have HC:Hid (Code g w o c):=hc
 have hbA:Below w.heap.size w (w.alloc (.cells #[] 5)):=(Below.refl _ _).alloc (Nat.le_refl _) _
 have Hs0:Hid (Src (w.alloc (.cells #[] 5)) g o c.length cp a z):=h.below hbA
 have Hg0:Hid (w.grownBy (w.alloc (.cells #[] 5)) (some g)):=gr_below hbA
 have Hown0:Hid (Own w.heap.size (.slice (some ⟨w.heap.size,0,none⟩) 0 0) [] (w.alloc (.cells #[] 5))):=Own.made w.heap.size w (Nat.le_refl _)
 clear h hc hbA
 have hN:=srcN g o c cp a z 6 _ Hs0.out (HC.out.grown Hg0.out (Nat.le_refl _)) (by omega) hl (by omega) (by omega)
 go_enter Tryz.func88,Tryz.ntmps88
 go_wp2_with fail
 refine hN.mono ?_
 rintro e w1 ⟨v,rfl,hv,hs1,hg1⟩
 have Hs1:Hid (Src w1 g o c.length cp (a+1) z):=hs1
 have Hg1:Hid (w.grownBy w1 (some g)):=gr_trans Hg0.out hg1
 have Hown1:Hid (Own w.heap.size (.slice (some ⟨w.heap.size,0,none⟩) 0 0) [] w1):=Own.gr Hown0.out hg1 hgl
 have hsz1:=Hg1.out.size
 clear hN hs1 hg1 Hs0 Hg0 Hown0
 go_wp2
 go_loopw [3,4] (fun u i wr=>∃ (k:Nat) (p:List UInt8) (a':Nat),i=.int .i64 k∧p.length+k≤6∧a'+k≤a+7∧Hid (Src wr g o c.length cp a' z)∧Hid (w.grownBy wr (some g))∧Own w.heap.size u p wr) (fun _ i _=>(Lib.intOf i).toNat)
 case atStart=>exact⟨1+v,[],a+1,by go_num,by simp;omega,by omega,Hs1,Hg1,Hown1.out⟩
 case round=>
  clear Hs1 Hg1 Hown1
  obtain⟨k,p,a',rfl,hpk,hak,Hs,Hg,hown⟩:=hrel
  by_cases hk:0<k
  ·have hN:=srcN g o c cp a' z 26 wr Hs.out (HC.out.grown Hg.out (Nat.le_refl _)) (by omega) hl (by omega) (by omega)
   go_wp2_with fail
   refine hN.mono ?_
   rintro e w2 ⟨v2,rfl,hv2,hs2,hg2⟩
   have Hs2:Hid (Src w2 g o c.length cp (a'+1) z):=hs2
   have Hg2:Hid (w.grownBy w2 (some g)):=gr_trans Hg.out hg2
   have hown2:=hown.gr hg2 hgl
   clear hN hs2 hg2 hown Hs Hg
   have hv3:v2<26:=by omega
   go_wp2_with (at_builtin;go_must (refine wp_app (W:=w2) rfl _ _ 22 rfl i0 Tryz.underlying22 hi hy0 hy1 hy2 w.heap.size u3 p rfl hown2 _ [_] rfl 1 1 rfl rfl (by simp;omega) Hg2.out.size (Below.refl _ _) ?_;intro v4 w4 hown4 hb4))
   have Hs4:Hid (Src w4 g o c.length cp (a'+1) z):=Hs2.out.belowB hb4 hgl
   have Hg4:Hid (w.grownBy w4 (some g)):=gr_belowB Hg2.out hb4
   go_roundw
   case rel=>exact⟨k-1,_,a'+1,by go_num,by simp;omega,by omega,Hs4,Hg4,hown4⟩
   case measure=>simp[Lib.intOf];omega
  ·have hbk:=hown.back (P:=Tryz.prog) 22 9 Tryz.underlying22 Tryz.underlying5 Tryz.underlying9
   have hps:(⟨p.toArray⟩:ByteArray).size≤6:=by show p.toArray.size≤6;rw[List.size_toArray];omega
   go_wp2
   go_ret
   exact⟨_,a',rfl,hps,by omega,Hs.out,Hg.out⟩
theorem by_byte (n:Int)(h0:0≤n)(h1:n<256):∃b:UInt8,(b.toNat:Int)=n:=⟨UInt8.ofNat n.toNat,by simp[UInt8.toNat_ofNat'];omega⟩
set_option maxRecDepth 10000 in
theorem srcBytes (g:Nat)(o:Option Addr)(c:List UInt8)(cp a z n:Nat)(w:World)(h:Src w g o c.length cp a z)(hc:Code g w o c)(ha:a≤900000000000)(hl:c.length≤1048576)(hn:n≤1000) :
  Calls Tryz.prog 45 #[.pointer (some ⟨g,0,none⟩),.int .i64 n] w fun e w'=>∃ (t:ByteArray) (a':Nat),e=.returned (.string t)∧t.size≤3*n∧a'≤a+1+2*n∧Src w' g o c.length cp a' z∧w.grownBy w' (some g):=by
 obtain⟨i0,hi,hy0,hy1,hy2⟩:=info_parts Tryz.info5
 have hgl:=h.lt
 have HC:Hid (Code g w o c):=hc
 have hbA:Below w.heap.size w (w.alloc (.cells #[] 5)):=(Below.refl _ _).alloc (Nat.le_refl _) _
 have Hs0:Hid (Src (w.alloc (.cells #[] 5)) g o c.length cp a z):=h.below hbA
 have Hg0:Hid (w.grownBy (w.alloc (.cells #[] 5)) (some g)):=gr_below hbA
 have Hown0:Hid (Own w.heap.size (.slice (some ⟨w.heap.size,0,none⟩) 0 0) [] (w.alloc (.cells #[] 5))):=Own.made w.heap.size w (Nat.le_refl _)
 clear h hc hbA
 have hN:=srcN g o c cp a z 6 _ Hs0.out (HC.out.grown Hg0.out (Nat.le_refl _)) (by omega) hl (by omega) (by omega)
 go_enter Tryz.func45,Tryz.ntmps45
 go_wp2_with fail
 refine hN.mono ?_
 rintro e w1 ⟨v,rfl,hv,hs1,hg1⟩
 have Hs1:Hid (Src w1 g o c.length cp (a+1) z):=hs1
 have Hg1:Hid (w.grownBy w1 (some g)):=gr_trans Hg0.out hg1
 have Hown1:Hid (Own w.heap.size (.slice (some ⟨w.heap.size,0,none⟩) 0 0) [] w1):=Own.gr Hown0.out hg1 hgl
 clear hN hs1 hg1 Hs0 Hg0 Hown0
 go_wp2
 go_loopw [5,7] (fun u i wr=>∃ (k:Nat) (p:List UInt8) (a':Nat),k≤n∧i=.int .i64 k∧p.length≤3*k∧a'≤a+1+2*k∧Hid (Src wr g o c.length cp a' z)∧Hid (w.grownBy wr (some g))∧Own w.heap.size u p wr) (fun _ i _=>n-(Lib.intOf i).toNat)
 case atStart=>exact⟨0,[],a+1,Nat.zero_le _,rfl,by simp,by omega,Hs1,Hg1,Hown1.out⟩
 case round=>
  clear Hs1 Hg1 Hown1
  obtain⟨k,p,a',hk,rfl,hpk,hak,Hs,Hg,hown⟩:=hrel
  by_cases hlt:k<n
  ·have hN:=fun m h1 h2=>srcN g o c cp a' z m wr Hs.out (HC.out.grown Hg.out (Nat.le_refl _)) (by omega) hl h1 h2
   have hO:=srcOne g o c cp a' z 12 wr Hs.out (HC.out.grown Hg.out (Nat.le_refl _)) (by omega) hl (by omega) (by omega)
   have HN:=(show Hid _ from hN)
   clear hN
   by_cases h0:v=0
   ·have e0:((v:Int)==0)=true:=by rw[h0];rfl
    clear h0
    go_wp2_with fail
    refine(HN.out 256 (by omega) (by omega)).mono ?_
    rintro e w2 ⟨v2,rfl,hv2,hs2,hg2⟩
    have Hs2:Hid (Src w2 g o c.length cp (a'+1) z):=hs2
    have Hg2:Hid (w.grownBy w2 (some g)):=gr_trans Hg.out hg2
    have hown2:=hown.gr hg2 hgl
    clear hs2 hg2 hown HN hO
    obtain⟨bb,hbb⟩:=by_byte (v2:Int) (by omega) (by omega)
    have Hbb:Hid (((bb.toNat:Nat):Int)=(v2:Int)):=hbb
    clear hbb
    go_wp2_with (at_builtin;go_must (refine wp_app (W:=w2) rfl _ _ 22 rfl i0 Tryz.underlying22 hi hy0 hy1 hy2 w.heap.size u5 p rfl hown2 _ [bb] (by simp[byteCells,Hbb.out]) 1 1 rfl rfl (by simp;omega) Hg2.out.size (Below.refl _ _) ?_;intro v4 w4 hown4 hb4))
    have Hs4:Hid (Src w4 g o c.length cp (a'+1) z):=Hs2.out.belowB hb4 hgl
    have Hg4:Hid (w.grownBy w4 (some g)):=gr_belowB Hg2.out hb4
    go_roundw
    case rel=>exact⟨k+1,_,(a'+1),by omega,by go_num,by simp;omega,by omega,Hs4,Hg4,hown4⟩
    case measure=>simp[Lib.intOf];omega
   by_cases h1:v=1
   ·have e0:((v:Int)==0)=false:=beq_eq_false_iff_ne.2 (by omega)
    have e1:((v:Int)==1)=true:=by rw[h1];rfl
    clear h0 h1
    go_wp2_with fail
    refine(HN.out 9 (by omega) (by omega)).mono ?_
    rintro e w2 ⟨v2,rfl,hv2,hs2,hg2⟩
    have Hs2:Hid (Src w2 g o c.length cp (a'+1) z):=hs2
    have Hg2:Hid (w.grownBy w2 (some g)):=gr_trans Hg.out hg2
    have hown2:=hown.gr hg2 hgl
    clear hs2 hg2 hown HN hO
    have hv3:v2<9:=by omega
    go_wp2_with (at_builtin;go_must (refine wp_app (W:=w2) rfl _ _ 22 rfl i0 Tryz.underlying22 hi hy0 hy1 hy2 w.heap.size u5 p rfl hown2 _ [_] rfl 1 1 rfl rfl (by simp;omega) Hg2.out.size (Below.refl _ _) ?_;intro v4 w4 hown4 hb4))
    have Hs4:Hid (Src w4 g o c.length cp (a'+1) z):=Hs2.out.belowB hb4 hgl
    have Hg4:Hid (w.grownBy w4 (some g)):=gr_belowB Hg2.out hb4
    go_roundw
    case rel=>exact⟨k+1,_,(a'+1),by omega,by go_num,by simp;omega,by omega,Hs4,Hg4,hown4⟩
    case measure=>simp[Lib.intOf];omega
   by_cases h2:v=2
   ·have e0:((v:Int)==0)=false:=beq_eq_false_iff_ne.2 (by omega)
    have e1:((v:Int)==1)=false:=beq_eq_false_iff_ne.2 (by omega)
    have e2:((v:Int)==2)=true:=by rw[h2];rfl
    clear h0 h1 h2
    go_wp2_with fail
    refine hO.mono ?_
    rintro e w2 ⟨b2,rfl,hs2,hg2⟩
    have Hs2:Hid (Src w2 g o c.length cp (a'+1) z):=hs2
    have Hg2:Hid (w.grownBy w2 (some g)):=gr_trans Hg.out hg2
    have hown2:=hown.gr hg2 hgl
    clear hs2 hg2 hown HN hO
    have sub:∀(u:Value) (q:List UInt8) (wx:World),Hid (Src wx g o c.length cp (a'+1) z)→Hid (w.grownBy wx (some g))→True:=fun _ _ _ _ _=>trivial
    clear sub
    cases b2
    ·have hN3:=srcN g o c cp (a'+1) z 95 w2 Hs2.out (HC.out.grown Hg2.out (Nat.le_refl _)) (by omega) hl (by omega) (by omega)
     go_wp2_with fail
     refine hN3.mono ?_
     rintro e w3 ⟨v3,rfl,hv3,hs3,hg3⟩
     have Hs3:Hid (Src w3 g o c.length cp (a'+1+1) z):=hs3
     have Hg3:Hid (w.grownBy w3 (some g)):=gr_trans Hg2.out hg3
     have hown3:=hown2.gr hg3 hgl
     clear hs3 hg3 hown2 hN3
     obtain⟨bb,hbb⟩:=by_byte (32+v3:Int) (by omega) (by omega)
     have Hbb:Hid (((bb.toNat:Nat):Int)=(32+v3:Int)):=hbb
     clear hbb
     go_wp2_with (at_builtin;go_must (refine wp_app (W:=w3) rfl _ _ 22 rfl i0 Tryz.underlying22 hi hy0 hy1 hy2 w.heap.size u5 p rfl hown3 _ [bb] (by simp[byteCells,Hbb.out]) 1 1 rfl rfl (by simp;omega) Hg3.out.size (Below.refl _ _) ?_;intro v4 w4 hown4 hb4))
     have Hs4:Hid (Src w4 g o c.length cp (a'+1+1) z):=Hs3.out.belowB hb4 hgl
     have Hg4:Hid (w.grownBy w4 (some g)):=gr_belowB Hg3.out hb4
     go_roundw
     case rel=>exact⟨k+1,_,(a'+1+1),by omega,by go_num,by simp;omega,by omega,Hs4,Hg4,hown4⟩
     case measure=>simp[Lib.intOf];omega
    ·go_wp2_with (at_builtin;go_must (refine wp_app (W:=w2) rfl _ _ 22 rfl i0 Tryz.underlying22 hi hy0 hy1 hy2 w.heap.size u5 p rfl hown2 _ [13,10] rfl 2 2 rfl rfl (by simp;omega) Hg2.out.size (Below.refl _ _) ?_;intro v4 w4 hown4 hb4))
     have Hs4:Hid (Src w4 g o c.length cp (a'+1) z):=Hs2.out.belowB hb4 hgl
     have Hg4:Hid (w.grownBy w4 (some g)):=gr_belowB Hg2.out hb4
     clear hb4 Hs2 Hg2 hown2
     have hN3:=srcN g o c cp (a'+1) z 95 w4 Hs4.out (HC.out.grown Hg4.out (Nat.le_refl _)) (by omega) hl (by omega) (by omega)
     refine hN3.mono ?_
     rintro e w3 ⟨v3,rfl,hv3,hs3,hg3⟩
     have Hs3:Hid (Src w3 g o c.length cp (a'+1+1) z):=hs3
     have Hg3:Hid (w.grownBy w3 (some g)):=gr_trans Hg4.out hg3
     have hown3:=hown4.gr hg3 hgl
     clear hs3 hg3 hown4 hN3
     obtain⟨bb,hbb⟩:=by_byte (32+v3:Int) (by omega) (by omega)
     have Hbb:Hid (((bb.toNat:Nat):Int)=(32+v3:Int)):=hbb
     clear hbb
     go_wp2_with (at_builtin;go_must (refine wp_app (W:=w3) rfl _ _ 22 rfl i0 Tryz.underlying22 hi hy0 hy1 hy2 w.heap.size v4 (p ++ [13,10]) rfl hown3 _ [bb] (by simp[byteCells,Hbb.out]) 1 1 rfl rfl (by simp;omega) Hg3.out.size (Below.refl _ _) ?_;intro v5 w5 hown5 hb5))
     have Hs4:Hid (Src w5 g o c.length cp (a'+1+1) z):=Hs3.out.belowB hb5 hgl
     have Hg4:Hid (w.grownBy w5 (some g)):=gr_belowB Hg3.out hb5
     go_roundw
     case rel=>exact⟨k+1,_,(a'+1+1),by omega,by go_num,by simp;omega,by omega,Hs4,Hg4,hown5⟩
     case measure=>simp[Lib.intOf];omega
   ·have e0:((v:Int)==0)=false:=beq_eq_false_iff_ne.2 (by omega)
    have e1:((v:Int)==1)=false:=beq_eq_false_iff_ne.2 (by omega)
    have e2:((v:Int)==2)=false:=beq_eq_false_iff_ne.2 (by omega)
    go_wp2_with fail
    refine(HN.out 23 (by omega) (by omega)).mono ?_
    rintro e w2 ⟨v2,rfl,hv2,hs2,hg2⟩
    have Hs2:Hid (Src w2 g o c.length cp (a'+1) z):=hs2
    have Hg2:Hid (w.grownBy w2 (some g)):=gr_trans Hg.out hg2
    have hown2:=hown.gr hg2 hgl
    clear hs2 hg2 hown HN hO
    have hv3:v2<23:=by omega
    go_wp2_with (at_builtin;go_must (refine wp_app (W:=w2) rfl _ _ 22 rfl i0 Tryz.underlying22 hi hy0 hy1 hy2 w.heap.size u5 p rfl hown2 _ [_] rfl 1 1 rfl rfl (by simp;omega) Hg2.out.size (Below.refl _ _) ?_;intro v4 w4 hown4 hb4))
    have Hs4:Hid (Src w4 g o c.length cp (a'+1) z):=Hs2.out.belowB hb4 hgl
    have Hg4:Hid (w.grownBy w4 (some g)):=gr_belowB Hg2.out hb4
    go_roundw
    case rel=>exact⟨k+1,_,(a'+1),by omega,by go_num,by simp;omega,by omega,Hs4,Hg4,hown4⟩
    case measure=>simp[Lib.intOf];omega
  ·have hbk:=hown.back (P:=Tryz.prog) 22 9 Tryz.underlying22 Tryz.underlying5 Tryz.underlying9
   have hps:(⟨p.toArray⟩:ByteArray).size≤3*n:=by show p.toArray.size≤_;rw[List.size_toArray];omega
   go_wp2
   go_ret
   exact⟨_,a',rfl,hps,by omega,Hs.out,Hg.out⟩
theorem Code.mono {B B':Nat} {w:World} {o:Option Addr} {c:List UInt8} (h:Code B w o c)(hB:B≤B'):Code B' w o c:=by
 intro k hk
 obtain⟨a,rfl,ha,hc⟩:=h k hk
 exact⟨a,rfl,by omega,hc⟩
theorem Code.below {B:Nat} {w w':World} {o:Option Addr} {c:List UInt8} (h:Code B w o c)(hb:Below B w w'):Code B w' o c:=by
 intro k hk
 obtain⟨a,rfl,ha,hc⟩:=h k hk
 exact⟨a,rfl,ha,(hb.cell (by rw[addr_block];exact ha)).trans hc⟩
theorem gr_new {w w1 w':World} (hb:Below w.heap.size w w1)(hg:w1.grownBy w' (some w.heap.size)):Below w.heap.size w w':=
 ⟨hg.os.trans hb.os,hg.tape.trans hb.tape,hg.output.trans hb.output,Nat.le_trans hb.size hg.size,fun i hi=>(hg.block i (by have:=hb.size;omega) (by intro e;have:=Option.some.inj e;omega)).trans (hb.block i hi)⟩
def strOk (M:Nat):Value→Bool
 | .string t=>decide (t.size≤M)
 | _=>false
theorem table_at {w w3:World} {cs:Array Value} {g v M:Nat} (hg:(w.alloc (.cells cs 9)).grownBy w3 (some g))(hgl:g<w.heap.size)(hv:v<cs.size)(hcs:cs.toList.all (strOk M)=true) :
  ∃ t:ByteArray,w3.cell? ⟨w.heap.size,v,none⟩=some (.string t)∧t.size≤M:=by
 have hm:strOk M cs[v]=true:=List.all_eq_true.1 hcs _ (Array.mem_toList_iff.2 (Array.getElem_mem hv))
 have hc:(w.alloc (.cells cs 9)).cell? ⟨w.heap.size,v,none⟩=some cs[v]:=by simp[hv]
 have h3:=gr_cell hg (show w.heap.size≠g by omega) hc
 cases hx:cs[v] with
 | string t=>
  rw[hx] at h3 hm
  exact⟨t,h3,by simpa [strOk] using hm⟩
 | _=>rw[hx] at hm;cases hm
theorem srcName (g:Nat)(o:Option Addr)(c:List UInt8)(cp a z:Nat)(w:World)(h:Src w g o c.length cp a z)(hc:Code g w o c)(ha:a≤800000000000)(hl:c.length≤1048576) :
  Calls Tryz.prog 47 #[.pointer (some ⟨g,0,none⟩)] w fun e w'=>∃ (t:ByteArray) (a':Nat),e=.returned (.string t)∧t.size≤80∧a'≤a+10∧Src w' g o c.length cp a' z∧w.grownBy w' (some g):=by
 have HC:Hid (Code g w o c):=hc
 have hO:=srcOne g o c cp a z 3 w h hc (by omega) hl (by omega) (by omega)
 have hgl:=h.lt
 clear h hc
 go_enter Tryz.func47,Tryz.ntmps47
 go_wp2_with fail
 refine hO.mono ?_
 rintro e w2 ⟨b,rfl,hs2,hg2⟩
 clear hO
 cases b
 ·have hB:=srcWord g o c cp (a+1) z w2 hs2 (HC.out.grown hg2 (Nat.le_refl _)) (by omega) hl
  go_wp2_with fail
  refine hB.mono ?_
  rintro e w3 ⟨t,a',rfl,ht,ha',hs3,hg3⟩
  go_wp2
  go_ret
  exact⟨_,a',rfl,by rw[ByteArray.size_append];show 2+t.size≤80;omega,by omega,hs3,gr_trans hg2 hg3⟩
 ·go_wp2_with fail
  have hbA:∀cs,Below w2.heap.size w2 (w2.alloc (.cells cs 9)):=fun cs=>(Below.refl _ _).alloc (Nat.le_refl _) _
  have hg2l:=hg2.size
  have hN3:=fun cs=>srcN g o c cp (a+1) z 12 (w2.alloc (.cells cs 9)) (hs2.below (hbA cs)) (HC.out.grown (gr_trans hg2 (gr_below (hbA cs))) (Nat.le_refl _)) (by omega) hl (by omega) (by omega)
  refine(hN3 _).mono ?_
  rintro e w3 ⟨v3,rfl,hv3,hs3,hg3⟩
  obtain⟨t,ht,hts⟩:=table_at (M:=12) hg3 (by omega) (show v3<12 by omega) (by decide)
  have hg13:=gr_trans hg2 (gr_trans (gr_below (hbA _)) hg3)
  clear hN3 hg3 hbA
  have hv4:v3<12:=by omega
  go_wp2
  go_ret
  exact⟨_,_,rfl,by omega,by omega,hs3,hg13⟩
def notZ (t:ByteArray):Bool:=match t.data.toList with
 | []=>true
 | c::_=>c != 90 && c != 122
def offZ (t:ByteArray):Bool:=notZ t || decide (t.size≤3)
theorem offZ.nz {t:ByteArray} (h:notZ t=true):offZ t=true:=by simp[offZ,h]
theorem offZ.sm {t:ByteArray} (h:t.size≤3):offZ t=true:=by simp[offZ,h]
theorem notZ_X (t:ByteArray):notZ (⟨#[88,45]⟩++t)=true:=by
 unfold notZ
 simp
def strZ (M:Nat):Value→Bool
 | .string t=>decide (t.size≤M) && notZ t
 | _=>false
theorem table_atZ {w w3:World} {cs:Array Value} {g v M:Nat} (hg:(w.alloc (.cells cs 9)).grownBy w3 (some g))(hgl:g<w.heap.size)(hv:v<cs.size)(hcs:cs.toList.all (strZ M)=true) :
  ∃ t:ByteArray,w3.cell? ⟨w.heap.size,v,none⟩=some (.string t)∧t.size≤M∧notZ t=true:=by
 have hm:strZ M cs[v]=true:=List.all_eq_true.1 hcs _ (Array.mem_toList_iff.2 (Array.getElem_mem hv))
 have hc:(w.alloc (.cells cs 9)).cell? ⟨w.heap.size,v,none⟩=some cs[v]:=by simp[hv]
 have h3:=gr_cell hg (show w.heap.size≠g by omega) hc
 cases hx:cs[v] with
 | string t=>
  rw[hx] at h3 hm
  have h:t.size≤M∧notZ t=true:=by simpa [strZ] using hm
  exact⟨t,h3,h.1,h.2⟩
 | _=>rw[hx] at hm;simp[strZ] at hm
theorem srcNameB (g:Nat)(o:Option Addr)(c:List UInt8)(cp a z:Nat)(w:World)(h:Src w g o c.length cp a z)(hc:Code g w o c)(ha:a≤800000000000)(hl:c.length≤1048576) :
  Calls Tryz.prog 47 #[.pointer (some ⟨g,0,none⟩)] w fun e w'=>∃ (t:ByteArray) (a':Nat),e=.returned (.string t)∧t.size≤80∧notZ t=true∧a'≤a+10∧Src w' g o c.length cp a' z∧w.grownBy w' (some g):=by
 have HC:Hid (Code g w o c):=hc
 have hO:=srcOne g o c cp a z 3 w h hc (by omega) hl (by omega) (by omega)
 have hgl:=h.lt
 clear h hc
 go_enter Tryz.func47,Tryz.ntmps47
 go_wp2_with fail
 refine hO.mono ?_
 rintro e w2 ⟨b,rfl,hs2,hg2⟩
 clear hO
 cases b
 ·have hB:=srcWord g o c cp (a+1) z w2 hs2 (HC.out.grown hg2 (Nat.le_refl _)) (by omega) hl
  go_wp2_with fail
  refine hB.mono ?_
  rintro e w3 ⟨t,a',rfl,ht,ha',hs3,hg3⟩
  go_wp2
  go_ret
  exact⟨_,a',rfl,by rw[ByteArray.size_append];show 2+t.size≤80;omega,notZ_X t,by omega,hs3,gr_trans hg2 hg3⟩
 ·go_wp2_with fail
  have hbA:∀cs,Below w2.heap.size w2 (w2.alloc (.cells cs 9)):=fun cs=>(Below.refl _ _).alloc (Nat.le_refl _) _
  have hg2l:=hg2.size
  have hN3:=fun cs=>srcN g o c cp (a+1) z 12 (w2.alloc (.cells cs 9)) (hs2.below (hbA cs)) (HC.out.grown (gr_trans hg2 (gr_below (hbA cs))) (Nat.le_refl _)) (by omega) hl (by omega) (by omega)
  refine(hN3 _).mono ?_
  rintro e w3 ⟨v3,rfl,hv3,hs3,hg3⟩
  obtain⟨t,ht,hts,htz⟩:=table_atZ (M:=12) hg3 (by omega) (show v3<12 by omega) (by decide)
  have HTZ:=mkHid htz
  clear htz
  have hg13:=gr_trans hg2 (gr_trans (gr_below (hbA _)) hg3)
  clear hN3 hg3 hbA
  have hv4:v3<12:=by omega
  go_wp2
  go_ret
  exact⟨_,_,rfl,by omega,HTZ.out,by omega,hs3,hg13⟩
namespace Sn
theorem baBack (v:ByteArray):(⟨v.data.toList.toArray⟩:ByteArray)=v:=ba_eq (by simp)
abbrev zzN:ByteArray:=⟨#[90,122,45,78,101,119]⟩
abbrev zzV:ByteArray:=⟨#[32,120]⟩
theorem small_z (c:UInt8)(h:small c=122):c=90∨c=122:=by
 have h1:=congrArg UInt8.toNat h
 by_cases hb:65≤c.toNat∧c.toNat≤90
 ·have h2:=small_yes c hb
  have h3:(122:UInt8).toNat=122:=rfl
  left
  have h4:c.toNat=90:=by omega
  exact UInt8.toNat_inj.1 h4
 ·right
  unfold small at h
  rw[if_neg hb] at h
  exact h
theorem nmZ (m x:ByteArray)(h:offZ m=true):nmF m (zzN,x)=false:=by
 unfold nmF namedB
 rw[beq_eq_false_iff_ne]
 intro e
 have hz:lower zzN.data.toList=[122,122,45,110,101,119]:=by decide
 rw[hz] at e
 have hl:m.size=6:=by
  have:=congrArg List.length e
  have e1:m.data.toList.length=m.size:=by simp
  unfold lower at this
  rw[List.length_map,e1] at this
  exact this.symm
 cases hm:m.data.toList with
 | nil=>rw[hm] at e;cases e
 | cons c r=>
  rw[hm] at e
  have e1:(122:UInt8)=small c:=(List.cons.inj e).1
  have h2:=small_z c e1.symm
  unfold offZ notZ at h
  rw[hm] at h
  rcases h2 with rfl|rfl<;>simp[hl] at h
theorem own_ansR (msg d s:ByteArray)(A B:Int)(M:List ByteArray)(h b:Int)(hok:signerOk d s A B M h b=true)(K:List Ky)(r:Int)(hK:K=[⟨d,s,A,B⟩]∧r=0∨K=[]∧r=1)(bt:ByteArray)(hb:canonAny bt b=sgBody msg b)(O:List Fd)(hO:tkL h M O=tkL h M (toBA (RH msg).fields)) :
  ansOf K bt sgName (sgValue msg d s A.toNat B.toNat M h b) O=(d,r):=by
 rw[own_ans msg d s A B M h b hok K (hK.imp And.left And.left) bt hb O hO]
 rcases hK with ⟨rfl,rfl⟩|⟨rfl,rfl⟩
 ·simp
 ·simp
theorem nm_own:namedB ⟨sgName.data.toList.toArray⟩ sgName=true:=by decide
theorem nm_zz:namedB ⟨zzN.data.toList.toArray⟩ sgName=false:=by decide
theorem first_of (msg d s:ByteArray)(A B:Int)(M:List ByteArray)(h b:Int)(hok:signerOk d s A B M h b=true)(K:List Ky)(r:Int)(hK:K=[⟨d,s,A,B⟩]∧r=0∨K=[]∧r=1)(bt:ByteArray)(hb:canonAny bt b=sgBody msg b)(F:List Fl)
  (hF:F=(sgName.data.toList,(sgValue msg d s A.toNat B.toNat M h b).data.toList)::(RH msg).fields):(sgAns K bt F F.length).head?=some (d,r):=by
 subst hF
 refine(sgAns_first K bt (sgName.data.toList,(sgValue msg d s A.toNat B.toNat M h b).data.toList) (RH msg).fields nm_own).trans ?_
 show some (ansOf K bt ⟨sgName.data.toList.toArray⟩ ⟨(sgValue msg d s A.toNat B.toNat M h b).data.toList.toArray⟩ (toBA (RH msg).fields))=_
 rw[baBack,baBack,own_ansR msg d s A B M h b hok K r hK bt hb _ rfl]
theorem ne_of_head {α:Type} {L:List α} {a:α} (h:L.head?=some a):∃R,L=a::R:=by
 cases L with
 | nil=>cases h
 | cons x R=>cases h;exact⟨R,rfl⟩
theorem ahead_of (msg d s:ByteArray)(A B:Int)(M:List ByteArray)(h b:Int)(T:ByteArray)(hT:T=plSign msg d s A B M h b)(hne:T≠⟨#[]⟩)(hZ:∀m ∈ M,offZ m=true)(hf:(RH T).fields.length<200)(T2:ByteArray)(hT2:T2=Pl.added ⟨(Pl.hd [] [(zzN,zzV)]).toArray⟩ T)(h2:T2≠⟨#[]⟩) :
  T2.size≤100000∧(RH T2).code=0∧(RH T2).fields ≠ []∧(sgAns [⟨d,s,A,B⟩] (T2.extract (RH T2).body T2.size) (RH T2).fields (RH T2).fields.length).head?=some (d,0) ∧
   ∀K bt,(sgAns [⟨d,s,A,B⟩] (T2.extract (RH T2).body T2.size) (RH T2).fields (RH T2).fields.length).length=(sgAns K bt (RH T).fields (RH T).fields.length).length:=by
 have hR:=own_head msg d s A B M h b (hT ▸ hne)
 have hB:=own_body msg d s A B M h b (hT ▸ hne)
 obtain⟨g1,-,-,-,-,-,g7⟩:=sign_form msg d s A B M h b (hT ▸ hne)
 rw[← hT] at hR hB g7
 have hh:Pl.hd [] [(zzN,zzV)]=Pl.lineL (zzN.data.toList,zzV.data.toList):=by decide
 have hd2:T2.data.toList=Pl.lineL (zzN.data.toList,zzV.data.toList)++T.data.toList∧T2.size≤100000:=by
  unfold Pl.added at hT2
  split at hT2
  ·exact absurd hT2 h2
  ·split at hT2
   ·exact absurd hT2 h2
   ·rename_i hl
    rw[hT2,hh]
    refine⟨by simp,?_⟩
    rw[hh] at hl
    rw[ByteArray.size_append]
    omega
 obtain⟨hd2,hz2⟩:=hd2
 have hrt:RH T=Pl.readHead T.data.toList:=by unfold RH;rw[if_pos g7]
 have hcT:(Pl.readHead T.data.toList).code=0:=by rw[← hrt,hR]
 have hR2:RH T2=⟨0,0,(Pl.lineL (zzN.data.toList,zzV.data.toList)).length+(RH T).body,(zzN.data.toList,zzV.data.toList)::(RH T).fields⟩:=by
  have e2:RH T2=Pl.readHead T2.data.toList:=by unfold RH;rw[if_pos hz2]
  rw[e2,hd2,hrt]
  rw[hrt] at hf
  exact Pl.readHead_sf _ _ _ (by decide) (by decide) hcT hf
 have hB2:T2.extract (RH T2).body T2.size=T.extract (RH T).body T.size:=by
  rw[hR2]
  apply ba_eq
  rw[Lib.extract_to_end,Lib.extract_to_end,hd2,Pl.drop_sf]
 have hF:(RH T).fields=(sgName.data.toList,(sgValue msg d s A.toNat B.toNat M h b).data.toList)::(RH msg).fields:=by rw[hR]
 refine⟨hz2,by rw[hR2],by rw[hR2];exact List.cons_ne_nil _ _,?_,fun K bt=>?_⟩
 ·rw[hB2,hR2]
  simp only
  rw[hF]
  refine(sgAns_second _ _ (zzN.data.toList,zzV.data.toList) (sgName.data.toList,(sgValue msg d s A.toNat B.toNat M h b).data.toList) (RH msg).fields nm_zz nm_own).trans ?_
  show some (ansOf [⟨d,s,A,B⟩] (T.extract (RH T).body T.size) ⟨sgName.data.toList.toArray⟩ ⟨(sgValue msg d s A.toNat B.toNat M h b).data.toList.toArray⟩ ((zzN,zzV)::toBA (RH msg).fields))=_
  rw[baBack,baBack,own_ansR msg d s A B M h b g1 _ 0 (.inl ⟨rfl,rfl⟩) _ (by rw[hB];rfl) _ (tkL_ahead h (zzN,zzV) M (toBA (RH msg).fields) fun m hm=>nmZ m _ (hZ m hm))]
 ·rw[hR2]
  exact sgAns_len_ahead _ K _ bt (zzN.data.toList,zzV.data.toList) (RH T).fields nm_zz (RH T).fields.length (Nat.le_refl _)
theorem sign_size (msg d s:ByteArray)(A B:Int)(M:List ByteArray)(h b:Int)(hne:plSign msg d s A B M h b≠⟨#[]⟩):(plSign msg d s A B M h b).size≤msg.size+4012:=by
 obtain⟨h1,h2,h3,h4,h5,h6,h7⟩:=sign_form msg d s A B M h b hne
 obtain⟨u1,u2,⟨A',rfl,ga,ga2⟩,⟨B',rfl,gb,gb2⟩,u3⟩:=signer_parts d s A B M h b h1
 have hv:=(own_value msg d s A' B' M h b h1).2.2.2
 have e1:(plSign msg d s A' B' M h b).data.toList.length=(plSign msg d s A' B' M h b).size:=by simp
 have e2:msg.data.toList.length=msg.size:=by simp
 have e3:(sgValue msg d s A' B' M h b).data.toList.length=(sgValue msg d s A' B' M h b).size:=by simp
 rw[← e1,h6,List.length_append,e2,Int.toNat_natCast,Int.toNat_natCast]
 unfold Pl.lineL
 simp only[List.length_append,List.length_cons,List.length_nil,e3]
 show 9+_+_≤_
 omega
end Sn
end Go.Proofs.YtacaoiedcfelcaaGreatDoor
