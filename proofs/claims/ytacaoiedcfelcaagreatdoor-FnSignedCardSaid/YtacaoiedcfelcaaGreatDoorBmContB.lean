import Derived.Test.YtacaoiedcfelcaaGreatDoorBmValB
import Derived.Test.YtacaoiedcfelcaaGreatDoorOwnF
import Derived.Test.YtacaoiedcfelcaaGreatDoorWriteBox
import Derived.Deep.CutBlock
import Derived.Deep.DeepCutAuto
import Derived.Deep.Cut
import Derived.Test.YtacaoiedcfelcaaGreatDoorCells
import Derived.Test.YtacaoiedcfelcaaGreatDoorScan
import Derived.Test.YtacaoiedcfelcaaGreatDoorBmMem
set_option maxRecDepth 20000
set_option maxHeartbeats 8000000
namespace Go.Proofs.YtacaoiedcfelcaaGreatDoor
open Go.RowKit Go.Lib
abbrev ct (T S:ByteArray)(o:Option Addr)(n cap:Nat):Value:=.agg #[.string T,.string S,.slice o n cap]
namespace Bm
def BxW (w:World)(cs:Array Value)(t:TypeId)(wr:World):Prop:=wr.heap[w.heap.size]?=some (.cells cs t (0,0))∧Below w.heap.size w wr
theorem BxW.new (w:World)(cs:Array Value)(t:TypeId):BxW w cs t (w.alloc (.cells cs t)):=⟨heap_alloc_at _ _,(Below.refl _ _).alloc (Nat.le_refl _) _⟩
theorem BxW.on {w wr w2:World} {cs:Array Value} {t:TypeId} (h:BxW w cs t wr)(hb:Below wr.heap.size wr w2):BxW w cs t w2:=⟨(hb.block _ (heap_lt h.1)).trans h.1,h.2.trans (hb.mono h.2.size)⟩
theorem BxW.cell {w wr:World} {cs:Array Value} {t:TypeId} (h:BxW w cs t wr)(j:Nat):wr.cell? ⟨w.heap.size,j,none⟩=cs[j]?:=by simp[World.cell?,h.1]
theorem wFault (T S:ByteArray)(o:Option Addr)(F:List Fd)(cap:Nat)(w:World)(hT:T.size≤100000)(hS:S.size≤100000)(hF:Fld w.heap.size w o F)(hlen:F.length≤1000)(hsz:∀f ∈ F,f.1.size≤1000∧f.2.size≤1000) :
  Calls Tryz.prog 175 #[ct T S o F.length cap] w fun e w'=>∃ x:Int,e=.returned (.int .i64 x)∧Below w.heap.size w w':=by
 obtain⟨CS,hCS⟩:∃cs:Array Value,cs=#[.string T,.string S,.slice o F.length cap]:=⟨_,rfl⟩
 have B0:Hid (BxW w CS 141 (w.alloc (.cells #[.string T,.string S,.slice o F.length cap] 141))):=by rw[← hCS];exact BxW.new _ _ _
 have hC0:Hid (CS[0]?=some (.string T)):=by rw[hCS];rfl
 have hC1:Hid (CS[1]?=some (.string S)):=by rw[hCS];rfl
 have hC2:Hid (CS[2]?=some (.slice o F.length cap)):=by rw[hCS];rfl
 have HF:=mkHid hF
 have HSz:=mkHid hsz
 clear hCS hF hsz
 go_enter Tryz.func175,Tryz.ntmps175
 go_upto_region 1 with fail
 generalize w.alloc (.cells #[.string T,.string S,.slice o F.length cap] 141)=W0 at B0 ⊢
 go_cut [25] from 3 (fun s wc=>∃ b:Bool,s=.bool b∧Hid (BxW w CS 141 wc))
 case first=>
  have cT:=mkHid (fun W=>wWord T W hT)
  have cS:=mkHid (fun W=>wWord S W hS)
  have q0:=(B0.out.cell 0).trans hC0.out
  go_wp2_with fail
  refine(cT.out _).mono ?_
  rintro e w1 ⟨b1,rfl,hb1⟩
  have B1:=mkHid (B0.out.on hb1)
  clear hb1 B0 q0 cT
  have q1:=(B1.out.cell 1).trans hC1.out
  have q2:=(B1.out.cell 2).trans hC2.out
  cases b1
  ·go_wp2
   go_meet
   case rel=>exact⟨_,rfl,B1⟩
  ·by_cases h0:S.size=0
   ·have hE:=isEmpty_of S h0
    go_wp2
    go_meet
    case rel=>exact⟨_,rfl,B1⟩
   ·have hE:=isEmpty_ne S h0
    go_wp2_with fail
    refine(cS.out _).mono ?_
    rintro e w2 ⟨b2,rfl,hb2⟩
    have B2:=mkHid (B1.out.on hb2)
    clear hb2 B1 q1 q2 cS
    have q2:=(B2.out.cell 2).trans hC2.out
    cases b2
    all_goals
     go_wp2
     go_meet
     case rel=>exact⟨_,rfl,B2⟩
 case rest=>
  clear B0
  obtain⟨b,rfl,B1⟩:=hcut
  cases b
  ·go_wp2
   go_loopw [3] (fun i wr=>∃ k:Nat,k≤F.length∧i=.int .i64 k∧Hid (BxW w CS 141 wr)) (fun i _=>F.length-(Lib.intOf i).toNat)
   case atStart=>exact⟨0,Nat.zero_le _,rfl,B1⟩
   case round=>
    clear B1
    obtain⟨k,hk,rfl,B1⟩:=hrel
    have q2:=(B1.out.cell 2).trans hC2.out
    by_cases hlt:k<F.length
    ·go_upto_region 6 with fail
     go_cut [50] from 26 (fun s wc=>∃ b:Bool,s=.bool b∧Hid (BxW w CS 141 wc))
     case first=>
      obtain⟨a,rfl,ha,hc0,hc1⟩:=(HF.out.below B1.out.2) k hlt
      obtain⟨hz0,hz1⟩:=HSz.out F[k] (List.getElem_mem _)
      generalize F[k]=f at *
      have cW:=mkHid (fun W=>wWord f.1 W (by omega))
      have cG:=mkHid (fun W=>wGood f.2 W)
      go_wp2_with fail
      refine(cW.out _).mono ?_
      rintro e w2 ⟨b1,rfl,hb1⟩
      have B2:=mkHid (B1.out.on hb1)
      clear q2
      have q2:=(B2.out.cell 2).trans hC2.out
      have hd1:=(hb1.cell (p:=⟨(a.add (k*2)).block,(a.add (k*2)).off+1,none⟩) (World.block_lt_of_cell? _ _ hc1)).trans hc1
      clear hb1 B1 cW hc0 hc1
      cases b1
      ·go_wp2
       go_meet
       case rel=>exact⟨_,rfl,B2⟩
      ·go_wp2_with fail
       refine(cG.out _).mono ?_
       rintro e w3 ⟨b2,rfl,hb2⟩
       have B3:=mkHid (B2.out.on hb2)
       clear hb2 B2 q2 cG hd1
       cases b2
       all_goals
        go_wp2
        go_meet
        case rel=>exact⟨_,rfl,B3⟩
     case rest=>
      clear q2 B1
      obtain⟨b,rfl,B1⟩:=hcut
      cases b
      ·go_wp2
       go_loopw [4] (fun i wr2=>∃ j:Nat,j≤k∧i=.int .i64 j∧Hid (BxW w CS 141 wr2)) (fun i _=>k-(Lib.intOf i).toNat)
       case atStart=>exact⟨0,Nat.zero_le _,rfl,B1⟩
       case round=>
        clear B1
        obtain⟨j,hj,rfl,B1⟩:=hrel
        by_cases hjk:j<k
        ·have hjl:j<F.length:=by omega
         have q2:=(B1.out.cell 2).trans hC2.out
         obtain⟨a1,ea1,ha1,hd0,hd1⟩:=(HF.out.below B1.out.2) j hjl
         obtain⟨a2,ea2,ha2,he0,he1⟩:=(HF.out.below B1.out.2) k hlt
         subst ea1
         cases ea2
         generalize F[j]=g at *
         generalize F[k]=f at *
         have k2:=cell_regrown q2
         have k3:=cell_regrown hd0
         have k4:=cell_regrown he0
         have i1:(j:Int)<(F.length:Int):=by omega
         have i2:(k:Int)<(F.length:Int):=by omega
         clear hd1 he1
         obtain⟨g1,g2⟩:=g
         obtain⟨f1,f2⟩:=f
         simp only at *
         cases hE:(g1.toList==f1.toList)
         all_goals
          go_wp2
          refine wp_region_quiet_below (by kernel_rfl) (by kernel_rfl) ?_
          repeat (quiet_step (fail))
          refine wpQuiet_nil ?_
          rintro _ ⟨⟨dq,osq⟩,rfl⟩
          have B2:=mkHid (B1.out.on (below_regrown wr dq osq))
          clear B1 q2 k2 k3 k4 hd0 he0
          go_wp2
          first
           | (go_roundw
              case rel=>exact⟨j+1,by omega,by go_num,B2⟩
              case measure=>simp[Lib.intOf];omega)
           | (go_ret
              exact⟨_,rfl,B2.out.2⟩)
        ·obtain rfl:j=k:=by omega
         go_wp2
         go_roundw
         case rel=>exact⟨j+1,by omega,by go_num,B1⟩
         case measure=>simp[Lib.intOf];omega
      ·go_wp2
       go_ret
       exact⟨_,rfl,B1.out.2⟩
    ·go_wp2
     go_ret
     exact⟨_,rfl,B1.out.2⟩
  ·go_wp2
   go_ret
   exact⟨_,rfl,B1.out.2⟩
end Bm
namespace Bm
theorem wDec (n:Nat)(h:n<1000000):∃t:ByteArray,t.size≤6∧t=⟨(decDigits n).toArray⟩:=⟨_,by have:=dec_len10 5 n (by simpa using h);show(decDigits n).toArray.size≤6;simpa using this,rfl⟩
end Bm
namespace Bm
theorem retQ (w wr:World)(tmps:Array Value)(b:Bool)(t:ByteArray)(p0:Nat)(hp0:Tryz.f127.results=#[.cell p0 147])(hp:tmps.getD p0 undef=.pointer (some ⟨w.heap.size+1,0,none⟩)) {old:Array Value} (hres:wr.heap[w.heap.size+1]?=some (.cells old 147 (0,0)))(hb:Below w.heap.size w wr) :
  bodyPost Tryz.prog Tryz.f127 (fun e w'=>∃ (b:Bool) (t:ByteArray),e=.returned (.agg #[.bool b,.string t])∧Below w.heap.size w w') Exit.ret { tmps:=tmps,defers:=[] } (wr.setRow (w.heap.size+1) #[.bool b,.string t]):=by
 refine bodyPost_ret (v:=.agg #[.bool b,.string t]) (results_cell_row hp0 _ _ (w.heap.size+1) 147 _ (0,0) _ hp (setRow_heap _ _ _ _ _ _ hres) Tryz.underlying147 rfl ?_) rfl ⟨b,t,rfl,hb.grown (grown_setRow _ _ _) hb.size (fun j hj=>by cases hj;exact Nat.le_succ _)⟩
 kernel_rfl
theorem wParamOf (T S m:ByteArray)(o:Option Addr)(F:List Fd)(cap:Nat)(w:World)(hF:Fld w.heap.size w o F)(hlen:F.length≤200) :
  Calls Tryz.prog 127 #[ct T S o F.length cap,.string m] w fun e w'=>∃ (b:Bool) (t:ByteArray),e=.returned (.agg #[.bool b,.string t])∧Below w.heap.size w w':=by
 obtain⟨W0,hW0⟩:∃V,V=w.alloc (.cells #[.string T,.string S,.slice o F.length cap] 141):=⟨_,rfl⟩
 obtain⟨W1,hW1⟩:∃V,V=W0.alloc (.cells #[.bool false,.string ⟨#[]⟩] 147):=⟨_,rfl⟩
 have b0:Below w.heap.size w W0:=by rw[hW0];exact(Below.refl _ _).alloc (Nat.le_refl _) _
 have s0:W0.heap.size=w.heap.size+1:=by rw[hW0];simp
 have r0:W0.heap[w.heap.size]?=some (.cells #[.string T,.string S,.slice o F.length cap] 141 (0,0)):=by rw[hW0];exact heap_alloc_at _ _
 have b1:Below W0.heap.size W0 W1:=by rw[hW1];exact(Below.refl _ _).alloc (Nat.le_refl _) _
 have r1:W1.heap[w.heap.size+1]?=some (.cells #[.bool false,.string ⟨#[]⟩] 147 (0,0)):=by rw[← s0,hW1];exact heap_alloc_at _ _
 have q2:W1.cell? ⟨w.heap.size,2,none⟩=some (.slice o F.length cap):=by
  have:=(b1.block _ (show w.heap.size<W0.heap.size by omega)).trans r0
  simp[World.cell?,this]
 have HB:=mkHid (b0.trans (b1.mono b0.size))
 have HF:=mkHid ((hF.below HB.out).mono HB.out.size)
 have HR:=mkHid r1
 have HW:=mkHid hW1
 rw[hW0] at HW
 clear hW0 hW1 b0 s0 r0 b1 r1 hF
 go_enter Tryz.func127,Tryz.ntmps127
 go_upto_region 1 with fail
 rw[← HW.out]
 clear HW
 go_wp2
 go_loopw [5] (fun i wr=>∃ k:Nat,k≤F.length∧i=.int .i64 k∧wr=W1) (fun i _=>F.length-(Lib.intOf i).toNat)
 case atStart=>exact⟨0,Nat.zero_le _,rfl,rfl⟩
 case round=>
  obtain⟨k,hk,rfl,rfl⟩:=hrel
  by_cases hlt:k<F.length
  ·obtain⟨a,rfl,ha,hc0,hc1⟩:=HF.out k hlt
   generalize F[k]=f at *
   obtain⟨f1,f2⟩:=f
   simp only at *
   cases hE:(f1.toList==m.toList)
   ·go_wp2
    go_roundw
    case rel=>exact⟨k+1,by omega,by go_num,trivial⟩
    case measure=>simp[Lib.intOf];omega
   ·go_wp2_with (first|(refine wpL_store_row rfl 147 _ _ rfl (w.heap.size+1) #[.bool true,.string f2] rfl rfl 147 _ HR.out (by kernel_rfl) rfl (by simp[Value.oneCell']) ?_)|go_in)
    exact retQ _ _ _ _ _ 4 Tryz.results127 rfl HR.out HB.out
  ·go_wp2_with (first|(refine wpL_store_row rfl 147 _ _ rfl (w.heap.size+1) #[.bool false,.string ⟨#[]⟩] rfl rfl 147 _ HR.out (by kernel_rfl) rfl (by simp[Value.oneCell']) ?_)|go_in)
   exact retQ _ _ _ _ _ 4 Tryz.results127 rfl HR.out HB.out
def MdIn (gL:Nat)(w:World)(E:List MdE):Prop:=gL<w.heap.size∧∀j (hj:j<E.length),(w.cell? ⟨gL,j*6,none⟩=some (.int .i64 E[j].1.dep)∧w.cell? ⟨gL,j*6+1,none⟩=some (.string E[j].1.ty)∧w.cell? ⟨gL,j*6+2,none⟩=some (.string E[j].1.su)∧w.cell? ⟨gL,j*6+3,none⟩=some E[j].2∧w.cell? ⟨gL,j*6+4,none⟩=some (.int .i64 E[j].1.cd)∧w.cell? ⟨gL,j*6+5,none⟩=some (.string E[j].1.da))∧∃oq cq,E[j].2=.slice oq E[j].1.P.length cq∧Fld w.heap.size w oq E[j].1.P
theorem MdIn.below {gL:Nat} {w w':World} {E:List MdE} (h:MdIn gL w E)(hb:Below w.heap.size w w'):MdIn gL w' E:=by
 refine⟨Nat.lt_of_lt_of_le h.1 hb.size,fun j hj=>?_⟩
 obtain⟨⟨c0,c1,c2,c3,c4,c5⟩,oq,cq,e,hF⟩:=h.2 j hj
 have k:=fun q=>hb.cell (p:=⟨gL,q,none⟩) h.1
 exact⟨⟨(k _).trans c0,(k _).trans c1,(k _).trans c2,(k _).trans c3,(k _).trans c4,(k _).trans c5⟩,oq,cq,e,(hF.below hb).mono hb.size⟩
theorem wUntil (gL cap:Nat)(E:List MdE)(i:Nat)(w:World)(hE:MdIn gL w E)(hl:E.length≤1000)(hi:i<E.length) :
  Calls Tryz.prog 126 #[.slice (some ⟨gL,0,none⟩) E.length cap,.int .i64 i] w fun e w'=>∃ k:Nat,e=.returned (.int .i64 k)∧i<k∧k≤E.length∧Below w.heap.size w w':=by
 have HE:=mkHid hE
 clear hE
 go_enter Tryz.func126,Tryz.ntmps126
 go_wp2
 go_loopw [5] (fun v wr=>∃ k:Nat,i<k∧k≤E.length∧v=.int .i64 k∧Hid (Below w.heap.size w wr)) (fun v _=>E.length-(Lib.intOf v).toNat)
 case atStart=>exact⟨i+1,by omega,by omega,by go_num,Below.refl _ _⟩
 case round=>
  obtain⟨k,hk1,hk2,rfl,HB⟩:=hrel
  by_cases hlt:k<E.length
  ·have hM:=HE.out.below HB.out
   have hgl:=hM.1
   obtain⟨⟨c0,-⟩,-⟩:=hM.2 k hlt
   obtain⟨⟨d0,-⟩,-⟩:=hM.2 i hi
   generalize E[k].1.dep=dk at *
   generalize E[i].1.dep=di at *
   clear hM
   have k0:=cell_regrown c0
   have k1:=cell_regrown d0
   have i1:(k:Int)<(E.length:Int):=by omega
   have i2:(i:Int)<(E.length:Int):=by omega
   by_cases hgt:di<dk
   all_goals
    go_wp2
    refine wp_region_quiet_below (by kernel_rfl) (by kernel_rfl) ?_
    repeat (quiet_step (fail))
    refine wpQuiet_nil ?_
    rintro _ ⟨⟨dq,osq⟩,rfl⟩
    have HB2:=mkHid (HB.out.trans ((below_regrown wr dq osq).mono HB.out.size))
    clear HB k0 k1 c0 d0
    go_wp2
    first
     | (go_roundw
        case rel=>exact⟨k+1,by omega,by omega,by go_num,HB2⟩
        case measure=>simp[Lib.intOf];omega)
     | (go_ret
        exact⟨k,rfl,hk1,hk2,HB2.out⟩)
  ·obtain rfl:k=E.length:=by omega
   have HB2:=mkHid (HB.out.trans ((Below.refl wr.heap.size wr).drew.mono HB.out.size))
   go_wp2
   ·refine wp_region_any (by kernel_rfl) ?_
    refine wpAny_take (i:=0) (v:=.int .i64 (E.length:Int)) rfl (by kernel_rfl) (by kernel_rfl) (by kernel_rfl) (fun _ _ _ h=>h) (Or.inl ⟨by rfl,?_⟩) ?_
    ·intro w
     go_simp
    go_simp
    refine wpAny_take (i:=1) (v:=.slice (some ⟨gL,0,none⟩) E.length cap) rfl (by kernel_rfl) (by kernel_rfl) (by kernel_rfl) (fun _ _ _ h=>h) (Or.inl ⟨by rfl,?_⟩) ?_
    ·intro w
     go_simp
    go_simp
    refine wpAny_take (i:=2) (v:=.int .i64 (E.length:Int)) rfl (by kernel_rfl) (by kernel_rfl) (by kernel_rfl) (fun _ _ _ h=>h) (Or.inl ⟨by rfl,?_⟩) ?_
    ·intro w
     go_simp
    go_simp
    refine wpAny_take (i:=3) (v:=.bool false) rfl (by kernel_rfl) (by kernel_rfl) (by kernel_rfl) (fun _ _ _ h=>h) (Or.inl ⟨by rfl,?_⟩) ?_
    ·intro w
     go_simp
    go_simp
    refine wpAny_take (i:=4) (v:=.bool false) rfl (by kernel_rfl) (by kernel_rfl) (by kernel_rfl) (fun _ _ _ h=>h) (Or.inl ⟨by rfl,?_⟩) ?_
    ·intro w
     go_simp
    go_simp
    refine wpAny_take (i:=5) (v:=undef) rfl (by kernel_rfl) (by kernel_rfl) (by kernel_rfl) (fun _ _ _ h=>h) (Or.inr ⟨by kernel_rfl,rfl⟩) ?_
    go_simp
    refine wpAny_take (i:=6) (v:=undef) rfl (by kernel_rfl) (by kernel_rfl) (by kernel_rfl) (fun _ _ _ h=>h) (Or.inr ⟨by kernel_rfl,rfl⟩) ?_
    go_simp
    refine wpAny_take (i:=7) (v:=undef) rfl (by kernel_rfl) (by kernel_rfl) (by kernel_rfl) (fun _ _ _ h=>h) (Or.inr ⟨by kernel_rfl,rfl⟩) ?_
    go_simp
    refine wpAny_take (i:=8) (v:=undef) rfl (by kernel_rfl) (by kernel_rfl) (by kernel_rfl) (fun _ _ _ h=>h) (Or.inr ⟨by kernel_rfl,rfl⟩) ?_
    go_simp
    refine wpAny_take (i:=9) (v:=undef) rfl (by kernel_rfl) (by kernel_rfl) (by kernel_rfl) (fun _ _ _ h=>h) (Or.inr ⟨by kernel_rfl,rfl⟩) ?_
    go_simp
    refine wpAny_take (i:=10) (v:=undef) rfl (by kernel_rfl) (by kernel_rfl) (by kernel_rfl) (fun _ _ _ h=>h) (Or.inr ⟨by kernel_rfl,rfl⟩) ?_
    go_simp
    refine wpAny_take (i:=11) (v:=undef) rfl (by kernel_rfl) (by kernel_rfl) (by kernel_rfl) (fun _ _ _ h=>h) (Or.inr ⟨by kernel_rfl,rfl⟩) ?_
    go_simp
    refine wpAny_take (i:=12) (v:=undef) rfl (by kernel_rfl) (by kernel_rfl) (by kernel_rfl) (fun _ _ _ h=>h) (Or.inr ⟨by kernel_rfl,rfl⟩) ?_
    go_simp
    refine wpAny_take (i:=13) (v:=undef) rfl (by kernel_rfl) (by kernel_rfl) (by kernel_rfl) (fun _ _ _ h=>h) (Or.inr ⟨by kernel_rfl,rfl⟩) ?_
    go_simp
    refine wpAny_take (i:=14) (v:=undef) rfl (by kernel_rfl) (by kernel_rfl) (by kernel_rfl) (fun _ _ _ h=>h) (Or.inr ⟨by kernel_rfl,rfl⟩) ?_
    go_simp
    refine wpAny_take (i:=15) (v:=undef) rfl (by kernel_rfl) (by kernel_rfl) (by kernel_rfl) (fun _ _ _ h=>h) (Or.inr ⟨by kernel_rfl,rfl⟩) ?_
    go_simp
    refine wpAny_take (i:=16) (v:=.bool false) rfl (by kernel_rfl) (by kernel_rfl) (by kernel_rfl) (fun _ _ _ h=>h) (Or.inl ⟨by rfl,?_⟩) ?_
    ·intro w
     go_simp
    go_simp
    refine wpAny_done (by kernel_rfl) ?_ _
    go_simp
    go_wp2
    go_ret
    exact⟨E.length,rfl,hk1,hk2,HB2.out⟩
end Bm
namespace Bm
set_option maxRecDepth 100000 in
theorem wParamB (name value:ByteArray)(w:World)(hn:name.size≤9)(hv:value.size≤160) :
  Calls Tryz.prog 176 #[.agg #[.string name,.string value]] w fun e w'=>∃ t:ByteArray,e=.returned (.string t)∧2*t.size≤9*value.size+80∧Below w.heap.size w w':=by
 obtain⟨CS,hCS⟩:∃cs:Array Value,cs=#[.string name,.string value]:=⟨_,rfl⟩
 have B0:Hid (BxW w CS 180 (w.alloc (.cells #[.string name,.string value] 180))):=by rw[← hCS];exact BxW.new _ _ _
 have hC0:Hid (CS[0]?=some (.string name)):=by rw[hCS];rfl
 have hC1:Hid (CS[1]?=some (.string value)):=by rw[hCS];rfl
 have cB:=mkHid (fun W=>wBare value W (by omega))
 clear hCS
 go_enter Tryz.func176,Tryz.ntmps176
 go_upto_region 1 with fail
 generalize w.alloc (.cells #[.string name,.string value] 180)=W0 at B0 ⊢
 have q1:=(B0.out.cell 1).trans hC1.out
 go_wp2_with fail
 refine(cB.out _).mono ?_
 rintro e w1 ⟨b1,rfl,hb1⟩
 have B1:=mkHid (B0.out.on hb1)
 clear hb1 B0 q1 cB
 have q0:=(B1.out.cell 0).trans hC0.out
 cases b1
 case true=>
  go_wp2
  go_ret
  exact⟨_,rfl,by simp only[ByteArray.size_append];show 2*(2+name.size+1+value.size)≤_;omega,B1.out.2⟩
 case false=>
  clear q0
  go_wp2
  go_loopw [4,5,6] (fun pl al i wr=>∃ (k m:Nat) (A:Bool),k≤value.size∧i=.int .i64 k∧pl=.bool A∧al=.int .i64 m∧m≤3*k∧Hid (BxW w CS 180 wr)) (fun _ _ i _=>value.size-(Lib.intOf i).toNat)
  case atStart=>exact⟨0,0,true,Nat.zero_le _,rfl,rfl,rfl,by omega,B1⟩
  case round=>
   clear B1
   obtain⟨k,m,A,hk,rfl,rfl,rfl,hm,B1⟩:=hrel
   by_cases hlt:k<value.size
   ·have h8:value[k].toNat<256:=UInt8.toNat_lt _
    have cC:=mkHid (fun W=>wCode value[k] W)
    generalize hsk:value[k]=c at *
    go_upto_region 9 with fail
    go_cut [4] from 200 (fun s wc=>∃ b:Bool,s=.bool b∧wc=wr)
    case first=>
     cases A
     ·go_wp2
      go_meet
      case rel=>exact⟨_,rfl,rfl⟩
     ·by_cases h1:32≤c.toNat
      ·by_cases h2:c.toNat≤126
       ·go_wp2
        go_meet
        case rel=>exact⟨_,rfl,rfl⟩
       ·go_wp2
        go_meet
        case rel=>exact⟨_,rfl,rfl⟩
      ·go_wp2
       go_meet
       case rel=>exact⟨_,rfl,rfl⟩
    case rest=>
     obtain⟨b,rfl,rfl⟩:=hcut
     go_wp2_with fail
     refine(cC.out _).mono ?_
     rintro e w3 ⟨t,rfl,ht,hb3⟩
     have B3:=mkHid (B1.out.on hb3)
     clear hb3 B1 cC
     go_wp2
     go_roundw
     case rel=>exact⟨k+1,m+t.size,b,by omega,by go_num,rfl,by first|rfl|go_num|(congr 1;omega),by omega,B3⟩
     case measure=>simp[Lib.intOf];omega
   ·have q0:=(B1.out.cell 0).trans hC0.out
    cases A
    ·by_cases h60:m≤60
     ·have hdm:decide ((m:Int)≤60)=true:=by simp;omega
      go_wp2
      go_loopw [7,8] (fun out i wr=>∃ (k:Nat) (q:ByteArray),k≤value.size∧i=.int .i64 k∧out=.string q∧q.size≤20+3*k∧Hid (Below w.heap.size w wr)) (fun _ i _=>value.size-(Lib.intOf i).toNat)
      case atStart=>
       exact⟨0,_,Nat.zero_le _,rfl,rfl,by simp only[ByteArray.size_append];show 2+name.size+9≤_;omega,B1.out.2⟩
      case round=>
       clear q0 B1 hm h60 hdm
       obtain⟨k2,q,hk2,rfl,rfl,hql,hB3⟩:=hrel
       by_cases hlt2:k2<value.size
       ·have h8:value[k2].toNat<256:=UInt8.toNat_lt _
        have cC:=mkHid (fun W=>wCode value[k2] W)
        generalize hsk:value[k2]=c at *
        go_wp2_with fail
        refine(cC.out _).mono ?_
        rintro e w3 ⟨t,rfl,ht,hb3⟩
        have hB4:=mkHid (hB3.out.trans (hb3.mono hB3.out.size))
        clear hb3 cC hB3
        go_wp2
        go_roundw
        case rel=>exact⟨k2+1,q++t,by omega,by go_num,rfl,by rw[ByteArray.size_append];omega,hB4⟩
        case measure=>simp[Lib.intOf];omega
       ·go_wp2
        go_ret
        exact⟨_,rfl,by omega,hB3.out⟩
     ·have hdm:decide ((m:Int)≤60)=false:=by simp;omega
      clear q0
      go_wp2
      go_loopw [9,10,11,12] (fun out pc kk i wr=>∃ (k n:Nat) (q piece:ByteArray),i=.int .i64 k∧kk=.int .i64 n∧out=.string q∧pc=.string piece∧k≤value.size+1∧n≤k∧piece.size≤3*k∧2*q.size+3*piece.size≤9*k+60*(k-value.size)∧Hid (BxW w CS 180 wr)) (fun _ _ _ i _=>value.size+2-(Lib.intOf i).toNat)
      case atStart=>exact⟨0,0,⟨#[]⟩,⟨#[]⟩,rfl,rfl,rfl,rfl,by omega,by omega,by show 0≤_;omega,by show 2*0+3*0≤_;omega,B1⟩
      case round=>
       clear B1 hm h60 hdm
       obtain⟨k3,n,q,piece,rfl,rfl,rfl,rfl,hk3,hn3,hp3,hq3,B1⟩:=hrel
       by_cases hle:k3≤value.size
       ·go_upto_region 27 with fail
        go_cut [86] from 200 (fun s wx=>∃ b:Bool,s=.bool b∧Hid (b=true→k3<value.size)∧wx=wr)
        case first=>
         clear B1
         by_cases hlt3:k3<value.size
         ·go_wp2
          go_meet
          case rel=>exact⟨_,rfl,fun _=>hlt3,rfl⟩
         ·go_wp2
          go_meet
          case rel=>exact⟨false,rfl,(fun h=>by cases h),rfl⟩
        case' rest=>obtain⟨D,rfl,hD,rfl⟩:=hcut
        go_upto_if 86 with fail
        go_cut [13] from 200 (fun s wc=>∃ mo:ByteArray,s=.string mo∧mo.size≤3∧Hid (BxW w CS 180 wc))
        case first=>
         cases D
         case' true=>
          have hlt3:k3<value.size:=hD.out rfl
          clear hD
         case' false=>clear hD
         case true=>
          have h8:value[k3].toNat<256:=UInt8.toNat_lt _
          have cC:=mkHid (fun W=>wCode value[k3] W)
          generalize hsk:value[k3]=c at *
          go_wp2_with fail
          refine(cC.out _).mono ?_
          rintro e w3 ⟨t,rfl,ht,hb3⟩
          have B3:=mkHid (B1.out.on hb3)
          clear hb3 cC B1
          go_wp2
          go_meet
          case rel=>exact⟨t,rfl,ht,B3⟩
         case false=>
          go_wp2
          go_meet
          case rel=>exact⟨⟨#[]⟩,rfl,by show 0≤3;omega,B1⟩
        case rest=>
         clear B1 hD
         obtain⟨mo,rfl,hmo,B1⟩:=hcut
         go_upto_region 29 with fail
         go_cut [102] from 200 (fun s wx=>∃ b:Bool,s=.bool b∧Hid (b=true→k3=value.size∨60<piece.size+mo.size)∧wx=wc)
         case first=>
          by_cases he:k3=value.size
          ·have he1:((k3:Int)==(value.size:Int))=true:=by simp[he]
           have HE:=mkHid he
           clear he
           go_wp2
           go_meet
           case rel=>exact⟨_,rfl,fun _=>.inl HE.out,rfl⟩
          ·have he1:((k3:Int)==(value.size:Int))=false:=by simp;omega
           by_cases hex:60<piece.size+mo.size
           ·have hex2:(60:Int)<(piece.size:Int)+(mo.size:Int):=by omega
            have HEX:=mkHid hex
            clear he hex
            go_wp2
            go_meet
            case rel=>exact⟨_,rfl,fun _=>.inr HEX.out,rfl⟩
           ·have hex2:¬(60:Int)<(piece.size:Int)+(mo.size:Int):=by omega
            clear he
            go_wp2
            go_meet
            case rel=>exact⟨false,rfl,(fun h=>by cases h),rfl⟩
         case rest=>
          obtain⟨b,rfl,hbt,rfl⟩:=hcut
          go_upto_if 102 with fail
          go_cut [9,10,11] from 200 (fun s9 s10 s11 wy=>∃ (q2 p2:ByteArray) (n2:Nat),s9=.string q2∧s10=.string p2∧s11=.int .i64 n2∧2*q2.size+3*p2.size≤9*k3+60*(k3+1-value.size)∧p2.size≤3*k3∧n2≤k3+1∧Hid (BxW w CS 180 wy))
          case first=>
           cases b
           ·go_wp2
            go_meet
            case rel=>exact⟨q,piece,n,rfl,rfl,rfl,by omega,by omega,by omega,B1⟩
           ·have HOR:Hid (k3=value.size∨60<piece.size+mo.size):=mkHid (hbt.out rfl)
            clear hbt
            have q0:=(B1.out.cell 0).trans hC0.out
            have k0:=cell_regrown q0
            obtain⟨db,hdb,hde⟩:=wDec n (by omega)
            have cD:∀d os,Calls Tryz.prog 73 #[.int .i64 n] (Go.Sort.grow (redrawn wc d) os) fun e w''=>e=.returned (.string db)∧∃p:Regrown,w''=Go.Sort.grow (redrawn wc p.d) p.os:=by
             rw[hde]
             exact fun d os=>Calls.regrown_of (specDec n (by omega) _)
            have n1:¬9223372036854775807<q.size+2:=by omega
            have n2:¬9223372036854775807<q.size+2+name.size:=by omega
            have n3:¬9223372036854775807<q.size+2+name.size+1:=by omega
            have n4:¬9223372036854775807<q.size+2+name.size+1+db.size:=by omega
            have n5:¬9223372036854775807<q.size+2+name.size+1+db.size+2:=by omega
            have n6:¬9223372036854775807<q.size+2+name.size+1+db.size+2+8:=by omega
            clear hde
            go_wp2
            refine wp_region_quiet_below (by kernel_rfl) (by kernel_rfl) ?_
            iterate 7 (quiet_step (fail))
            quiet_step (exact cD _ _)
            repeat (quiet_step (fail))
            refine wpQuiet_nil ?_
            rintro _ ⟨⟨dq,osq⟩,rfl⟩
            have B2:=mkHid (B1.out.on (below_regrown wc dq osq))
            generalize Go.Sort.grow (redrawn wc dq) osq=wq at *
            clear cD k0 q0 B1
            obtain⟨q9,hq9⟩:∃t,t=q++⟨#[59,32]⟩++name++⟨#[42]⟩++db++⟨#[42,61]⟩:=⟨_,rfl⟩
            have hz9:q9.size≤q.size+20:=by
             rw[hq9]
             simp only[ByteArray.size_append]
             show q.size+2+name.size+1+db.size+2≤_
             omega
            rw[← hq9]
            clear hq9 n1 n2 n3 n4 n5 n6
            by_cases hn0:n=0
            ·have hnz:((n:Int)==0)=true:=by simp[hn0]
             clear hn0
             go_wp2
             go_meet
             case rel=>exact⟨_,⟨#[]⟩,n+1,rfl,rfl,by go_num,by have:=HOR.out;simp only[ByteArray.size_append];show 2*(q9.size+7+piece.size)+3*0≤_;omega,by show 0≤_;omega,by omega,B2⟩
            ·have hnz:((n:Int)==0)=false:=by simp;omega
             clear hn0
             go_wp2
             go_meet
             case rel=>exact⟨_,⟨#[]⟩,n+1,rfl,rfl,by go_num,by have:=HOR.out;simp only[ByteArray.size_append];show 2*(q9.size+piece.size)+3*0≤_;omega,by show 0≤_;omega,by omega,B2⟩
          case rest=>
           clear B1
           obtain⟨q2,p2,n2,rfl,rfl,rfl,hq2,hp2,hn2,B2⟩:=hcut
           go_wp2
           go_roundw
           case rel=>exact⟨k3+1,n2,q2,p2++mo,by go_num,rfl,rfl,rfl,by omega,by omega,by rw[ByteArray.size_append];omega,by rw[ByteArray.size_append];omega,B2⟩
           case measure=>simp[Lib.intOf];omega
       ·go_wp2
        go_ret
        exact⟨_,rfl,by omega,B1.out.2⟩
    ·have cQ:=specQuote value
     obtain⟨qb,hqb,hqe⟩:∃t:ByteArray,t.size≤2*value.size+2∧t=⟨(34::Pl.qs value.data.toList ++ [34]).toArray⟩:=⟨_,by
      have:=qs_len value.data.toList
      show(34::Pl.qs value.data.toList ++ [34]).toArray.size≤_
      simp at this ⊢
      omega,rfl⟩
     have cQ:∀d os,Calls Tryz.prog 181 #[.string value] (Go.Sort.grow (redrawn wr d) os) fun e w''=>e=.returned (.string qb)∧∃p:Regrown,w''=Go.Sort.grow (redrawn wr p.d) p.os:=by
      rw[hqe]
      exact fun d os=>Calls.regrown_of (specQuote value _ (by omega))
     have n1:¬9223372036854775807<2+name.size:=by omega
     have n2:¬9223372036854775807<2+name.size+1:=by omega
     have n3:¬9223372036854775807<2+name.size+1+qb.size:=by omega
     have k0:=cell_regrown q0
     clear hqe
     go_wp2
     refine wp_region_quiet_below (by kernel_rfl) (by kernel_rfl) ?_
     iterate 5 (quiet_step (fail))
     quiet_step (exact cQ _ _)
     repeat (quiet_step (fail))
     refine wpQuiet_nil ?_
     rintro _ ⟨⟨dq,osq⟩,rfl⟩
     have B2:=mkHid (B1.out.on (below_regrown wr dq osq))
     clear cQ k0 q0 B1
     go_wp2
     go_ret
     exact⟨_,rfl,by simp only[ByteArray.size_append];show 2*(2+name.size+1+qb.size)≤_;omega,B2.out.2⟩
end Bm
namespace Bm
def pz:List Fd→Nat
 | []=>0
 | f::r=>9*f.2.size+80+pz r
theorem pz_app:∀F G:List Fd,pz (F++G)=pz F+pz G
 | [],G=>by rw[List.nil_append,pz,Nat.zero_add]
 | f::r,G=>by rw[List.cons_append,pz,pz,pz_app r G];omega
theorem pz_step (F:List Fd)(k:Nat)(h:k<F.length):pz (F.take (k+1))=pz (F.take k)+(9*F[k].2.size+80):=by
 rw[List.take_succ_eq_append_getElem h,pz_app]
 rfl
theorem wContentB (T S:ByteArray)(o:Option Addr)(F:List Fd)(cap:Nat)(w:World)(hT:T.size≤100)(hS:S.size≤100)(hF:Fld w.heap.size w o F)(hlen:F.length≤1000)(hsz:∀f ∈ F,f.1.size≤9∧f.2.size≤160) :
  Calls Tryz.prog 125 #[ct T S o F.length cap] w fun e w'=>∃ t:ByteArray,e=.returned (.string t)∧2*t.size≤2*(T.size+1+S.size)+pz F∧Below w.heap.size w w':=by
 obtain⟨CS,hCS⟩:∃cs:Array Value,cs=#[.string T,.string S,.slice o F.length cap]:=⟨_,rfl⟩
 have B0:Hid (BxW w CS 141 (w.alloc (.cells #[.string T,.string S,.slice o F.length cap] 141))):=by rw[← hCS];exact BxW.new _ _ _
 have hC0:Hid (CS[0]?=some (.string T)):=by rw[hCS];rfl
 have hC1:Hid (CS[1]?=some (.string S)):=by rw[hCS];rfl
 have hC2:Hid (CS[2]?=some (.slice o F.length cap)):=by rw[hCS];rfl
 have HF:=mkHid hF
 have HSz:=mkHid hsz
 have cF:=mkHid fun W hF=>wFault T S o F cap W (by omega) (by omega) hF hlen (fun f hf=>by have:=hsz f hf;omega)
 clear hCS hF hsz
 go_enter Tryz.func125,Tryz.ntmps125
 go_upto_region 1 with fail
 generalize w.alloc (.cells #[.string T,.string S,.slice o F.length cap] 141)=W0 at B0 ⊢
 have q0:=(B0.out.cell 0).trans hC0.out
 have q1:=(B0.out.cell 1).trans hC1.out
 have q2:=(B0.out.cell 2).trans hC2.out
 go_wp2_with fail
 refine(cF.out _ ((HF.out.below B0.out.2).mono B0.out.2.size)).mono ?_
 rintro e w1 ⟨x,rfl,hb1⟩
 have B1:=mkHid (B0.out.on hb1)
 clear hb1 B0 q0 q1 q2 cF
 by_cases hx:x=0
 ·have hx1:(x==0)=true:=by simp[hx]
  subst hx
  clear hx1
  have q0:=(B1.out.cell 0).trans hC0.out
  have q1:=(B1.out.cell 1).trans hC1.out
  go_upto_region 4 with fail
  go_cut [12] from 200 (fun s wx=>∃ b:Bool,s=.bool b∧wx=w1)
  case first=>
   by_cases h0:S.size=0
   ·have hE:=isEmpty_of S h0
    go_wp2
    go_meet
    case rel=>exact⟨_,rfl,rfl⟩
   ·have hE:=isEmpty_ne S h0
    go_wp2
    go_meet
    case rel=>exact⟨_,rfl,rfl⟩
  case rest=>
   obtain⟨b,rfl,rfl⟩:=hcut
   go_upto_if 12 with fail
   go_cut [3] from 200 (fun s wx=>∃ q:ByteArray,s=.string q∧q.size≤T.size+1+S.size∧wx=wc)
   case first=>
    cases b
    ·go_wp2
     go_meet
     case rel=>exact⟨_,rfl,by omega,rfl⟩
    ·go_wp2
     go_meet
     case rel=>exact⟨_,rfl,by simp only[ByteArray.size_append];show T.size+1+S.size≤_;omega,rfl⟩
   case rest=>
    obtain⟨q,rfl,hq,rfl⟩:=hcut
    clear q0 q1
    go_wp2
    go_loopw [3,4] (fun out i wr=>∃ (k:Nat) (q:ByteArray),k≤F.length∧i=.int .i64 k∧out=.string q∧q.size≤3000+1000*k∧Hid (2*q.size≤2*(T.size+1+S.size)+pz (F.take k))∧Hid (BxW w CS 141 wr)) (fun _ i _=>F.length-(Lib.intOf i).toNat)
    case atStart=>exact⟨0,q,Nat.zero_le _,rfl,rfl,by omega,(show 2*q.size≤2*(T.size+1+S.size)+0 from by omega),B1⟩
    case round=>
     clear B1 hq
     obtain⟨k,q,hk,rfl,rfl,hq,HQ,B1⟩:=hrel
     have q2:=(B1.out.cell 2).trans hC2.out
     by_cases hlt:k<F.length
     ·have HS:=mkHid (pz_step F k hlt)
      obtain⟨a,rfl,ha,hc0,hc1⟩:=(HF.out.below B1.out.2) k hlt
      obtain⟨hz0,hz1⟩:=HSz.out F[k] (List.getElem_mem _)
      generalize F[k]=f at *
      obtain⟨f1,f2⟩:=f
      simp only at *
      have cP:=mkHid (fun W=>wParamB f1 f2 W hz0 hz1)
      go_wp2_with fail
      refine(cP.out _).mono ?_
      rintro e w3 ⟨t,rfl,ht,hb3⟩
      have B3:=mkHid (B1.out.on hb3)
      clear hb3 cP B1 q2 hc0 hc1
      go_wp2
      go_roundw
      case rel=>exact⟨k+1,q++t,by omega,by go_num,rfl,by rw[ByteArray.size_append];omega,(by
       have e1:pz (F.take (k+1))=pz (F.take k)+(9*f2.size+80):=HS.out
       have e2:=HQ.out
       show 2*(q++t).size≤2*(T.size+1+S.size)+pz (F.take (k+1))
       rw[ByteArray.size_append,e1]
       omega),B3⟩
      case measure=>simp[Lib.intOf];omega
     ·by_cases hbig:100000<q.size
      ·have hb2:(100000:Int)<(q.size:Int):=by omega
       go_wp2
       go_ret
       exact⟨_,rfl,(Nat.zero_le _:2*0≤_),B1.out.2⟩
      ·have hb2:¬(100000:Int)<(q.size:Int):=by omega
       go_wp2
       go_ret
       exact⟨_,rfl,by have e:=HQ.out;rwa [List.take_of_length_le (by omega)] at e,B1.out.2⟩
 ·have hx1:(x==0)=false:=by simp[hx]
  go_wp2
  go_ret
  exact⟨_,rfl,(Nat.zero_le _:2*0≤_),B1.out.2⟩
theorem pz_le:∀F:List Fd,(∀f ∈ F,f.2.size≤160)→pz F≤1520*F.length
 | [],_=>Nat.le_refl _
 | f::r,h=>by
  have h1:=h f (List.mem_cons_self ..)
  have h2:=pz_le r (fun x hx=>h x (List.mem_cons_of_mem _ hx))
  rw[pz,List.length_cons]
  omega
theorem wContent8 (T S:ByteArray)(o:Option Addr)(F:List Fd)(cap:Nat)(w:World)(hT:T.size≤100)(hS:S.size≤100)(hF:Fld w.heap.size w o F)(hlen:F.length≤10)(hsz:∀f ∈ F,f.1.size≤9∧f.2.size≤160) :
  Calls Tryz.prog 125 #[ct T S o F.length cap] w fun e w'=>∃ t:ByteArray,e=.returned (.string t)∧t.size≤8000∧Below w.heap.size w w':=by
 refine(wContentB T S o F cap w hT hS hF (by omega) hsz).mono ?_
 rintro e w' ⟨t,rfl,ht,hb⟩
 have:=pz_le F (fun f hf=>(hsz f hf).2)
 exact⟨t,rfl,by omega,hb⟩
end Bm
end Go.Proofs.YtacaoiedcfelcaaGreatDoor
