import Derived.Test.YtkcajnjledldnaaGreatDoorScoreTable
import Derived.Test.YtkcajnjledldnaaGreatDoorTk
import Derived.Test.YtkcajnjledldnaaGreatDoorSignTests
import Derived.Test.YtkcajnjledldnaaGreatDoorSpecKeyFault
import Derived.Test.YtkcajnjledldnaaGreatDoorGenBase
set_option maxRecDepth 20000
set_option maxHeartbeats 16000000
namespace Go.Proofs.YtkcajnjledldnaaGreatDoor
open Go.RowKit Go.Lib Go.Maps
namespace Sc
theorem okT_within (g b:Int)(F:List Wc):okT g b F=(within g b 1000000 1000000 && (decide (F.length≤1000) && rows g b none F)):=by
 unfold okT within
 simp only[Bool.and_assoc]
theorem okRow_in (g b:Int)(p:Option ByteArray)(c:Wc):okRow g b p c=(word c.word && (within c.good c.bad g b && (!(decide (c.good=0) && decide (c.bad=0)) && less p c.word))):=by
 unfold okRow within
 by_cases h1:0≤c.good
 ·by_cases h2:0≤c.bad
  ·have:(c.good+c.bad==0)=(decide (c.good=0) && decide (c.bad=0)):=by
    by_cases h3:c.good=0
    ·by_cases h4:c.bad=0
     ·simp[h3,h4]
     ·simp[h3,h4]
    ·have:c.good+c.bad≠0:=by omega
     simp[h3,this]
   rw[this]
   cases word c.word<;>cases less p c.word<;>cases (decide (c.good=0) && decide (c.bad=0))<;>simp
  ·simp[h2]
 ·simp[h1]
end Sc
theorem implTable (g b:Int)(o:Option Addr)(F:List Wc)(cap:Nat)(w:World)(hF:Wcs w.heap.size w o F)(hlF:F.length≤1048576)(hfit:∀c ∈ F,c.word.size≤1048576) :
  Calls Tryz.prog 28 #[tbV g b (.slice o F.length cap)] w fun e w'=>e=.returned (.int .i64 (Sc.code (Sc.okT g b F)))∧Below w.heap.size w w':=by
 have HF:=mkHw hF
 have Hfit:=mkHw hfit
 clear hF hfit
 obtain⟨Z,hZ⟩:∃Z,Sc.code (Sc.okT g b F)=Z:=⟨_,rfl⟩
 rw[hZ]
 rw[Sc.okT_within] at hZ
 obtain⟨W,hW⟩:∃W,W=w.alloc (.cells #[.int .i64 g,.int .i64 b,.slice o F.length cap] 48):=⟨_,rfl⟩
 have hbA:Below w.heap.size w W:=by rw[hW];exact(Below.refl _ _).alloc (Nat.le_refl _) _
 have t0:W.cell? ⟨w.heap.size,0,none⟩=some (.int .i64 g):=by rw[hW];simp
 have t1:W.cell? ⟨w.heap.size,1,none⟩=some (.int .i64 b):=by rw[hW];simp
 have t2:W.cell? ⟨w.heap.size,2,none⟩=some (.slice o F.length cap):=by rw[hW];simp
 have hWs:w.heap.size<W.heap.size:=by rw[hW];simp
 have HW:=mkHw hW
 have cC:=mkHw (implTabCounts g b (.slice o F.length cap) W)
 clear hW
 unfold tbV ctV at *
 replace hZ:=mkHw hZ
 go_enter Tryz.func28,Tryz.ntmps28
 go_wp2_with fail
 rw[← HW.out]
 clear HW
 generalize hG:w.heap.size=G at *
 refine cC.out.mono ?_
 rintro e w1 ⟨rfl,hb1⟩
 obtain⟨X,hX⟩:∃X,X=w1.alloc (.cells #[.int .i64 g,.int .i64 b] 127):=⟨_,rfl⟩
 have hbX1:Below w1.heap.size w1 X:=by rw[hX];exact(Below.refl _ _).alloc (Nat.le_refl _) _
 have u0:X.cell? ⟨w1.heap.size,0,none⟩=some (.int .i64 g):=by rw[hX];simp
 have u1:X.cell? ⟨w1.heap.size,1,none⟩=some (.int .i64 b):=by rw[hX];simp
 have hXs:w1.heap.size<X.heap.size:=by rw[hX];simp
 have hbWX:=hb1.trans (hbX1.mono hb1.size)
 have hbwX:=hbA.trans (hbWX.mono (Nat.le_of_lt hWs))
 have HX:=mkHw hX
 clear hX cC
 have cI:=mkHw (implWithin g b 1000000 1000000 X)
 unfold ctV at cI
 go_wp2_with fail
 rw[← HX.out]
 refine cI.out.mono ?_
 rintro e w2 ⟨rfl,hb2⟩
 have hbX2:=hbwX.trans (hb2.mono (by have:=hbwX.size;omega))
 have hGX:G<X.heap.size:=Nat.lt_of_lt_of_le hWs hbWX.size
 have v2:=((hb2.cell (p:=⟨G,2,none⟩) hGX).trans ((hbWX.cell (p:=⟨G,2,none⟩) hWs).trans t2))
 have u0':=(hb2.cell (p:=⟨w1.heap.size,0,none⟩) hXs).trans u0
 have u1':=(hb2.cell (p:=⟨w1.heap.size,1,none⟩) hXs).trans u1
 have hG2:G<w2.heap.size:=Nat.lt_of_lt_of_le hGX hb2.size
 have hH2:w1.heap.size<w2.heap.size:=Nat.lt_of_lt_of_le hXs hb2.size
 clear cI HX u0 u1 t0 t1 t2 hbX1 hbWX hbwX hb1 hb2 hbA hXs hWs hGX
 generalize w1.heap.size=H at *
 clear w1 W X
 cases hI:Sc.within g b 1000000 1000000
 ·have hr:Hid (Z=1):=by rw[hI] at hZ;exact hZ.out.symm
  clear hI hZ
  go_wp2
  go_ret
  rw[hr.out,hG]
  exact⟨rfl,hbX2⟩
 ·by_cases hn:F.length≤1000
  ·have hr:Hid (Sc.code (Sc.rows g b none (F.drop 0))=Z):=by
    rw[hI,decide_eq_true hn] at hZ
    rw[List.drop_zero]
    exact hZ.out
   have x14:decide ((1000:Int)<(F.length:Int))=false:=decide_eq_false (by omega)
   clear hI hZ
   go_wp2
   go_loopw [21] (fun iv wr=>∃ (i:Nat) (p:Option ByteArray),i≤F.length∧iv=.int .i64 i∧Hid (Sc.code (Sc.rows g b p (F.drop i))=Z)∧Hid ((i=0∧p=none)∨∃ (j:Nat) (h:j<F.length),i=j+1∧p=some F[j].word)∧Below w2.heap.size w2 wr) (fun iv _=>F.length-(Lib.intOf iv).toNat)
   case atStart=>exact⟨0,none,Nat.zero_le _,rfl,hr,.inl ⟨rfl,rfl⟩,Below.refl _ _⟩
   case round=>
    clear hr
    obtain⟨i,p,hi,rfl,hz,hp,hb⟩:=hrel
    have hGr:G<wr.heap.size:=Nat.lt_of_lt_of_le hG2 hb.size
    have hHr:H<wr.heap.size:=Nat.lt_of_lt_of_le hH2 hb.size
    have r2:=(hb.cell (p:=⟨G,2,none⟩) hG2).trans v2
    have a0:=(hb.cell (p:=⟨H,0,none⟩) hH2).trans u0'
    have a1:=(hb.cell (p:=⟨H,1,none⟩) hH2).trans u1'
    have hbB:=hbX2.trans (hb.mono (Nat.le_of_lt hG2))
    by_cases hlt:i<F.length
    ·obtain⟨a,rfl,ha,hA⟩:=(HF.out.below hbB) i hlt
     have c0:=hA.c0
     have c1:=hA.c1
     have c2:=hA.c2
     have hz1:=hz.out
     rw[Sc.rows_step g b p F i hlt,Sc.okRow_in] at hz1
     replace hz1:=mkHw hz1
     have hnf:=mkHw (Hfit.out F[i] (List.getElem_mem hlt))
     obtain⟨n,hn⟩:∃n,F[i]=n:=⟨_,rfl⟩
     have hnw:Hid (some n.word=some F[i].word):=by rw[← hn];rfl
     rw[hn] at c0 c1 c2 hz1 hnf
     obtain⟨V,hV⟩:∃V,V=wr.alloc (.cells #[.string n.word,.int .i64 n.good,.int .i64 n.bad] 99):=⟨_,rfl⟩
     have q0:V.cell? ⟨wr.heap.size,0,none⟩=some (.string n.word):=by rw[hV];simp
     have q1:V.cell? ⟨wr.heap.size,1,none⟩=some (.int .i64 n.good):=by rw[hV];simp
     have q2:V.cell? ⟨wr.heap.size,2,none⟩=some (.int .i64 n.bad):=by rw[hV];simp
     have hbV:Below wr.heap.size wr V:=by rw[hV];exact(Below.refl _ _).alloc (Nat.le_refl _) _
     have hVs:wr.heap.size<V.heap.size:=by rw[hV];simp
     have HV:=mkHw hV
     clear hV hn
     go_wp2
     rw[← HV.out]
     have k0:∀d os,(Go.Sort.grow (redrawn V d) os).cell? ⟨wr.heap.size,0,none⟩=some (.string n.word):=fun d os=>cell_regrown q0 d os
     have k1:∀d os,(Go.Sort.grow (redrawn V d) os).cell? ⟨wr.heap.size,1,none⟩=some (.int .i64 n.good):=fun d os=>cell_regrown q1 d os
     have k2:∀d os,(Go.Sort.grow (redrawn V d) os).cell? ⟨wr.heap.size,2,none⟩=some (.int .i64 n.bad):=fun d os=>cell_regrown q2 d os
     have e0:∀d os,(Go.Sort.grow (redrawn V d) os).cell? ⟨H,0,none⟩=some (.int .i64 g):=fun d os=>cell_regrown ((hbV.cell (p:=⟨H,0,none⟩) hHr).trans a0) d os
     have e1:∀d os,(Go.Sort.grow (redrawn V d) os).cell? ⟨H,1,none⟩=some (.int .i64 b):=fun d os=>cell_regrown ((hbV.cell (p:=⟨H,1,none⟩) hHr).trans a1) d os
     have cW:Hid (∀d os,Calls Tryz.prog 70 #[.string n.word] (Go.Sort.grow (redrawn V d) os) fun e w''=>e=.returned (.bool (Sc.word n.word))∧∃p:Regrown,w''=Go.Sort.grow (redrawn V p.d) p.os):=fun d os=>Calls.regrown_of ((implWord n.word _ hnf.out).mono fun e w' ⟨h1,h2⟩=>⟨h1,h2 ▸ Below.refl _ _⟩)
     have cN:Hid (∀d os,Calls Tryz.prog 71 #[.agg #[.string n.word,.int .i64 n.good,.int .i64 n.bad]] (Go.Sort.grow (redrawn V d) os) fun e w''=>e=.returned (.agg #[.int .i64 n.good,.int .i64 n.bad])∧∃p:Regrown,w''=Go.Sort.grow (redrawn V p.d) p.os):=fun d os=>Calls.regrown_of (implWordCounts n _)
     have cI:Hid (∀d os,Calls Tryz.prog 69 #[.agg #[.int .i64 n.good,.int .i64 n.bad],.agg #[.int .i64 g,.int .i64 b]] (Go.Sort.grow (redrawn V d) os) fun e w''=>e=.returned (.bool (Sc.within n.good n.bad g b))∧∃p:Regrown,w''=Go.Sort.grow (redrawn V p.d) p.os):=fun d os=>Calls.regrown_of (implWithin n.good n.bad g b _)
     have hGV:w2.heap.size≤V.heap.size:=Nat.le_trans hb.size hbV.size
     have hbV2:=mkHw (hb.trans (hbV.mono hb.size))
     clear q0 q1 q2 c0 c1 c2
     cases hw1:Sc.word n.word
     ·have hr:Hid (Z=1):=by
       have:=hz1.out
       rw[hw1] at this
       exact this.symm
      rw[hw1] at cW
      clear hw1
      refine wp_region_quiet_below (by kernel_rfl) (by kernel_rfl) ?_
      repeat (go_big_quiet_step (first|exact cW.out _ _|exact cN.out _ _|exact cI.out _ _))
      refine wpQuiet_nil ?_
      intro _ hw'
      obtain⟨⟨dq,osq⟩,hw''⟩:=hw'
      subst hw''
      have hbe:=mkHw (hbX2.trans ((hbV2.out.trans ((below_regrown V dq osq).mono hGV)).mono (Nat.le_of_lt hG2)))
      clear k0 k1 k2 e0 e1 cW cN cI
      go_wp2
      go_ret
      rw[hr.out,hG]
      exact⟨rfl,hbe.out⟩
     ·rw[hw1] at cW
      cases hi1:Sc.within n.good n.bad g b
      ·have hr:Hid (Z=1):=by
        have:=hz1.out
        rw[hw1,hi1] at this
        exact this.symm
       rw[hi1] at cI
       clear hw1 hi1
       refine wp_region_quiet_below (by kernel_rfl) (by kernel_rfl) ?_
       repeat (go_big_quiet_step (first|exact cW.out _ _|exact cN.out _ _|exact cI.out _ _))
       refine wpQuiet_nil ?_
       intro _ hw'
       obtain⟨⟨dq,osq⟩,hw''⟩:=hw'
       subst hw''
       have hbe:=mkHw (hbX2.trans ((hbV2.out.trans ((below_regrown V dq osq).mono hGV)).mono (Nat.le_of_lt hG2)))
       clear k0 k1 k2 e0 e1 cW cN cI
       go_wp2
       go_ret
       rw[hr.out,hG]
       exact⟨rfl,hbe.out⟩
      ·rw[hi1] at cI
       cases hzz:(decide (n.good=0) && decide (n.bad=0))
       ·have hnz:Hid (¬(n.good=0∧n.bad=0)):=by
         intro h
         rw[decide_eq_true h.1,decide_eq_true h.2] at hzz
         cases hzz
        have hz2:Hid (Sc.code (Sc.less p n.word && Sc.rows g b (some n.word) (F.drop (i+1)))=Z):=by
         have:=hz1.out
         rw[hw1,hi1,hzz] at this
         exact this
        clear hw1 hi1 hzz hz1
        refine wp_region_quiet_below (by kernel_rfl) (by kernel_rfl) ?_
        iterate 15 (go_big_quiet_step (first|exact cW.out _ _|exact cN.out _ _|exact cI.out _ _))
        go_big_quiet_want
        go_big_quiet_op
        refine⟨.bool false,fun _=>?_,?_⟩
        ·by_cases hg0:n.good=0
         ·rw[if_pos hg0,if_neg (fun h=>hnz.out ⟨hg0,h⟩)]
          exact⟨rfl,rfl⟩
         ·rw[if_neg hg0]
          exact⟨rfl,rfl⟩
        go_big_quiet_on
        go_big_quiet_step (fail)
        refine wpQuiet_nil ?_
        intro _ hw'
        obtain⟨⟨dq,osq⟩,hw''⟩:=hw'
        subst hw''
        have hbQ:=below_regrown V dq osq
        have hwq:wr.heap.size<(Go.Sort.grow (redrawn V dq) osq).heap.size:=Nat.lt_of_lt_of_le hVs hbQ.size
        have m0:=k0 dq osq
        have m2:=(hbQ.cell (p:=⟨G,2,none⟩) (Nat.lt_trans hGr hVs)).trans ((hbV.cell (p:=⟨G,2,none⟩) hGr).trans r2)
        have hbq:=mkHw (hbV2.out.trans (hbQ.mono hGV))
        clear k0 k1 k2 e0 e1 cW cN cI
        rcases hp.out with ⟨rfl,rfl⟩|⟨j,hj,rfl,rfl⟩
        ·have hz3:Hid (Sc.code (Sc.rows g b (some n.word) (F.drop (0+1)))=Z):=by
          have:=hz2.out
          exact this
         have hilt:=mkHw hlt
         clear hA hp
         generalize Go.Sort.grow (redrawn V dq) osq=wq at *
         clear hbQ hbV hVs HV a0 a1 hz2
         go_wp2
         go_quiet (fail)
         have hbn:=mkHw (Go.below_drewN hbq.out nq)
         clear m0 m2
         go_wp2
         go_roundw
         case rel=>exact⟨1,some n.word,by omega,by go_num,hz3,.inr ⟨0,hilt.out,rfl,hnw.out⟩,hbn.out⟩
         case measure=>simp[Lib.intOf];omega
        ·obtain⟨a',ea,ha',hA'⟩:=(HF.out.below hbB) j hj
         cases ea
         have hal:(a.add (j*3)).block<wr.heap.size:=by rw[add_blockW];omega
         have s3:=(hbQ.cell (p:=a.add (j*3)) (Nat.lt_trans hal hVs)).trans ((hbV.cell (p:=a.add (j*3)) hal).trans hA'.c0)
         have hji:((j+1:Nat):Int)-1=(j:Int):=by omega
         have hj0:decide ((0:Int)<((j+1:Nat):Int))=true:=by simp
         have hwj:IntKind.i64.wrap (j:Int)=(j:Int):=wrap_inW _ (by omega) (by omega)
         have hjI:(0:Int)≤(j:Int)∧(j:Int)<(F.length:Int):=⟨by omega,by omega⟩
         have hlt':=mkHw hlt
         clear hA' hA hp
         generalize F[j].word=pw at *
         generalize Go.Sort.grow (redrawn V dq) osq=wq at *
         clear hbQ hbV hVs HV a0 a1
         by_cases hls:Sc.less (some pw) n.word=true
         ·have x8:Op.bytesLess pw.toList n.word.toList=true:=hls
          have hz3:Hid (Sc.code (Sc.rows g b (some n.word) (F.drop (j+1+1)))=Z):=by
           have:=hz2.out
           rw[hls] at this
           exact this
          clear hls hz2
          go_wp2
          go_quiet (fail)
          have hbn:=mkHw (Go.below_drewN hbq.out nq)
          clear s3 m0 m2
          go_wp2
          go_roundw
          case rel=>exact⟨j+1+1,some n.word,by have:=hlt'.out;omega,by go_num,hz3,.inr ⟨j+1,hlt'.out,rfl,hnw.out⟩,hbn.out⟩
          case measure=>have:=hlt'.out;simp[Lib.intOf];omega
         ·rw[Bool.not_eq_true] at hls
          have x8:Op.bytesLess pw.toList n.word.toList=false:=hls
          have hr:Hid (Z=1):=by
           have:=hz2.out
           rw[hls] at this
           exact this.symm
          clear hls hz2
          go_wp2
          go_quiet (fail)
          have hbn:=mkHw (hbX2.trans ((Go.below_drewN hbq.out nq).mono (Nat.le_of_lt hG2)))
          clear s3 m0 m2
          go_wp2
          go_ret
          rw[hr.out,hG]
          exact⟨rfl,hbn.out⟩
       ·have hyz:Hid (n.good=0∧n.bad=0):=by
         rw[Bool.and_eq_true,decide_eq_true_iff,decide_eq_true_iff] at hzz
         exact hzz
        have hr:Hid (Z=1):=by
         have:=hz1.out
         rw[hw1,hi1,hzz] at this
         exact this.symm
        clear hw1 hi1 hzz hz1
        refine wp_region_quiet_below (by kernel_rfl) (by kernel_rfl) ?_
        iterate 15 (go_big_quiet_step (first|exact cW.out _ _|exact cN.out _ _|exact cI.out _ _))
        go_big_quiet_want
        go_big_quiet_op
        refine⟨.bool true,fun _=>?_,?_⟩
        ·rw[if_pos hyz.out.1,if_pos hyz.out.2]
         exact⟨rfl,rfl⟩
        go_big_quiet_on
        go_big_quiet_step (fail)
        refine wpQuiet_nil ?_
        intro _ hw'
        obtain⟨⟨dq,osq⟩,hw''⟩:=hw'
        subst hw''
        have hbe:=mkHw (hbX2.trans ((hbV2.out.trans ((below_regrown V dq osq).mono hGV)).mono (Nat.le_of_lt hG2)))
        clear k0 k1 k2 e0 e1 cW cN cI
        go_wp2
        go_ret
        rw[hr.out,hG]
        exact⟨rfl,hbe.out⟩
    ·have hr:Hid (Z=0):=by
      have:=hz.out
      rw[List.drop_eq_nil_of_le (by omega)] at this
      exact this.symm
     go_wp2
     go_ret
     rw[hr.out,hG]
     exact⟨rfl,hbB⟩
  ·have hr:Hid (Z=1):=by rw[hI,decide_eq_false hn] at hZ;exact hZ.out.symm
   have x14:decide ((1000:Int)<(F.length:Int))=true:=decide_eq_true (by omega)
   clear hI hZ
   go_wp2
   go_ret
   rw[hr.out,hG]
   exact⟨rfl,hbX2⟩
namespace Wf
def wcs (F:List GWordCount):List Wc:=F.map fun c=>⟨c.word,c.good,c.bad⟩
theorem wcs_len (F:List GWordCount):(wcs F).length=F.length:=by simp[wcs]
theorem wcs_in {lo:Nat} {w:World} {o:Option Addr} {F:List GWordCount} (h:GWordCountsL lo w.heap.size w o F):Wcs w.heap.size w o (wcs F):=by
 intro i hi
 have hi':i<F.length:=by rw[← wcs_len];exact hi
 obtain⟨a,ho,-,ha,h3⟩:=h i hi'
 refine⟨a,ho,ha,?_⟩
 have e:(wcs F)[i]=⟨F[i].word,F[i].good,F[i].bad⟩:=by simp[wcs]
 rw[e]
 exact⟨h3.c0,h3.c1,h3.c2⟩
end Wf
abbrev plWorldFaultC (cd:ByteArray→Int)(n:GWorldConfig):Int:=
 dcode ((plTransferFault n.transfer==0) && ((plQueueFault n.queue==0) && ((n.transfer.locF.toList==n.queue.locF.toList) && (((plAccessFault (Wf.vis n.users)==0) && Wf.all cd [] n.users) && ((Sc.code (Sc.okT n.table.good n.table.bad (Wf.wcs n.table.words))==0) && (decide (0≤n.percent) && decide (n.percent≤100)))))))
structure WcW (w:World)(g:Nat)(n:GWorldConfig)(v3 v6 v7 v8 v10 v13:Value)(W:World):Prop where
 bel:Below w.heap.size w W
 row:W.heap[g]?=some (.cells #[.string n.transfer.locF,.bool n.transfer.relay,.int .i64 n.transfer.maxBytes,v3,.int .i64 n.transfer.seed,.string n.queue.locF,v6,v7,v8,.int .i64 n.queue.maxAge,v10,.int .i64 n.table.good,.int .i64 n.table.bad,v13,.int .i64 n.percent] 50 (0,0))
theorem WcW.on {w:World} {g:Nat} {n:GWorldConfig} {v3 v6 v7 v8 v10 v13:Value} {W W':World} (h:WcW w g n v3 v6 v7 v8 v10 v13 W)(hb:Below W.heap.size W W'):WcW w g n v3 v6 v7 v8 v10 v13 W':=
 ⟨h.bel.trans (hb.mono h.bel.size),(hb.block _ (by obtain⟨hl,-⟩:=Array.getElem?_eq_some_iff.1 h.row;exact hl)).trans h.row⟩
theorem WcW.new (w:World)(n:GWorldConfig)(v3 v6 v7 v8 v10 v13:Value)(W:World)(hW:W=w.alloc (.cells #[.string n.transfer.locF,.bool n.transfer.relay,.int .i64 n.transfer.maxBytes,v3,.int .i64 n.transfer.seed,.string n.queue.locF,v6,v7,v8,.int .i64 n.queue.maxAge,v10,.int .i64 n.table.good,.int .i64 n.table.bad,v13,.int .i64 n.percent] 50)):WcW w w.heap.size n v3 v6 v7 v8 v10 v13 W:=
 ⟨by rw[hW];exact(Below.refl _ _).alloc (Nat.le_refl _) _,by rw[hW];exact heap_alloc_at _ _⟩
theorem fifteen {W:World} {S:Nat} {x0 x1 x2 x3 x4 x5 x6 x7 x8 x9 x10 x11 x12 x13 x14:Value} (h:W.heap[S]?=some (.cells #[x0,x1,x2,x3,x4,x5,x6,x7,x8,x9,x10,x11,x12,x13,x14] 50 (0,0))) :
  W.cell? ⟨S,0,none⟩=some x0∧W.cell? ⟨S,1,none⟩=some x1∧W.cell? ⟨S,2,none⟩=some x2∧W.cell? ⟨S,3,none⟩=some x3∧W.cell? ⟨S,4,none⟩=some x4∧W.cell? ⟨S,5,none⟩=some x5∧W.cell? ⟨S,6,none⟩=some x6∧W.cell? ⟨S,7,none⟩=some x7∧W.cell? ⟨S,8,none⟩=some x8∧W.cell? ⟨S,9,none⟩=some x9∧W.cell? ⟨S,10,none⟩=some x10∧W.cell? ⟨S,11,none⟩=some x11∧W.cell? ⟨S,12,none⟩=some x12∧W.cell? ⟨S,13,none⟩=some x13∧W.cell? ⟨S,14,none⟩=some x14:=by
 refine⟨?_,?_,?_,?_,?_,?_,?_,?_,?_,?_,?_,?_,?_,?_,?_⟩<;>simp[World.cell?,h]
theorem dcode01 (b:Bool):dcode b=0∨dcode b=1:=by cases b<;>simp[dcode]
theorem sccode01 (b:Bool):Sc.code b=0∨Sc.code b=1:=by cases b<;>simp[Sc.code]
theorem make_setW (w:World):(Instr.makeMap 124 none).run Tryz.prog w=.ok (.map (some w.heap.size)) (w.alloc (.map #[] 0)):=by first|kernel_rfl|rfl
set_option maxRecDepth 40000 in
theorem implWorldUsers (cd:ByteArray→Int)(o:Option Addr)(F:List GWorldUser)(cap lo:Nat)(w:World)(hF:GWorldUsersL lo w.heap.size w o F)(hl:F.length≤1048576)(hf:∀f ∈ F,f.fits 1048576)(hC:∀(s:ByteArray)(W:World),Below w.heap.size w W→Calls Tryz.prog 66 #[.string s] W (FCode cd s W)) :
  Calls Tryz.prog 27 #[.slice o F.length cap] w fun e w'=>e=.returned (.bool ((plAccessFault (Wf.vis F)==0) && Wf.all cd [] F))∧Below w.heap.size w w':=by
 have HF:=mkHid hF
 have HC:=mkHid hC
 have cV:=mkHid (implVisitors o F cap lo w hF hl)
 have cA:=mkHid (fun (v:Value) (W:World) (hO:OwnAu w.heap.size v (Wf.vis F) W)=>show Calls Tryz.prog 62 #[v] W fun e w'=>e=.returned (.int .i64 (plAccessFault (Wf.vis F)))∧Below W.heap.size W w' from by
  obtain⟨ov,cv,rfl⟩:=hO.shape
  exact implAccessFault ov (Wf.vis F) cv 0 W hO.usersL (by rw[Wf.vis_len];exact hl) (fun f hm=>by
   obtain⟨u,hu,rfl⟩:=List.mem_map.1 hm
   exact⟨(hf u hu).1,(hf u hu).2.1⟩))
 have HN:=mkHid (au_names F)
 have hzz:plAccessFault (Wf.vis F)=0∨plAccessFault (Wf.vis F)=1:=by
  unfold plAccessFault dcode
  split
  ·exact .inl rfl
  ·exact .inr rfl
 obtain⟨P,hP⟩:∃P,P=plAccessFault (Wf.vis F):=⟨_,rfl⟩
 rw[← hP] at cA HN hzz ⊢
 clear hF hC hf hP
 go_enter Tryz.func27,Tryz.ntmps27
 go_wp2_with fail
 refine cV.out.mono ?_
 rintro e w1 ⟨v1,rfl,hO1,hb1⟩
 have cA1:=mkHid (cA.out v1 w1 hO1)
 have B1:=mkHid hb1
 clear cV cA hO1 hb1
 go_wp2_with fail
 refine cA1.out.mono ?_
 rintro e w2 ⟨rfl,hb2⟩
 have B2:=mkHid (B1.out.trans (hb2.mono B1.out.size))
 clear cA1 hb2 B1
 rcases hzz with rfl|rfl
 case inr=>
  go_wp2
  go_ret
  exact⟨rfl,B2.out⟩
 obtain⟨hl20,hnz⟩:=HN.out rfl
 have HNz:=mkHid hnz
 have hsz2:=B2.out.size
 have T0:=mkHid (SetT.made w2)
 have B3:=mkHid (B2.out.alloc hsz2 (.map #[] 0))
 obtain⟨m,hm⟩:∃m,m=w2.heap.size:=⟨_,rfl⟩
 have hmw:w.heap.size≤m:=by omega
 clear HN hnz
 have hmm:=make_setW
 go_wp2
 clear hmm
 rw[← hm] at T0 ⊢
 generalize w2.alloc (.map #[] 0)=W3 at T0 B3 ⊢
 have HA0:Hid (Wf.all cd [] F=Wf.all cd (Wf.names (F.take 0)) (F.drop 0)):=rfl
 go_loopw [13] (fun i wr=>∃ k:Nat,i=.int .i64 k∧k≤F.length∧Hid (SetT wr m k (Wf.names (F.take k)))∧Hid (Below w.heap.size w wr)∧Hid (Wf.all cd [] F=Wf.all cd (Wf.names (F.take k)) (F.drop k))) (fun i _=>F.length-(Lib.intOf i).toNat)
 case atStart=>exact⟨0,rfl,Nat.zero_le _,T0,B3,HA0⟩
 case round=>
  clear T0 B3 HA0 B2 hm
  obtain⟨k,rfl,hk,HT,HB,HA⟩:=hrel
  by_cases hlt:k<F.length
  ·obtain⟨a,rfl,ha1,ha2,hA⟩:=(HF.out.same (Same.of_below HB.out (Nat.le_refl _))) k hlt
   have HSt:=mkHid (Wf.all_step cd F k hlt)
   have hnm:=HNz.out F[k] (List.getElem_mem _)
   have HNm:Hid (Wf.names (F.take (k+1))=Wf.names (F.take k) ++ [F[k].name]):=by
    show _=_
    unfold Wf.names
    rw[List.take_succ_eq_append_getElem hlt,List.map_append]
    rfl
   obtain⟨c0,c1,c2,c3⟩:=hA
   generalize F[k]=u at *
   obtain⟨L,hL⟩:∃L,L=Wf.names (F.take k):=⟨_,rfl⟩
   rw[← hL] at HT HSt HNm HA
   clear hL
   obtain⟨W1,hW1⟩:∃V,V=wr.alloc (.cells #[.string u.name,.string u.password,.bool u.readOnly,.string u.filter] 66):=⟨_,rfl⟩
   have b1:Below wr.heap.size wr W1:=by rw[hW1];exact(Below.refl _ _).alloc (Nat.le_refl _) _
   have hr1:W1.heap[wr.heap.size]?=some (.cells #[.string u.name,.string u.password,.bool u.readOnly,.string u.filter] 66 (0,0)):=by rw[hW1];exact heap_alloc_at _ _
   have HT1:=mkHid (HT.out.below b1)
   have HB1:=mkHid (HB.out.trans (b1.mono HB.out.size))
   have HW1:=mkHid hW1
   obtain⟨ub,hub⟩:∃b,b=wr.heap.size:=⟨_,rfl⟩
   rw[← hub] at hr1
   have hubl:ub<W1.heap.size:=heap_lt hr1
   have q0:∀W,Below W1.heap.size W1 W→W.cell? ⟨ub,0,none⟩=some (.string u.name):=fun W s0=>(s0.cell (p:=⟨ub,0,none⟩) hubl).trans (by simp[World.cell?,hr1])
   have q3:∀W,Below W1.heap.size W1 W→W.cell? ⟨ub,3,none⟩=some (.string u.filter):=fun W s0=>(s0.cell (p:=⟨ub,3,none⟩) hubl).trans (by simp[World.cell?,hr1])
   have C0:=mkHid q0
   have C3:=mkHid q3
   have cL:=mkHid (fun W=>implLowered u.name W (by omega))
   have cH:=mkHid (fun (W:World) (hb:Below W1.heap.size W1 W)=>implHasT m k L u.name W (HT1.out.below hb) (by omega))
   have cF:=mkHid (fun (W:World) (hb:Below W1.heap.size W1 W)=>HC.out u.filter W (HB1.out.trans (hb.mono HB1.out.size)))
   obtain⟨lw,hlw⟩:∃x:ByteArray,x=⟨(lower u.name.data.toList).toArray⟩:=⟨_,rfl⟩
   have HBl:Hid ((lw.toList==u.name.toList)=(lower u.name.data.toList==u.name.data.toList)):=by
    show _=_
    rw[hlw,ByteArray.toList_eq,ByteArray.toList_eq]
   rw[← hlw] at cL
   unfold Wf.uOk at HSt
   clear hlw hW1 b1 q0 q3 hr1
   generalize (lower u.name.data.toList==u.name.data.toList)=bl at HBl HSt
   unfold FCode at cF
   generalize cd u.filter=rc at cF HSt
   obtain⟨bi,hbi⟩:∃b,b=Ex.isIn L u.name:=⟨_,rfl⟩
   rw[← hbi] at cH HSt
   have HG:Hid ((bl && (rc==0 && !bi))=true→Ex.isIn L u.name=false):=fun h=>by
    rw[← hbi]
    simp only[Bool.and_eq_true,Bool.not_eq_true'] at h
    exact h.2.2
   clear hbi
   have hbl:=HBl.out
   go_upto_region 7 with fail
   rw[← HW1.out,← hub]
   clear HW1 hub
   go_cut [35] from 200 (fun v wx=>v=.bool (!(bl && (rc==0 && !bi)))∧Hid (Below W1.heap.size W1 wx))
   case first=>
    have hS:Below W1.heap.size W1 W1.drew:=(Below.refl _ _).drew
    refine wp_region_held (S:=fun W=>Below W1.heap.size W1 W) (by kernel_rfl) ?_
    refine tk 0 (.pointer (some ⟨ub,0,none⟩)) hS ?_ ?_
    ·intro W s0
     go_simp
    go_simp
    refine tk 1 (.string u.name) hS ?_ ?_
    ·intro W s0
     have x0:=C0.out W s0
     go_simp
    go_simp
    refine tk 3 (.pointer (some ⟨ub,0,none⟩)) hS ?_ ?_
    ·intro W s0
     go_simp
    go_simp
    refine tk 4 (.string u.name) hS ?_ ?_
    ·intro W s0
     have x0:=C0.out W s0
     go_simp
    go_simp
    refine wpAnyH_all (rs:=[2]) (by kernel_rfl) (by simp) ?_
    intro j hj
    simp only[List.mem_cons,List.not_mem_nil,or_false] at hj
    subst hj
    refine wpOp_step rfl (fun K hK=>?_)
    go_simp
    refine(cL.out _).mono ?_
    rintro e w5 ⟨rfl,hb5⟩
    have hS5:Below W1.heap.size W1 w5:=hS.trans (hb5.mono hS.size)
    clear hb5
    refine hK _ _ ⟨hS5,?_⟩
    clear hK K
    go_simp
    cases bl
    case false=>
     refine tk 5 (.bool true) hS5 ?_ ?_
     ·intro W s0
      go_simp
     go_simp
     refine tk 6 (.bool true) hS5 ?_ ?_
     ·intro W s0
      go_simp
     go_simp
     refine tn 7 hS5 ?_
     go_simp
     refine tn 8 hS5 ?_
     go_simp
     refine tn 9 hS5 ?_
     go_simp
     refine tn 10 hS5 ?_
     go_simp
     refine tk 11 (.bool true) hS5 ?_ ?_
     ·intro W s0
      go_simp
     go_simp
     refine tk 12 (.bool true) hS5 ?_ ?_
     ·intro W s0
      go_simp
     go_simp
     refine tn 13 hS5 ?_
     go_simp
     refine tn 14 hS5 ?_
     go_simp
     refine tn 15 hS5 ?_
     go_simp
     refine tn 16 hS5 ?_
     go_simp
     refine tn 17 hS5 ?_
     go_simp
     refine tk 18 (.bool true) hS5 ?_ ?_
     ·intro W s0
      go_simp
     go_simp
     refine wpAnyH_done (by kernel_rfl) ?_ _
     have HSf:=mkHid hS5
     go_wp2
     go_meet
     case rel=>exact⟨rfl,HSf⟩
    case true=>
     refine tk 5 (.bool false) hS5 ?_ ?_
     ·intro W s0
      go_simp
     go_simp
     refine tk 6 (.bool false) hS5 ?_ ?_
     ·intro W s0
      go_simp
     go_simp
     refine tk 7 (.map (some m)) hS5 ?_ ?_
     ·intro W s0
      go_simp
     go_simp
     refine tk 8 (.pointer (some ⟨ub,0,none⟩)) hS5 ?_ ?_
     ·intro W s0
      go_simp
     go_simp
     refine tk 9 (.string u.name) hS5 ?_ ?_
     ·intro W s0
      have x0:=C0.out W s0
      go_simp
     go_simp
     refine wpAnyH_all (rs:=[10]) (by kernel_rfl) (by simp) ?_
     intro j hj
     simp only[List.mem_cons,List.not_mem_nil,or_false] at hj
     subst hj
     refine wpOp_step rfl (fun K hK=>?_)
     go_simp
     refine(cH.out _ hS5).mono ?_
     rintro e w6 ⟨rfl,hb6⟩
     have hS6:Below W1.heap.size W1 w6:=hS5.trans (hb6.mono hS5.size)
     clear hb6
     refine hK _ _ ⟨hS6,?_⟩
     clear hK K
     go_simp
     cases bi
     case true=>
      refine tk 11 (.bool true) hS6 ?_ ?_
      ·intro W s0
       go_simp
      go_simp
      refine tk 12 (.bool true) hS6 ?_ ?_
      ·intro W s0
       go_simp
      go_simp
      refine tn 13 hS6 ?_
      go_simp
      refine tn 14 hS6 ?_
      go_simp
      refine tn 15 hS6 ?_
      go_simp
      refine tn 16 hS6 ?_
      go_simp
      refine tn 17 hS6 ?_
      go_simp
      refine tk 18 (.bool true) hS6 ?_ ?_
      ·intro W s0
       go_simp
      go_simp
      refine wpAnyH_done (by kernel_rfl) ?_ _
      have HSf:=mkHid hS6
      go_wp2
      go_meet
      case rel=>exact⟨(by simp),HSf⟩
     case false=>
      refine tk 11 (.bool false) hS6 ?_ ?_
      ·intro W s0
       go_simp
      go_simp
      refine tk 12 (.bool false) hS6 ?_ ?_
      ·intro W s0
       go_simp
      go_simp
      refine tk 13 (.pointer (some ⟨ub,3,none⟩)) hS6 ?_ ?_
      ·intro W s0
       go_simp
      go_simp
      refine tk 14 (.string u.filter) hS6 ?_ ?_
      ·intro W s0
       have x0:=C3.out W s0
       go_simp
      go_simp
      refine wpAnyH_all (rs:=[15]) (by kernel_rfl) (by simp) ?_
      intro j hj
      simp only[List.mem_cons,List.not_mem_nil,or_false] at hj
      subst hj
      refine wpOp_step rfl (fun K hK=>?_)
      go_simp
      refine(cF.out _ hS6).mono ?_
      rintro e w7 ⟨at_,v7,rfl,hb7⟩
      have hS7:Below W1.heap.size W1 w7:=hS6.trans (hb7.mono hS6.size)
      clear hb7
      refine hK _ _ ⟨hS7,?_⟩
      clear hK K
      go_simp
      refine tk 16 (.int .i64 rc) hS7 ?_ ?_
      ·intro W s0
       go_simp
       rw[fieldTr]
       rfl
      go_simp
      refine tk 17 (.bool (rc != 0)) hS7 ?_ ?_
      ·intro W s0
       go_simp
      go_simp
      refine tk 18 (.bool (rc != 0)) hS7 ?_ ?_
      ·intro W s0
       go_simp
      go_simp
      refine wpAnyH_done (by kernel_rfl) ?_ _
      have HSf:=mkHid hS7
      go_wp2
      go_meet
      case rel=>exact⟨(by simp[bne]),HSf⟩
   case rest=>
    obtain⟨rfl,HSf⟩:=hcut
    clear cL cH cF HBl hbl
    have e0:=C0.out _ HSf.out
    have HT2:=mkHid (HT1.out.below HSf.out)
    have HB2:=mkHid (HB1.out.trans (HSf.out.mono HB1.out.size))
    generalize (bl && (rc==0 && !bi))=gd at HSt HG ⊢
    cases gd
    case false=>
     go_wp2
     go_ret
     exact⟨by rw[HA.out,HSt.out];rfl,HB2.out⟩
    case true=>
     have bk:Below wc.heap.size wc (wc.alloc (.cells #[.string u.name] 9)):=(Below.refl _ _).alloc (Nat.le_refl _) _
     have HB3:=mkHid (HB2.out.trans (bk.mono HB2.out.size))
     have cA:=mkHid (implAddT m k wc.heap.size 1 L u.name (wc.alloc (.cells #[.string u.name] 9)) (HT2.out.below bk) (by simp) (by omega) (HG.out rfl) (by omega))
     clear bk
     go_wp2_with fail
     refine cA.out.mono ?_
     rintro e w8 ⟨rfl,hT8,hg8⟩
     have HB8:=mkHid (HB3.out.grown hg8.out HB3.out.size (fun q hq=>by cases hq;exact hmw))
     clear cA hg8
     go_wp2
     go_roundw
     case rel=>exact⟨k+1,by go_num,by omega,by rw[HNm.out];exact hT8,HB8,by
      show _=_
      rw[HA.out,HSt.out,Bool.true_and]⟩
     case measure=>simp[Lib.intOf];omega
  ·have hke:k=F.length:=by omega
   subst hke
   rw[List.drop_length,Wf.all] at HA
   have HA2:=mkHid HA.out
   clear HA
   go_wp2
   go_ret
   exact⟨by rw[HA2.out];rfl,HB.out⟩
set_option maxRecDepth 40000 in
theorem implWorldC (cd:ByteArray→Int)(n:GWorldConfig)(v3 v6 v7 v8 v10 v13:Value)(lo:Nat)(mx:Int)(w:World)(hI:GWorldConfigIn lo w.heap.size w n v3 v6 v7 v8 v10 v13)(hf:n.fits 1048576)(hm:w.cell? ⟨0,0,none⟩=some (.int .i64 mx))(hC:∀(s:ByteArray)(W:World),Below w.heap.size w W→Calls Tryz.prog 66 #[.string s] W (FCode cd s W)) :
  Calls Tryz.prog 7 #[GWorldConfigV n v3 v6 v7 v8 v10 v13] w fun e w'=>e=.returned (.int .i64 (plWorldFaultC cd n))∧Below w.heap.size w w':=by
 obtain⟨⟨a3,c3,rfl,t3⟩,⟨a6,c6,rfl,t6⟩,⟨a7,c7,rfl,t7⟩,⟨a8,c8,rfl,t8⟩,⟨a10,c10,rfl,t10⟩,⟨a13,c13,rfl,t13⟩⟩:=hI
 obtain⟨f0_0,f3_0,f3_1,f5_0,f6_0,f6_1,f7_0,f7_1,f8_0,f10_0,f10_1,f13_0,f13_1⟩:=hf
 have hlt:=bcell_lt hm
 have H1:=mkHid fun (W:World) (hb:Below w.heap.size w W)=>implTransferFault n.transfer (.slice a3 n.transfer.users.length c3) lo mx W ⟨⟨_,_,rfl,(t3.below hb (Nat.le_refl _)).mono (Nat.le_refl _) hb.size⟩⟩ ⟨f0_0,f3_0,f3_1⟩ ((hb.cell hlt).trans hm)
 have H2:=mkHid fun (W:World) (hb:Below w.heap.size w W)=>implQueueFault n.queue (.slice a6 n.queue.aliases.length c6) (.slice a7 n.queue.mx.length c7) (.slice a8 n.queue.delays.length c8) lo mx W ⟨⟨_,_,rfl,(t6.below hb (Nat.le_refl _)).mono (Nat.le_refl _) hb.size⟩,⟨_,_,rfl,(t7.below hb (Nat.le_refl _)).mono (Nat.le_refl _) hb.size⟩,⟨_,_,rfl,(t8.below hb (Nat.le_refl _)).mono (Nat.le_refl _) hb.size⟩⟩ ⟨f5_0,f6_0,f6_1,f7_0,f7_1,f8_0⟩ ((hb.cell hlt).trans hm)
 have H4:=mkHid fun (W:World) (hb:Below w.heap.size w W)=>implWorldUsers cd a10 n.users c10 lo W ((t10.below hb (Nat.le_refl _)).mono (Nat.le_refl _) hb.size) f10_0 f10_1 (fun s W' hb'=>hC s W' (hb.trans (hb'.mono hb.size)))
 have H5:=mkHid fun (W:World) (hb:Below w.heap.size w W)=>implTable n.table.good n.table.bad a13 (Wf.wcs n.table.words) c13 W (Wf.wcs_in ((t13.below hb (Nat.le_refl _)).mono (Nat.le_refl _) hb.size)) (by rw[Wf.wcs_len];exact f13_0) (fun c hc=>by
  obtain⟨x,hx,rfl⟩:=List.mem_map.1 hc
  exact f13_1 x hx)
 rw[Wf.wcs_len] at H5
 have hz1:plTransferFault n.transfer=0∨plTransferFault n.transfer=1:=dcode01 _
 have hz2:plQueueFault n.queue=0∨plQueueFault n.queue=1:=dcode01 _
 have hz5:Sc.code (Sc.okT n.table.good n.table.bad (Wf.wcs n.table.words))=0∨Sc.code (Sc.okT n.table.good n.table.bad (Wf.wcs n.table.words))=1:=sccode01 _
 obtain⟨W0,hW0⟩:∃W,W=w.alloc (.cells #[.string n.transfer.locF,.bool n.transfer.relay,.int .i64 n.transfer.maxBytes,.slice a3 n.transfer.users.length c3,.int .i64 n.transfer.seed,.string n.queue.locF,.slice a6 n.queue.aliases.length c6,.slice a7 n.queue.mx.length c7,.slice a8 n.queue.delays.length c8,.int .i64 n.queue.maxAge,.slice a10 n.users.length c10,.int .i64 n.table.good,.int .i64 n.table.bad,.slice a13 n.table.words.length c13,.int .i64 n.percent] 50):=⟨_,rfl⟩
 have L0:=mkHid (WcW.new w n (.slice a3 n.transfer.users.length c3) (.slice a6 n.queue.aliases.length c6) (.slice a7 n.queue.mx.length c7) (.slice a8 n.queue.delays.length c8) (.slice a10 n.users.length c10) (.slice a13 n.table.words.length c13) W0 hW0)
 have HW0:=mkHid hW0
 obtain⟨g,hg⟩:∃g,g=w.heap.size:=⟨_,rfl⟩
 rw[← hg] at L0
 have Hg:=mkHid hg
 unfold plWorldFaultC
 generalize plTransferFault n.transfer=z1 at *
 generalize plQueueFault n.queue=z2 at *
 generalize Sc.code (Sc.okT n.table.good n.table.bad (Wf.wcs n.table.words))=z5 at *
 obtain⟨ub,hub⟩:∃b,b=((plAccessFault (Wf.vis n.users)==0) && Wf.all cd [] n.users):=⟨_,rfl⟩
 rw[← hub] at H4 ⊢
 obtain⟨lb,hlb⟩:∃b,b=(n.transfer.locF.toList==n.queue.locF.toList):=⟨_,rfl⟩
 obtain⟨pb,hpb⟩:∃b,b=(decide (0≤n.percent) && decide (n.percent≤100)):=⟨_,rfl⟩
 rw[← hlb,← hpb]
 have Hlb:=mkHid hlb.symm
 have Hpb:=mkHid hpb.symm
 unfold tbV at H5
 unfold GTransferConfigV at H1
 unfold GQueueConfigV at H2
 clear hW0 hg hub hlb hpb t3 t6 t7 t8 t10 t13 f0_0 f3_0 f3_1 f5_0 f6_0 f6_1 f7_0 f7_1 f8_0 f10_0 f10_1 f13_0 f13_1 hlt hm hC
 unfold GWorldConfigV
 go_enter Tryz.func7,Tryz.ntmps7
 go_wp2_with fail
 rw[← HW0.out,← Hg.out]
 refine(H1.out W0 L0.out.bel).mono ?_
 rintro e w1 ⟨rfl,hb1⟩
 have L1:=mkHid (L0.out.on hb1)
 clear hb1 H1 HW0 Hg L0
 rcases hz1 with rfl|rfl
 rotate_left
 ·go_wp2_with fail
  refine(implFormU _ _).mono ?_
  rintro e w9 ⟨rfl,rfl⟩
  go_wp2
  go_ret
  exact⟨rfl,L1.out.bel⟩
 obtain⟨e0,e1,e2,e3,e4,e5,e6,e7,e8,e9,e10,e11,e12,e13,e14⟩:=fifteen L1.out.row
 go_wp2_with fail
 refine(H2.out w1 L1.out.bel).mono ?_
 rintro e w2 ⟨rfl,hb2⟩
 have L2:=mkHid (L1.out.on hb2)
 clear hb2 H2 L1
 clear e0 e1 e2 e3 e4 e5 e6 e7 e8 e9 e10 e11 e12 e13 e14
 rcases hz2 with rfl|rfl
 rotate_left
 ·go_wp2_with fail
  refine(implFormU _ _).mono ?_
  rintro e w9 ⟨rfl,rfl⟩
  go_wp2
  go_ret
  exact⟨rfl,L2.out.bel⟩
 obtain⟨e0,e1,e2,e3,e4,e5,e6,e7,e8,e9,e10,e11,e12,e13,e14⟩:=fifteen L2.out.row
 have hlb:=Hlb.out
 clear Hlb
 cases lb
 ·go_wp2_with fail
  refine(implFormU _ _).mono ?_
  rintro e w9 ⟨rfl,rfl⟩
  go_wp2
  go_ret
  exact⟨rfl,L2.out.bel⟩
 go_wp2_with fail
 refine(H4.out w2 L2.out.bel).mono ?_
 rintro e w3 ⟨rfl,hb3⟩
 have L3:=mkHid (L2.out.on hb3)
 clear hb3 H4 L2 hlb
 clear e0 e1 e2 e3 e4 e5 e6 e7 e8 e9 e10 e11 e12 e13 e14
 cases ub
 ·go_wp2_with fail
  refine(implFormU _ _).mono ?_
  rintro e w9 ⟨rfl,rfl⟩
  go_wp2
  go_ret
  exact⟨rfl,L3.out.bel⟩
 obtain⟨e0,e1,e2,e3,e4,e5,e6,e7,e8,e9,e10,e11,e12,e13,e14⟩:=fifteen L3.out.row
 go_wp2_with fail
 refine(H5.out w3 L3.out.bel).mono ?_
 rintro e w4 ⟨rfl,hb4⟩
 have L4:=mkHid (L3.out.on hb4)
 clear hb4 H5 L3
 clear e0 e1 e2 e3 e4 e5 e6 e7 e8 e9 e10 e11 e12 e13 e14
 rcases hz5 with rfl|rfl
 rotate_left
 ·go_wp2_with fail
  refine(implFormU _ _).mono ?_
  rintro e w9 ⟨rfl,rfl⟩
  go_wp2
  go_ret
  exact⟨rfl,L4.out.bel⟩
 obtain⟨e0,e1,e2,e3,e4,e5,e6,e7,e8,e9,e10,e11,e12,e13,e14⟩:=fifteen L4.out.row
 have cP:=mkHid (fun W=>implFromToT n.percent 0 100 W)
 go_wp2_with fail
 refine(cP.out _).mono ?_
 rintro e w5 ⟨rfl,rfl⟩
 rw[Hpb.out]
 clear cP Hpb
 go_wp2_with fail
 refine(implFormU _ _).mono ?_
 rintro e w9 ⟨rfl,rfl⟩
 go_wp2
 go_ret
 exact⟨rfl,L4.out.bel⟩
theorem pl21 (F:List GWorldUser):plAccessFault (Wf.vis (F.take 21))=plAccessFault (Wf.vis F):=by
 by_cases h:F.length≤21
 ·rw[List.take_of_length_le h]
 ·unfold plAccessFault
  rw[decide_eq_false (by rw[Wf.vis_len,List.length_take];omega),decide_eq_false (by rw[Wf.vis_len];omega)]
  rfl
theorem isIn_step (F:List GWorldUser)(q:Nat)(h:q<F.length)(k:ByteArray):Ex.isIn (Wf.names (F.take (q+1))) k=(Ex.isIn (Wf.names (F.take q)) k || (F[q].name.data.toList==k.data.toList)):=by
 unfold Wf.names Ex.isIn
 rw[List.take_succ_eq_append_getElem h,List.map_append,List.any_append]
 simp[Ex.same]
theorem isIn_at (F:List GWorldUser)(q k:Nat)(hq:q<k)(h:k≤F.length)(m:ByteArray)(he:(F[q]'(by omega)).name.data.toList=m.data.toList):Ex.isIn (Wf.names (F.take k)) m=true:=by
 unfold Wf.names Ex.isIn
 rw[List.any_eq_true]
 refine⟨(F[q]'(by omega)).name,List.mem_map.2 ⟨F[q]'(by omega),List.mem_take_iff_getElem.2 ⟨q,by omega,rfl⟩,rfl⟩,?_⟩
 unfold Ex.same
 rw[he]
 exact beq_self_eq_true _
set_option maxRecDepth 40000 in
theorem specWorldC (cd:ByteArray→Int)(n:GWorldConfig)(v3 v6 v7 v8 v10 v13:Value)(lo:Nat)(w:World)(hI:GWorldConfigIn lo w.heap.size w n v3 v6 v7 v8 v10 v13)(hf:n.fits 1048576)(hC:∀(s:ByteArray)(W:World),Below w.heap.size w W→Calls Tryz.prog 19 #[.string s] W (FCode cd s W)) :
  Calls Tryz.prog 5 #[GWorldConfigV n v3 v6 v7 v8 v10 v13] w fun e w'=>e=.returned (.int .i64 (plWorldFaultC cd n))∧Below w.heap.size w w':=by
 obtain⟨⟨a3,c3,rfl,t3⟩,⟨a6,c6,rfl,t6⟩,⟨a7,c7,rfl,t7⟩,⟨a8,c8,rfl,t8⟩,⟨a10,c10,rfl,t10⟩,⟨a13,c13,rfl,t13⟩⟩:=hI
 obtain⟨f0_0,f3_0,f3_1,f5_0,f6_0,f6_1,f7_0,f7_1,f8_0,f10_0,f10_1,f13_0,f13_1⟩:=hf
 have H1:=mkHid fun (W:World) (hb:Below w.heap.size w W)=>specTransferFault n.transfer (.slice a3 n.transfer.users.length c3) lo W ⟨⟨_,_,rfl,(t3.below hb (Nat.le_refl _)).mono (Nat.le_refl _) hb.size⟩⟩ ⟨f0_0,f3_0,f3_1⟩
 have H2:=mkHid fun (W:World) (hb:Below w.heap.size w W)=>specQueueFault n.queue (.slice a6 n.queue.aliases.length c6) (.slice a7 n.queue.mx.length c7) (.slice a8 n.queue.delays.length c8) lo W ⟨⟨_,_,rfl,(t6.below hb (Nat.le_refl _)).mono (Nat.le_refl _) hb.size⟩,⟨_,_,rfl,(t7.below hb (Nat.le_refl _)).mono (Nat.le_refl _) hb.size⟩,⟨_,_,rfl,(t8.below hb (Nat.le_refl _)).mono (Nat.le_refl _) hb.size⟩⟩ ⟨f5_0,f6_0,f6_1,f7_0,f7_1,f8_0⟩
 have H3:=mkHid fun (W:World) (hb:Below w.heap.size w W)=>specVisitors a10 n.users c10 lo W ((t10.below hb (Nat.le_refl _)).mono (Nat.le_refl _) hb.size)
 have H4:=mkHid (fun (B:Nat) (v:Value) (W:World) (hO:OwnAu B v (Wf.vis (n.users.take 21)) W)=>show Calls Tryz.prog 15 #[v] W fun e w'=>e=.returned (.int .i64 (plAccessFault (Wf.vis n.users)))∧Below W.heap.size W w' from by
  obtain⟨ov,cv,rfl⟩:=hO.shape
  rw[← pl21]
  exact specAccessFault ov (Wf.vis (n.users.take 21)) cv 0 W hO.usersL (by rw[Wf.vis_len,List.length_take];omega) (fun f hm=>by
   obtain⟨u,hu,rfl⟩:=List.mem_map.1 hm
   have:=f10_1 u (List.mem_of_mem_take hu)
   exact⟨this.1,this.2.1⟩))
 have H5:=mkHid fun (W:World) (hb:Below w.heap.size w W)=>specTable n.table.good n.table.bad a13 (Wf.wcs n.table.words) c13 W (Wf.wcs_in ((t13.below hb (Nat.le_refl _)).mono (Nat.le_refl _) hb.size)) (by rw[Wf.wcs_len];exact f13_0) (fun c hc=>by
  obtain⟨x,hx,rfl⟩:=List.mem_map.1 hc
  exact f13_1 x hx)
 rw[Wf.wcs_len] at H5
 have HF:=mkHid t10
 have HC:=mkHid hC
 have HN:=mkHid (au_names n.users)
 have HFz:=mkHid f10_1
 have hz1:plTransferFault n.transfer=0∨plTransferFault n.transfer=1:=dcode01 _
 have hz2:plQueueFault n.queue=0∨plQueueFault n.queue=1:=dcode01 _
 have hz4:plAccessFault (Wf.vis n.users)=0∨plAccessFault (Wf.vis n.users)=1:=dcode01 _
 have hz5:Sc.code (Sc.okT n.table.good n.table.bad (Wf.wcs n.table.words))=0∨Sc.code (Sc.okT n.table.good n.table.bad (Wf.wcs n.table.words))=1:=sccode01 _
 obtain⟨W0,hW0⟩:∃W,W=w.alloc (.cells #[.string n.transfer.locF,.bool n.transfer.relay,.int .i64 n.transfer.maxBytes,.slice a3 n.transfer.users.length c3,.int .i64 n.transfer.seed,.string n.queue.locF,.slice a6 n.queue.aliases.length c6,.slice a7 n.queue.mx.length c7,.slice a8 n.queue.delays.length c8,.int .i64 n.queue.maxAge,.slice a10 n.users.length c10,.int .i64 n.table.good,.int .i64 n.table.bad,.slice a13 n.table.words.length c13,.int .i64 n.percent] 50):=⟨_,rfl⟩
 have L0:=mkHid (WcW.new w n (.slice a3 n.transfer.users.length c3) (.slice a6 n.queue.aliases.length c6) (.slice a7 n.queue.mx.length c7) (.slice a8 n.queue.delays.length c8) (.slice a10 n.users.length c10) (.slice a13 n.table.words.length c13) W0 hW0)
 have HW0:=mkHid hW0
 obtain⟨g,hg⟩:∃g,g=w.heap.size:=⟨_,rfl⟩
 rw[← hg] at L0
 have Hg:=mkHid hg
 unfold plWorldFaultC
 generalize plTransferFault n.transfer=z1 at *
 generalize plQueueFault n.queue=z2 at *
 generalize plAccessFault (Wf.vis n.users)=z4 at *
 generalize Sc.code (Sc.okT n.table.good n.table.bad (Wf.wcs n.table.words))=z5 at *
 obtain⟨al,hal⟩:∃b,b=Wf.all cd [] n.users:=⟨_,rfl⟩
 obtain⟨lb,hlb⟩:∃b,b=(n.transfer.locF.toList==n.queue.locF.toList):=⟨_,rfl⟩
 obtain⟨pa,hpa⟩:∃b,b=decide (0≤n.percent):=⟨_,rfl⟩
 obtain⟨pb,hpb⟩:∃b,b=decide (n.percent≤100):=⟨_,rfl⟩
 rw[← hal,← hlb,← hpa,← hpb]
 have Hal:=mkHid hal
 have Hlb:=mkHid hlb.symm
 have Hpa:Hid (decide (n.percent<0) = !pa):=by
  show _=_
  rw[hpa,← decide_not]
  exact decide_eq_decide.2 (by omega)
 have Hpb:Hid (decide (100<n.percent) = !pb):=by
  show _=_
  rw[hpb,← decide_not]
  exact decide_eq_decide.2 (by omega)
 unfold tbV at H5
 unfold GTransferConfigV at H1
 unfold GQueueConfigV at H2
 clear hW0 hg hal hlb hpa hpb t3 t6 t7 t8 t10 t13 f0_0 f3_0 f3_1 f5_0 f6_0 f6_1 f7_0 f7_1 f8_0 f10_1 f13_0 f13_1 hC
 unfold GWorldConfigV
 go_enter Tryz.func5,Tryz.ntmps5
 go_wp2_with fail
 rw[← HW0.out,← Hg.out]
 refine(H1.out W0 L0.out.bel).mono ?_
 rintro e w1 ⟨rfl,hb1⟩
 have L1:=mkHid (L0.out.on hb1)
 clear hb1 H1 HW0 Hg L0
 rcases hz1 with rfl|rfl
 rotate_left
 ·go_wp2
  go_ret
  exact⟨by cases al<;>rfl,L1.out.bel⟩
 obtain⟨e0,e1,e2,e3,e4,e5,e6,e7,e8,e9,e10,e11,e12,e13,e14⟩:=fifteen L1.out.row
 go_wp2_with fail
 refine(H2.out w1 L1.out.bel).mono ?_
 rintro e w2 ⟨rfl,hb2⟩
 have L2:=mkHid (L1.out.on hb2)
 clear hb2 H2 L1
 clear e0 e1 e2 e3 e4 e5 e6 e7 e8 e9 e10 e11 e12 e13 e14
 rcases hz2 with rfl|rfl
 rotate_left
 ·go_wp2
  go_ret
  exact⟨by cases al<;>rfl,L2.out.bel⟩
 obtain⟨e0,e1,e2,e3,e4,e5,e6,e7,e8,e9,e10,e11,e12,e13,e14⟩:=fifteen L2.out.row
 have hlb:=Hlb.out
 clear Hlb
 cases lb
 ·go_wp2
  go_ret
  exact⟨by cases al<;>rfl,L2.out.bel⟩
 go_wp2_with fail
 refine(H3.out w2 L2.out.bel).mono ?_
 rintro e w3 ⟨v,rfl,hO,hb3⟩
 have H4':=mkHid (H4.out _ v w3 hO)
 have L3:=mkHid (L2.out.on hb3)
 clear hb3 H3 H4 L2 hlb hO
 clear e0 e1 e2 e3 e4 e5 e6 e7 e8 e9 e10 e11 e12 e13 e14
 go_wp2_with fail
 refine H4'.out.mono ?_
 rintro e w4 ⟨rfl,hb4⟩
 have L4:=mkHid (L3.out.on hb4)
 clear hb4 H4' L3
 rcases hz4 with rfl|rfl
 rotate_left
 ·go_wp2
  go_ret
  exact⟨by cases al<;>rfl,L4.out.bel⟩
 obtain⟨e0,e1,e2,e3,e4,e5,e6,e7,e8,e9,e10,e11,e12,e13,e14⟩:=fifteen L4.out.row
 go_wp2_with fail
 refine(H5.out w4 L4.out.bel).mono ?_
 rintro e w5 ⟨rfl,hb5⟩
 have L5:=mkHid (L4.out.on hb5)
 clear hb5 H5 L4
 clear e0 e1 e2 e3 e4 e5 e6 e7 e8 e9 e10 e11 e12 e13 e14
 rcases hz5 with rfl|rfl
 rotate_left
 ·go_wp2
  go_ret
  exact⟨by cases al<;>rfl,L5.out.bel⟩
 obtain⟨e0,e1,e2,e3,e4,e5,e6,e7,e8,e9,e10,e11,e12,e13,e14⟩:=fifteen L5.out.row
 have hpa:=Hpa.out
 have hpb:=Hpb.out
 clear Hpa Hpb
 cases pa
 ·go_wp2
  go_ret
  exact⟨by cases al<;>rfl,L5.out.bel⟩
 cases pb
 ·go_wp2
  go_ret
  exact⟨by cases al<;>rfl,L5.out.bel⟩
 obtain⟨hl20,hnz⟩:=HN.out (by trivial)
 have HNz:=mkHid hnz
 have HA0:Hid (al=Wf.all cd (Wf.names (n.users.take 0)) (n.users.drop 0)):=Hal.out
 clear HN hnz Hal
 go_wp2
 clear e0 e1 e2 e3 e4 e5 e6 e7 e8 e9 e10 e11 e12 e13 e14
 go_loopw [3] (fun i wr=>∃ k:Nat,i=.int .i64 k∧k≤n.users.length∧Hid (WcW w g n (.slice a3 n.transfer.users.length c3) (.slice a6 n.queue.aliases.length c6) (.slice a7 n.queue.mx.length c7) (.slice a8 n.queue.delays.length c8) (.slice a10 n.users.length c10) (.slice a13 n.table.words.length c13) wr)∧Hid (al=Wf.all cd (Wf.names (n.users.take k)) (n.users.drop k))) (fun i _=>n.users.length-(Lib.intOf i).toNat)
 case atStart=>exact⟨0,rfl,Nat.zero_le _,L5,HA0⟩
 case round=>
  clear L5 HA0
  obtain⟨k,rfl,hk,LR,HA⟩:=hrel
  obtain⟨-,-,-,-,-,-,-,-,-,-,e10,-,-,-,-⟩:=fifteen LR.out.row
  by_cases hlt:k<n.users.length
  ·obtain⟨a,rfl,ha1,ha2,hA⟩:=HF.out k hlt
   have HSt:=mkHid (Wf.all_step cd n.users k hlt)
   have hnm:=HNz.out n.users[k] (List.getElem_mem _)
   have hfz:=HFz.out n.users[k] (List.getElem_mem _)
   have HNm:Hid (Wf.names (n.users.take (k+1))=Wf.names (n.users.take k) ++ [n.users[k].name]):=by
    show _=_
    unfold Wf.names
    rw[List.take_succ_eq_append_getElem hlt,List.map_append]
    rfl
   have HAt:=mkHid (fun q hq m he=>isIn_at n.users q k hq (Nat.le_of_lt hlt) m he)
   obtain⟨d0,-,-,d3⟩:=hA
   generalize n.users[k]=u at *
   have hab:(a.add (k*4)).block<w.heap.size:=by rw[add_blockG];exact ha2
   have D0:=mkHid (fun (W:World) (s0:Below w.heap.size w W)=>(s0.cell hab).trans d0)
   have C0:=mkHid (fun (W:World) (s0:Below wr.heap.size wr W)=>D0.out W (LR.out.bel.trans (s0.mono LR.out.bel.size)))
   have C3:=mkHid (fun (W:World) (s0:Below wr.heap.size wr W)=>((LR.out.bel.trans (s0.mono LR.out.bel.size)).cell (p:=⟨(a.add (k*4)).block,(a.add (k*4)).off+3,none⟩) hab).trans d3)
   have CT:=mkHid (fun (W:World) (s0:Below wr.heap.size wr W)=>(s0.cell (p:=⟨g,10,none⟩) (World.block_lt_of_cell? _ _ e10)).trans e10)
   have cL:=mkHid (fun W=>specLower u.name W (by omega))
   have cF:=mkHid (fun (W:World) (hb:Below wr.heap.size wr W)=>HC.out u.filter W (LR.out.bel.trans (hb.mono LR.out.bel.size)))
   obtain⟨lw,hlw⟩:∃x:ByteArray,x=⟨(lower u.name.data.toList).toArray⟩:=⟨_,rfl⟩
   have HBl:Hid ((lw.toList==u.name.toList)=(lower u.name.data.toList==u.name.data.toList)):=by
    show _=_
    rw[hlw,ByteArray.toList_eq,ByteArray.toList_eq]
   rw[← hlw] at cL
   unfold Wf.uOk at HSt
   unfold FCode at cF
   clear hlw d3
   generalize (lower u.name.data.toList==u.name.data.toList)=bl at HBl HSt
   generalize cd u.filter=rc at cF HSt
   have hbl:=HBl.out
   have hlt':(k:Int)<(n.users.length:Int):=by omega
   clear d0
   go_upto_region 6 with fail
   clear e10
   go_cut [78] from 200 (fun v wx=>v=.bool (!(bl && rc==0))∧Hid (Below wr.heap.size wr wx))
   case first=>
    have hS:Below wr.heap.size wr wr.drew:=(Below.refl _ _).drew
    refine wp_region_held (S:=fun W=>Below wr.heap.size wr W) (by kernel_rfl) ?_
    refine tk 0 (.pointer (some ⟨g,10,none⟩)) hS ?_ ?_
    ·intro W s0
     go_simp
    go_simp
    refine tk 1 (.slice (some a) n.users.length c10) hS ?_ ?_
    ·intro W s0
     have x0:=CT.out W s0
     go_simp
    go_simp
    refine tk 2 (.int .i64 k) hS ?_ ?_
    ·intro W s0
     go_simp
    go_simp
    refine tk 3 (.pointer (some (a.add (k*4)))) hS ?_ ?_
    ·intro W s0
     go_simp
    go_simp
    refine tk 4 (.pointer (some (a.add (k*4)))) hS ?_ ?_
    ·intro W s0
     go_simp
    go_simp
    refine tk 5 (.string u.name) hS ?_ ?_
    ·intro W s0
     have x0:=C0.out W s0
     go_simp
    go_simp
    refine tk 7 (.pointer (some ⟨g,10,none⟩)) hS ?_ ?_
    ·intro W s0
     go_simp
    go_simp
    refine tk 8 (.slice (some a) n.users.length c10) hS ?_ ?_
    ·intro W s0
     have x0:=CT.out W s0
     go_simp
    go_simp
    refine tk 9 (.int .i64 k) hS ?_ ?_
    ·intro W s0
     go_simp
    go_simp
    refine tk 10 (.pointer (some (a.add (k*4)))) hS ?_ ?_
    ·intro W s0
     go_simp
    go_simp
    refine tk 11 (.pointer (some (a.add (k*4)))) hS ?_ ?_
    ·intro W s0
     go_simp
    go_simp
    refine tk 12 (.string u.name) hS ?_ ?_
    ·intro W s0
     have x0:=C0.out W s0
     go_simp
    go_simp
    refine wpAnyH_all (rs:=[6]) (by kernel_rfl) (by simp) ?_
    intro j hj
    simp only[List.mem_cons,List.not_mem_nil,or_false] at hj
    subst hj
    refine wpOp_step rfl (fun K hK=>?_)
    go_simp
    refine(cL.out _).mono ?_
    rintro e w5 ⟨rfl,hb5⟩
    have hS5:Below wr.heap.size wr w5:=hS.trans (hb5.mono hS.size)
    clear hb5
    refine hK _ _ ⟨hS5,?_⟩
    clear hK K
    go_simp
    cases bl
    case false=>
     refine tk 13 (.bool true) hS5 ?_ ?_
     ·intro W s0
      go_simp
     go_simp
     refine tk 14 (.bool true) hS5 ?_ ?_
     ·intro W s0
      go_simp
     go_simp
     refine tn 15 hS5 ?_
     go_simp
     refine tn 16 hS5 ?_
     go_simp
     refine tn 17 hS5 ?_
     go_simp
     refine tn 18 hS5 ?_
     go_simp
     refine tn 19 hS5 ?_
     go_simp
     refine tn 20 hS5 ?_
     go_simp
     refine tn 21 hS5 ?_
     go_simp
     refine tn 22 hS5 ?_
     go_simp
     refine tn 23 hS5 ?_
     go_simp
     refine tk 24 (.bool true) hS5 ?_ ?_
     ·intro W s0
      go_simp
     go_simp
     refine wpAnyH_done (by kernel_rfl) ?_ _
     have HSf:=mkHid hS5
     go_wp2
     go_meet
     case rel=>exact⟨rfl,HSf⟩
    case true=>
     refine tk 13 (.bool false) hS5 ?_ ?_
     ·intro W s0
      go_simp
     go_simp
     refine tk 14 (.bool false) hS5 ?_ ?_
     ·intro W s0
      go_simp
     go_simp
     refine tk 15 (.pointer (some ⟨g,10,none⟩)) hS5 ?_ ?_
     ·intro W s0
      go_simp
     go_simp
     refine tk 16 (.slice (some a) n.users.length c10) hS5 ?_ ?_
     ·intro W s0
      have x0:=CT.out W s0
      go_simp
     go_simp
     refine tk 17 (.int .i64 k) hS5 ?_ ?_
     ·intro W s0
      go_simp
     go_simp
     refine tk 18 (.pointer (some (a.add (k*4)))) hS5 ?_ ?_
     ·intro W s0
      go_simp
     go_simp
     refine tk 19 (.pointer (some ⟨(a.add (k*4)).block,(a.add (k*4)).off+3,none⟩)) hS5 ?_ ?_
     ·intro W s0
      go_simp
     go_simp
     refine tk 20 (.string u.filter) hS5 ?_ ?_
     ·intro W s0
      have x0:=C3.out W s0
      go_simp
     go_simp
     refine wpAnyH_all (rs:=[21]) (by kernel_rfl) (by simp) ?_
     intro j hj
     simp only[List.mem_cons,List.not_mem_nil,or_false] at hj
     subst hj
     refine wpOp_step rfl (fun K hK=>?_)
     go_simp
     refine(cF.out _ hS5).mono ?_
     rintro e w7 ⟨at_,v7,rfl,hb7⟩
     have hS7:Below wr.heap.size wr w7:=hS5.trans (hb7.mono hS5.size)
     clear hb7
     refine hK _ _ ⟨hS7,?_⟩
     clear hK K
     go_simp
     refine tk 22 (.int .i64 rc) hS7 ?_ ?_
     ·intro W s0
      go_simp
      rw[fieldTr]
      rfl
     go_simp
     refine tk 23 (.bool (rc != 0)) hS7 ?_ ?_
     ·intro W s0
      go_simp
     go_simp
     refine tk 24 (.bool (rc != 0)) hS7 ?_ ?_
     ·intro W s0
      go_simp
     go_simp
     refine wpAnyH_done (by kernel_rfl) ?_ _
     have HSf:=mkHid hS7
     go_wp2
     go_meet
     case rel=>exact⟨(by simp[bne]),HSf⟩
   case rest=>
    obtain⟨rfl,HSf⟩:=hcut
    clear cL cF HBl hbl C0 C3 CT
    have L2:=mkHid (LR.out.on HSf.out)
    generalize hgd:(bl && rc==0)=gd at *
    cases gd
    case false=>
     go_wp2
     go_ret
     have e0:(bl && (rc==0 && !Ex.isIn (Wf.names (n.users.take k)) u.name))=false:=by rw[← Bool.and_assoc,hgd];rfl
     exact⟨by rw[HA.out,HSt.out,e0];rfl,L2.out.bel⟩
    case true=>
     have HGd:=mkHid hgd
     clear hgd
     have HI0:Hid (Ex.isIn (Wf.names (n.users.take 0)) u.name=false):=rfl
     rw[Bool.not_true]
     go_wp2
     go_loopw [4] (fun j wx=>∃ q:Nat,j=.int .i64 q∧q≤k∧Hid (WcW w g n (.slice a3 n.transfer.users.length c3) (.slice a6 n.queue.aliases.length c6) (.slice a7 n.queue.mx.length c7) (.slice a8 n.queue.delays.length c8) (.slice (some a) n.users.length c10) (.slice a13 n.table.words.length c13) wx)∧Hid (Ex.isIn (Wf.names (n.users.take q)) u.name=false)) (fun j _=>k-(Lib.intOf j).toNat)
     case atStart=>exact⟨0,rfl,Nat.zero_le _,L2,HI0⟩
     case round=>
      clear HI0 L2 HSf
      obtain⟨q,rfl,hq,LQ,HIq⟩:=hrel
      obtain⟨-,-,-,-,-,-,-,-,-,-,e10,-,-,-,-⟩:=fifteen LQ.out.row
      by_cases hqk:q<k
      ·have hql:q<n.users.length:=by omega
       obtain⟨a',ea,-,ha2',hA'⟩:=HF.out q hql
       cases ea
       obtain⟨b0,-,-,-⟩:=hA'
       have hsq:=mkHid (isIn_step n.users q hql u.name)
       have hat:=mkHid (HAt.out q hqk u.name)
       have hab':(a.add (q*4)).block<w.heap.size:=by rw[add_blockG];exact ha2'
       have y0:=(LQ.out.bel.cell hab').trans b0
       generalize n.users[q]=uq at *
       have x0:=cell_regrown (D0.out _ LQ.out.bel)
       have x1:=cell_regrown y0
       have x2:=cell_regrown e10
       have i1:(q:Int)<(k:Int):=by omega
       have i2:(q:Int)<(n.users.length:Int):=by omega
       clear b0 y0 ha2' hab' e10
       cases hE:(uq.name.toList==u.name.toList)
       ·have HE:Hid ((uq.name.data.toList==u.name.data.toList)=false):=by
         show _=_
         rw[← ByteArray.toList_eq,← ByteArray.toList_eq]
         exact hE
        go_wp2
        refine wp_region_quiet_below (by kernel_rfl) (by kernel_rfl) ?_
        repeat (quiet_step (fail))
        refine wpQuiet_nil ?_
        rintro _ ⟨⟨dq,osq⟩,rfl⟩
        rename_i wq
        have LN:=mkHid (LQ.out.on (below_regrown _ dq osq))
        clear x0 x1 x2 hE LQ
        go_wp2
        go_roundw
        case rel=>exact⟨q+1,by go_num,by omega,LN,by show _=_;rw[hsq.out,HIq.out,HE.out];rfl⟩
        case measure=>simp[Lib.intOf];omega
       ·have HE:Hid (Ex.isIn (Wf.names (n.users.take k)) u.name=true):=hat.out (by
         have:=hE
         rw[ByteArray.toList_eq,ByteArray.toList_eq] at this
         exact eq_of_beq this)
        go_wp2
        refine wp_region_quiet_below (by kernel_rfl) (by kernel_rfl) ?_
        repeat (quiet_step (fail))
        refine wpQuiet_nil ?_
        rintro _ ⟨⟨dq,osq⟩,rfl⟩
        have LN:=mkHid (LQ.out.on (below_regrown _ dq osq))
        clear x0 x1 x2 hE LQ
        go_wp2
        go_ret
        have e0:(bl && (rc==0 && !Ex.isIn (Wf.names (n.users.take k)) u.name))=false:=by rw[HE.out];simp
        exact⟨by rw[HA.out,HSt.out,e0];rfl,LN.out.bel⟩
      ·obtain rfl:q=k:=by omega
       have HA2:Hid (al=Wf.all cd (Wf.names (n.users.take (q+1))) (n.users.drop (q+1))):=by
        show _=_
        have e0:(bl && (rc==0 && !Ex.isIn (Wf.names (n.users.take q)) u.name))=true:=by rw[← Bool.and_assoc,HGd.out,HIq.out];rfl
        rw[HA.out,HSt.out,e0,Bool.true_and]
       go_wp2
       go_roundw
       case rel=>exact⟨q+1,by go_num,by omega,LQ,HA2⟩
       case measure=>simp[Lib.intOf];omega
  ·have hke:k=n.users.length:=by omega
   subst hke
   rw[List.drop_length,Wf.all] at HA
   have HA2:=mkHid HA.out
   clear HA
   go_wp2
   go_ret
   exact⟨by rw[HA2.out];rfl,LR.out.bel⟩
def strCellsX (P:List ByteArray):List Value:=P.map .string
def OwnX (B:Nat)(v:Value)(P:List ByteArray)(w:World):Prop:=w.ownsRow B 9 1 v P.length (strCellsX P)
theorem OwnX.nil (B:Nat)(w:World):OwnX B (.slice none 0 0) [] w:=World.ownsRow_nil w B 9 1
theorem OwnX.shape {B:Nat} {v:Value} {P:List ByteArray} {w:World} (h:OwnX B v P w):∃o cap,v=.slice o P.length cap:=by
 rcases h.2 with ⟨rfl,h0⟩|⟨g,cap,cur,rfl,-⟩
 ·exact⟨none,0,by rw[h0]⟩
 ·exact⟨_,cap,rfl⟩
theorem OwnX.txL {B:Nat} {o:Option Addr} {cap:Nat} {P:List ByteArray} {w:World} (h:OwnX B (.slice o P.length cap) P w):TxL B w.heap.size w o P:=by
 intro i hi
 have hl:=World.ownsRow.lt h
 rcases h.2 with ⟨h1,h0⟩|⟨g,cap',cur,h1,hB,-⟩
 ·omega
 ·simp only[Value.slice.injEq] at h1
  obtain⟨rfl,-⟩:=h1
  exact⟨_,rfl,hB,(hl g rfl).2,World.ownsRow.cells h (g:=g) rfl i _ (by simp[strCellsX,hi])⟩
theorem OwnX.keep {B:Nat} {v:Value} {P:List ByteArray} {w w':World} {row:Option Nat} (h:OwnX B v P w)(hg:w.grownBy w' row)(hne:v.ownBlock=none∨v.ownBlock≠row):OwnX B v P w':=World.ownsRow.kept h hg hne
theorem OwnX.below {B:Nat} {v:Value} {P:List ByteArray} {w w':World} (h:OwnX B v P w)(hb:Below w.heap.size w w'):OwnX B v P w':=World.ownsRow.kept h (row:=none) ⟨hb.os,hb.tape,hb.output,hb.size,fun k hk _=>hb.block k hk⟩ (by
 cases hv:v.ownBlock with
 | none=>exact .inl rfl
 | some k=>exact .inr (by simp))
theorem Tryz.info9X:(Tryz.prog.info? 9).map (fun i=>(i.zero,i.size,i.bytes))=some (some (.string ⟨#[]⟩),1,16):=by kernel_rfl
theorem wp_appX {w:World} {ops:Array Oper} {rest:List Oper} {o:Oper} {a:Act} {Q:Exit→Act→World→Prop} (hgd:o.guard=none)(s x:Operand)
  (ho:o.op=.call { callee:=.builtin .append,args:=#[s,x],argTypes:=#[107,107] })
  (B:Nat) (v:Value) (C:List ByteArray) (hs:a.eval s=v) (hown:OwnX B v C w) (u:ByteArray)
  (c:Nat) (hx:a.eval x=.slice (some ⟨w.heap.size,0,none⟩) 1 c) (hlen:C.length≤1000000) (hB:B≤w.heap.size)
  (h:∀v' w',OwnX B v' (C ++ [u]) w'→(w.alloc (.cells #[.string u] 9)).grownBy w' v.ownBlock→wpList Tryz.prog ops Q rest (a.put o.dst v') w'):wpList Tryz.prog ops Q (o::rest) a (w.alloc (.cells #[.string u] 9)):=by
 obtain⟨i0,hi0,hz0,hz1,hz2⟩:=info_parts Tryz.info9X
 unfold OwnX at hown
 refine wpList_append_own _ hgd s x 107 ho B 9 i0 (.string ⟨#[]⟩) 1 16 Tryz.underlying107 hi0 hz0 hz1 hz2 rfl (by decide) v C.length (strCellsX C) hs (World.ownsRow.alloc hown _) ⟨w.heap.size,0,none⟩ 1 c [.string u] hx
  rfl ?_ ?_ (by unfold maxLen;omega) (by omega) (by simp;omega) ?_
 ·intro j y hj
  rw[add_off]
  match j,hj with
  | 0,hj=>simp at hj;subst hj;simp
 ·intro y hy
  simp at hy
  subst hy
  rfl
 ·intro v' w' h1 h2 _
  refine h v' w' ?_ h2
  unfold OwnX strCellsX
  rw[List.map_append,List.length_append]
  exact h1
theorem OwnX.made (B:Nat)(w:World)(hB:B≤w.heap.size):OwnX B (.slice (some ⟨w.heap.size,0,none⟩) 0 0) [] (w.alloc (.cells #[] 9)):=
 ⟨rfl,.inr ⟨w.heap.size,0,#[],rfl,hB,heap_alloc_at _ _,Nat.le_refl _,Nat.zero_le _,rfl,rfl⟩⟩
end Go.Proofs.YtkcajnjledldnaaGreatDoor
