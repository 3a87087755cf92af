import Derived.Test.YtkcajnjledldnaaGreatDoorSignTests
import Derived.Test.YtkcajnjledldnaaGreatDoorPhraseImpl
import Derived.Test.YtkcajnjledldnaaGreatDoorTk
import Derived.Lib.QuietBelow
import Derived.BigQuiet
import Derived.Test.YtkcajnjledldnaaGreatDoorGenBase
import Derived.Deep.QuietTactic
import Derived.Deep.RegionWith
set_option maxRecDepth 20000
set_option maxHeartbeats 8000000
namespace Go.Proofs.YtkcajnjledldnaaGreatDoor
open Go.RowKit Go.Lib
namespace Ky
def open_ (d:ByteArray):Bool:=d.data.toList[0]?.getD 0==91
def dok (d:ByteArray):Bool:=Pl.domI d.data.toList && !open_ d
theorem dom_pos (d:ByteArray)(h:Pl.domI d.data.toList=true):0<d.size:=by
 by_cases h0:0<d.size
 ·exact h0
 ·have:d.data.toList=[]:=List.length_eq_zero_iff.1 (by
   have:d.data.toList.length=d.size:=by simp
   omega)
  rw[this] at h
  exact absurd h (by decide)
def low (d:ByteArray):ByteArray:=⟨(lower d.data.toList).toArray⟩
theorem dok_size (d:ByteArray)(h:dok d=true):d.size≤255:=by
 simp only[dok,Bool.and_eq_true,Pl.domI,decide_eq_true_eq] at h
 have:d.data.toList.length=d.size:=by simp
 omega
end Ky
theorem Ky.fst (d:ByteArray)(h:0<d.size):Ky.open_ d=((d[0].toNat:Int)==91):=by
 have hl:0<d.data.toList.length:=by simpa using h
 unfold Ky.open_
 rw[List.getElem?_eq_getElem hl,Option.getD_some,Bool.eq_iff_iff,beq_iff_eq,beq_iff_eq]
 constructor
 ·intro e
  have e':d[0]=91:=e
  rw[e']
  rfl
 ·intro e
  have e':d[0].toNat=91:=by omega
  exact UInt8.toNat_inj.1 e'
theorem specKDomain (d:ByteArray)(w:World)(hs:d.size≤1100000) :
  Calls Tryz.prog 40 #[.string d] w fun e w'=>e=.returned (.bool (Ky.dok d))∧Below w.heap.size w w':=by
 have hD:=mkH (specDomain d w hs)
 obtain⟨R,hR⟩:∃R,Ky.dok d=R:=⟨_,rfl⟩
 rw[hR]
 replace hR:=mkH hR
 cases hd:Pl.domI d.data.toList
 ·rw[hd] at hD
  have hr:Hid (R=false):=show _=_ from by rw[← hR.out,Ky.dok,hd,Bool.false_and]
  clear hd
  go_enter Tryz.func40,Tryz.ntmps40
  go_wp2_with fail
  refine hD.out.mono ?_
  rintro e w1 ⟨rfl,hb1⟩
  simp only[dcode]
  go_wp2
  go_ret
  rw[hr.out]
  exact⟨rfl,hb1⟩
 ·rw[hd] at hD
  have hp:=Ky.dom_pos d hd
  have hpI:(0:Int)<(d.size:Int):=by omega
  have h8:d[0].toNat<256:=UInt8.toNat_lt _
  obtain⟨bo,hbo⟩:∃b,((d[0].toNat:Int)==91)=b:=⟨_,rfl⟩
  have hr:Hid (R = !bo):=show _=_ from by rw[← hR.out,Ky.dok,hd,Bool.true_and,Ky.fst d hp,hbo]
  have hbn:((d[0].toNat:Int) != 91) = !bo:=by rw[bne,hbo]
  clear hd hR
  cases bo
  all_goals
   simp only[Bool.not_false,Bool.not_true] at hbn
   go_enter Tryz.func40,Tryz.ntmps40
   go_wp2_with fail
   refine hD.out.mono ?_
   rintro e w1 ⟨rfl,hb1⟩
   simp only[dcode]
   go_wp2
   go_ret
   rw[hr.out]
   exact⟨rfl,hb1⟩
theorem implDomainName (d:ByteArray)(m:Int)(w:World)(hs:d.size≤1100000)(hm:w.cell? ⟨0,0,none⟩=some (.int .i64 m)) :
  Calls Tryz.prog 101 #[.string d] w fun e w'=>e=.returned (.bool (Ky.dok d))∧Below w.heap.size w w':=by
 have hD:=mkH (implDomain d m w hs hm)
 have hP:=mkH (fun w=>Tryz.strings_HasPrefix d ⟨#[91]⟩ w)
 have ho:hasPrefix d.data.toList [91]=Ky.open_ d:=by
  unfold hasPrefix Ky.open_
  cases d.data.toList with
  | nil=>rfl
  | cons c r=>
   rw[List.getElem?_cons_zero,Option.getD_some,List.isPrefixOf,List.isPrefixOf,Bool.and_true,Bool.eq_iff_iff,beq_iff_eq,beq_iff_eq]
   exact⟨fun e=>e.symm,fun e=>e.symm⟩
 rw[show(ByteArray.mk #[91]).data.toList=[91] from rfl,ho] at hP
 clear ho hm
 unfold Ky.dok
 generalize Ky.open_ d=b2 at *
 generalize Pl.domI d.data.toList=b1 at *
 cases b1<;>cases b2
 all_goals
  go_enter Tryz.func101,Tryz.ntmps101
  go_wp2_with first|(go_at_call 135;go_must (refine hD.out.mono ?_;rintro e w2 ⟨rfl,hb2⟩))|(go_at_call 136;go_must (refine(hP.out _).mono ?_;rintro e w3 ⟨rfl,rfl⟩))
  go_ret
  exact⟨rfl,hb2⟩
theorem implLocalDomain (d:ByteArray)(mx:Int)(w:World)(hs:d.size≤1048576)(hm:w.cell? ⟨0,0,none⟩=some (.int .i64 mx)) :
  Calls Tryz.prog 58 #[.string d] w fun e w'=>e=.returned (.bool (Ky.dok d && ((Ky.low d).toList==d.toList)))∧Below w.heap.size w w':=by
 have hD:=mkH (implDomainName d mx w (by omega) hm)
 clear hm
 cases x1:Ky.dok d
 ·rw[x1] at hD
  go_enter Tryz.func58,Tryz.ntmps58
  go_wp2_with fail
  refine hD.out.mono ?_
  rintro e w2 ⟨rfl,hb2⟩
  go_wp2
  go_ret
  exact⟨rfl,hb2⟩
 ·rw[x1] at hD
  have hds:=Ky.dok_size d x1
  have hL:=mkH (fun w=>implLowered d w (by omega))
  rw[show(ByteArray.mk (lower d.data.toList).toArray)=Ky.low d from rfl] at hL
  generalize Ky.low d=lo at *
  clear x1 hds
  go_enter Tryz.func58,Tryz.ntmps58
  go_wp2_with fail
  refine hD.out.mono ?_
  rintro e w2 ⟨rfl,hb2⟩
  go_wp2_with fail
  refine(hL.out _).mono ?_
  rintro e w3 ⟨rfl,hb3⟩
  go_wp2
  go_ret
  exact⟨by simp,hb2.trans (hb3.mono hb2.size)⟩
open Go.RowKit Go.Lib Go.Maps
namespace Tf
theorem all_drop {α:Type} (K:α→Bool)(F:List α)(k:Nat)(h:k<F.length):(F.drop k).all K=(K F[k] && (F.drop (k+1)).all K):=by
 rw[List.drop_eq_getElem_cons h,List.all_cons]
theorem all_end {α:Type} (K:α→Bool)(F:List α)(k:Nat)(h:F.length≤k):(F.drop k).all K=true:=by
 rw[List.drop_eq_nil_of_le h,List.all_nil]
def uok (u:GSignKey):Bool:=Pl.domOk u.domain.data.toList && (Pl.selOk u.selector.data.toList && keyOk u.a u.b)
def t2 (n:GTransferConfig):Bool:=(Ky.low n.locF).toList==n.locF.toList
def t3 (n:GTransferConfig):Bool:=decide (1≤n.maxBytes)
def t4 (n:GTransferConfig):Bool:=decide (n.maxBytes≤100000)
def t5 (n:GTransferConfig):Bool:=decide (n.users.length≤100)
def t6 (n:GTransferConfig):Bool:=decide (0≤n.seed)
def t7 (n:GTransferConfig):Bool:=decide (n.seed≤4294967295)
def ok (n:GTransferConfig):Bool:=Ky.dok n.locF && (t2 n && (t3 n && (t4 n && (t5 n && (t6 n && (t7 n && n.users.all uok))))))
end Tf
theorem four_cells {w:World} {g t:Nat} {z:Nat × Nat} {u0 u1 u2 u3:Value} (h:w.heap[g]?=some (.cells #[u0,u1,u2,u3] t z)):w.cell? ⟨g,0,none⟩=some u0∧w.cell? ⟨g,1,none⟩=some u1∧w.cell? ⟨g,2,none⟩=some u2∧w.cell? ⟨g,3,none⟩=some u3:=by
 refine⟨?_,?_,?_,?_⟩<;>simp[World.cell?,h]
abbrev plTransferFault (n:GTransferConfig):Int:=dcode (Tf.ok n)
theorem specTransferFault (n:GTransferConfig)(v3:Value)(lo:Nat)(w:World)(hI:GTransferConfigIn lo w.heap.size w n v3)(hf:n.fits 1048576) :
  Calls Tryz.prog 13 #[GTransferConfigV n v3] w fun e w'=>e=.returned (.int .i64 (plTransferFault n))∧Below w.heap.size w w':=by
 obtain⟨⟨a3,e3,rfl,s3⟩⟩:=hI
 obtain⟨f0,f3,f3b⟩:=hf
 unfold GTransferConfigV plTransferFault
 obtain⟨V,hV⟩:∃V,V=w.alloc (.cells #[.string n.locF,.bool n.relay,.int .i64 n.maxBytes,.slice a3 n.users.length e3,.int .i64 n.seed] 40):=⟨_,rfl⟩
 have hbV:Below w.heap.size w V:=by rw[hV];exact(Below.refl _ _).alloc (Nat.le_refl _) _
 have c0:V.cell? ⟨w.heap.size,0,none⟩=some (.string n.locF):=by rw[hV];simp
 have c2:V.cell? ⟨w.heap.size,2,none⟩=some (.int .i64 n.maxBytes):=by rw[hV];simp
 have c3:V.cell? ⟨w.heap.size,3,none⟩=some (.slice a3 n.users.length e3):=by rw[hV];simp
 have c4:V.cell? ⟨w.heap.size,4,none⟩=some (.int .i64 n.seed):=by rw[hV];simp
 have hgl:w.heap.size<V.heap.size:=by rw[hV];simp
 have k0:=cell_regrown c0
 have k2:=cell_regrown c2
 have k3:=cell_regrown c3
 have k4:=cell_regrown c4
 have cD:Hid (∀d os,Calls Tryz.prog 40 #[.string n.locF] (Go.Sort.grow (redrawn V d) os) fun e w''=>e=.returned (.bool (Ky.dok n.locF))∧∃p:Regrown,w''=Go.Sort.grow (redrawn V p.d) p.os):=fun d os=>Calls.regrown_of (specKDomain n.locF _ (by omega))
 have cL:Hid (Ky.dok n.locF=true→∀d os,Calls Tryz.prog 18 #[.string n.locF] (Go.Sort.grow (redrawn V d) os) fun e w''=>e=.returned (.string (Ky.low n.locF))∧∃p:Regrown,w''=Go.Sort.grow (redrawn V p.d) p.os):=fun h d os=>Calls.regrown_of (specLower n.locF _ (by have:=Ky.dok_size _ h;omega))
 obtain⟨R,hR⟩:∃R,dcode (Tf.ok n)=R:=⟨_,rfl⟩
 rw[hR]
 replace hR:=mkHid hR
 have S3:=mkHid s3
 have F3:=mkHid f3b
 replace hV:=mkHid hV
 clear s3 f3b
 cases x0:Ky.dok n.locF
 ·rw[x0] at cD
  have hr:Hid (R=1):=show _=_ from by rw[← hR.out,Tf.ok,x0];simp only[Bool.false_and];rfl
  clear x0 hR cL
  go_enter Tryz.func13,Tryz.ntmps13
  go_wp2
  rw[← hV.out]
  refine wp_region_quiet_below (by kernel_rfl) (by kernel_rfl) ?_
  repeat (go_big_quiet_step (first|exact cD.out _ _))
  refine wpQuiet_nil ?_
  intro _ hw'
  obtain⟨⟨dq,osq⟩,hw''⟩:=hw'
  subst hw''
  go_wp2
  go_ret
  rw[hr.out]
  exact⟨rfl,hbV.trans ((below_regrown V dq osq).mono hbV.size)⟩
 ·rw[x0] at cD
  have cL2:Hid (∀d os,Calls Tryz.prog 18 #[.string n.locF] (Go.Sort.grow (redrawn V d) os) fun e w''=>e=.returned (.string (Ky.low n.locF))∧∃p:Regrown,w''=Go.Sort.grow (redrawn V p.d) p.os):=cL.out x0
  cases x1:Tf.t2 n
  ·have y1:((Ky.low n.locF).toList==n.locF.toList)=false:=x1
   have hr:Hid (R=1):=show _=_ from by rw[← hR.out,Tf.ok,x0,x1];simp only[Bool.true_and,Bool.false_and];rfl
   clear x0 x1 hR cL
   go_enter Tryz.func13,Tryz.ntmps13
   go_wp2
   rw[← hV.out]
   refine wp_region_quiet_below (by kernel_rfl) (by kernel_rfl) ?_
   repeat (go_big_quiet_step (first|exact cD.out _ _|exact cL2.out _ _))
   refine wpQuiet_nil ?_
   intro _ hw'
   obtain⟨⟨dq,osq⟩,hw''⟩:=hw'
   subst hw''
   go_wp2
   go_ret
   rw[hr.out]
   exact⟨rfl,hbV.trans ((below_regrown V dq osq).mono hbV.size)⟩
  ·have y1:((Ky.low n.locF).toList==n.locF.toList)=true:=x1
   cases x2:Tf.t3 n
   ·have y2:decide (n.maxBytes<1)=true:=by have:=of_decide_eq_false (show decide (1≤n.maxBytes)=false from x2);exact decide_eq_true (by omega)
    have hr:Hid (R=1):=show _=_ from by rw[← hR.out,Tf.ok,x0,x1,x2];simp only[Bool.true_and,Bool.false_and];rfl
    clear x0 x1 x2 hR cL
    go_enter Tryz.func13,Tryz.ntmps13
    go_wp2
    rw[← hV.out]
    refine wp_region_quiet_below (by kernel_rfl) (by kernel_rfl) ?_
    repeat (go_big_quiet_step (first|exact cD.out _ _|exact cL2.out _ _))
    refine wpQuiet_nil ?_
    intro _ hw'
    obtain⟨⟨dq,osq⟩,hw''⟩:=hw'
    subst hw''
    go_wp2
    go_ret
    rw[hr.out]
    exact⟨rfl,hbV.trans ((below_regrown V dq osq).mono hbV.size)⟩
   ·have y2:decide (n.maxBytes<1)=false:=by have:=of_decide_eq_true (show decide (1≤n.maxBytes)=true from x2);exact decide_eq_false (by omega)
    cases x3:Tf.t4 n
    ·have y3:decide ((100000:Int)<n.maxBytes)=true:=by have:=of_decide_eq_false (show decide (n.maxBytes≤100000)=false from x3);exact decide_eq_true (by omega)
     have hr:Hid (R=1):=show _=_ from by rw[← hR.out,Tf.ok,x0,x1,x2,x3];simp only[Bool.true_and,Bool.false_and];rfl
     clear x0 x1 x2 x3 hR cL
     go_enter Tryz.func13,Tryz.ntmps13
     go_wp2
     rw[← hV.out]
     refine wp_region_quiet_below (by kernel_rfl) (by kernel_rfl) ?_
     repeat (go_big_quiet_step (first|exact cD.out _ _|exact cL2.out _ _))
     refine wpQuiet_nil ?_
     intro _ hw'
     obtain⟨⟨dq,osq⟩,hw''⟩:=hw'
     subst hw''
     go_wp2
     go_ret
     rw[hr.out]
     exact⟨rfl,hbV.trans ((below_regrown V dq osq).mono hbV.size)⟩
    ·have y3:decide ((100000:Int)<n.maxBytes)=false:=by have:=of_decide_eq_true (show decide (n.maxBytes≤100000)=true from x3);exact decide_eq_false (by omega)
     cases x4:Tf.t5 n
     ·have y4:decide ((100:Int)<(n.users.length:Int))=true:=by have:=of_decide_eq_false (show decide (n.users.length≤100)=false from x4);exact decide_eq_true (by omega)
      have hr:Hid (R=1):=show _=_ from by rw[← hR.out,Tf.ok,x0,x1,x2,x3,x4];simp only[Bool.true_and,Bool.false_and];rfl
      clear x0 x1 x2 x3 x4 hR cL
      go_enter Tryz.func13,Tryz.ntmps13
      go_wp2
      rw[← hV.out]
      refine wp_region_quiet_below (by kernel_rfl) (by kernel_rfl) ?_
      repeat (go_big_quiet_step (first|exact cD.out _ _|exact cL2.out _ _))
      refine wpQuiet_nil ?_
      intro _ hw'
      obtain⟨⟨dq,osq⟩,hw''⟩:=hw'
      subst hw''
      go_wp2
      go_ret
      rw[hr.out]
      exact⟨rfl,hbV.trans ((below_regrown V dq osq).mono hbV.size)⟩
     ·have y4:decide ((100:Int)<(n.users.length:Int))=false:=by have:=of_decide_eq_true (show decide (n.users.length≤100)=true from x4);exact decide_eq_false (by omega)
      cases x5:Tf.t6 n
      ·have y5:decide (n.seed<0)=true:=by have:=of_decide_eq_false (show decide (0≤n.seed)=false from x5);exact decide_eq_true (by omega)
       have hr:Hid (R=1):=show _=_ from by rw[← hR.out,Tf.ok,x0,x1,x2,x3,x4,x5];simp only[Bool.true_and,Bool.false_and];rfl
       clear x0 x1 x2 x3 x4 x5 hR cL
       go_enter Tryz.func13,Tryz.ntmps13
       go_wp2
       rw[← hV.out]
       refine wp_region_quiet_below (by kernel_rfl) (by kernel_rfl) ?_
       repeat (go_big_quiet_step (first|exact cD.out _ _|exact cL2.out _ _))
       refine wpQuiet_nil ?_
       intro _ hw'
       obtain⟨⟨dq,osq⟩,hw''⟩:=hw'
       subst hw''
       go_wp2
       go_ret
       rw[hr.out]
       exact⟨rfl,hbV.trans ((below_regrown V dq osq).mono hbV.size)⟩
      ·have y5:decide (n.seed<0)=false:=by have:=of_decide_eq_true (show decide (0≤n.seed)=true from x5);exact decide_eq_false (by omega)
       cases x6:Tf.t7 n
       ·have y6:decide ((4294967295:Int)<n.seed)=true:=by have:=of_decide_eq_false (show decide (n.seed≤4294967295)=false from x6);exact decide_eq_true (by omega)
        have hr:Hid (R=1):=show _=_ from by rw[← hR.out,Tf.ok,x0,x1,x2,x3,x4,x5,x6];simp only[Bool.true_and,Bool.false_and];rfl
        clear x0 x1 x2 x3 x4 x5 x6 hR cL
        go_enter Tryz.func13,Tryz.ntmps13
        go_wp2
        rw[← hV.out]
        refine wp_region_quiet_below (by kernel_rfl) (by kernel_rfl) ?_
        repeat (go_big_quiet_step (first|exact cD.out _ _|exact cL2.out _ _))
        refine wpQuiet_nil ?_
        intro _ hw'
        obtain⟨⟨dq,osq⟩,hw''⟩:=hw'
        subst hw''
        go_wp2
        go_ret
        rw[hr.out]
        exact⟨rfl,hbV.trans ((below_regrown V dq osq).mono hbV.size)⟩
       ·have y6:decide ((4294967295:Int)<n.seed)=false:=by have:=of_decide_eq_true (show decide (n.seed≤4294967295)=true from x6);exact decide_eq_false (by omega)
        have hR2:Hid (dcode ((n.users.drop 0).all Tf.uok)=R):=show _=_ from by rw[List.drop_zero,← hR.out,Tf.ok,x0,x1,x2,x3,x4,x5,x6];simp only[Bool.true_and]
        clear x0 x1 x2 x3 x4 x5 x6 hR cL
        go_enter Tryz.func13,Tryz.ntmps13
        go_wp2
        rw[← hV.out]
        refine wp_region_quiet_below (by kernel_rfl) (by kernel_rfl) ?_
        repeat (go_big_quiet_step (first|exact cD.out _ _|exact cL2.out _ _))
        refine wpQuiet_nil ?_
        intro _ hw'
        obtain⟨⟨dq,osq⟩,hw''⟩:=hw'
        subst hw''
        have hbq:=below_regrown V dq osq
        have hbw:=hbV.trans (hbq.mono hbV.size)
        have p3:=(hbq.cell (p:=⟨w.heap.size,3,none⟩) hgl).trans c3
        have hgq:w.heap.size<(Go.Sort.grow (redrawn V dq) osq).heap.size:=Nat.lt_of_lt_of_le hgl hbq.size
        generalize Go.Sort.grow (redrawn V dq) osq=W at *
        clear c0 c2 c3 c4 k0 k2 k3 k4 cD cL2 hbq hV hbV hgl
        go_wp2
        generalize hG:w.heap.size=G at *
        go_loopw [3] (fun iv wr=>∃ i:Nat,i≤n.users.length∧iv=.int .i64 i∧Hid (dcode ((n.users.drop i).all Tf.uok)=R)∧Hid (Below W.heap.size W wr)) (fun iv _=>n.users.length-(Lib.intOf iv).toNat)
        case atStart=>exact⟨0,Nat.zero_le _,rfl,hR2,Below.refl _ _⟩
        case round=>
         clear hR2
         obtain⟨i,hi',rfl,hRi,hb⟩:=hrel
         have q3:=(hb.out.cell (p:=⟨G,3,none⟩) hgq).trans p3
         have hWG:G≤W.heap.size:=Nat.le_of_lt hgq
         have hbG:=mkHid (hbw.trans (hb.out.mono hWG))
         by_cases hlt:i<n.users.length
         ·obtain⟨a,rfl,ha0,ha,hA0⟩:=S3.out i hlt
          have hA:=hA0.same (Same.of_below (lo:=lo) hbG.out (Nat.le_refl _)) (by rw[add_blockG];exact ha0) (by rw[add_blockG];exact ha)
          have d0:=hA.c0
          have d1:=hA.c1
          have d2:=hA.c2
          have d3:=hA.c3
          obtain⟨g1,g2⟩:=F3.out n.users[i] (List.getElem_mem hlt)
          have hst:Hid (dcode (Tf.uok n.users[i] && (n.users.drop (i+1)).all Tf.uok)=R):=show _=_ from by rw[← hRi.out,Tf.all_drop _ _ _ hlt]
          clear hA hA0 hRi
          generalize n.users[i]=m at *
          obtain⟨U,hU⟩:∃U,U=wr.alloc (.cells #[.string m.domain,.string m.selector,.int .i64 m.a,.int .i64 m.b] 91):=⟨_,rfl⟩
          have bU:Below wr.heap.size wr U:=by rw[hU];exact(Below.refl _ _).alloc (Nat.le_refl _) _
          have hUs:wr.heap.size<U.heap.size:=by rw[hU];simp
          have u0:U.heap[wr.heap.size]?=some (.cells #[.string m.domain,.string m.selector,.int .i64 m.a,.int .i64 m.b] 91 (0,0)):=by rw[hU];exact heap_alloc_at _ _
          have cX:=mkHid (specSignDomain m.domain U (by omega))
          have cY:=mkHid (fun w'=>specSelector m.selector w' (by omega))
          have cZ:=mkHid (fun w'=>specKey m.domain m.selector m.a m.b w')
          have hs2:=hb.out.size
          have hBU:=mkHid (hb.out.trans (bU.mono hs2))
          have HU:=mkHid hU
          clear hU bU
          generalize hGU:wr.heap.size=GU at *
          cases x1:Pl.domOk m.domain.data.toList
          ·rw[x1] at cX
           have hr:Hid (R=1):=show _=_ from by rw[← hst.out,Tf.uok,x1];rfl
           clear x1 hst
           go_wp2_with (go_at_call 41;fail)
           rw[← HU.out]
           refine cX.out.mono ?_
           rintro e w1 ⟨rfl,hb1⟩
           have hbF:=mkHid (hbw.trans ((hBU.out.trans (hb1.mono hBU.out.size)).mono hWG))
           clear cX hb1
           go_wp2
           go_ret
           rw[hr.out]
           first|exact⟨rfl,hbF.out⟩|(rw[hG];exact⟨rfl,hbF.out⟩)
          ·rw[x1] at cX
           cases x2:Pl.selOk m.selector.data.toList
           ·rw[x2] at cY
            have hr:Hid (R=1):=show _=_ from by rw[← hst.out,Tf.uok,x1,x2];rfl
            clear x1 x2 hst
            go_wp2_with (go_at_call 41;fail)
            rw[← HU.out]
            refine cX.out.mono ?_
            rintro e w1 ⟨rfl,hb1⟩
            have hbF:=mkHid (hbw.trans ((hBU.out.trans (hb1.mono hBU.out.size)).mono hWG))
            have u1:=(hb1.block GU (by omega)).trans u0
            obtain⟨-,z1,-,-⟩:=four_cells u1
            clear cX hb1 u0 u1
            go_wp2_with (go_at_call 42;fail)
            refine(cY.out w1).mono ?_
            rintro e w2 ⟨rfl,rfl⟩
            clear cY
            go_wp2
            go_ret
            rw[hr.out]
            first|exact⟨rfl,hbF.out⟩|(rw[hG];exact⟨rfl,hbF.out⟩)
           ·rw[x2] at cY
            go_wp2_with (go_at_call 41;fail)
            rw[← HU.out]
            refine cX.out.mono ?_
            rintro e w1 ⟨rfl,hb1⟩
            have hbX:=mkHid (hBU.out.trans (hb1.mono hBU.out.size))
            have u1:=(hb1.block GU (by omega)).trans u0
            obtain⟨z0,z1,z2,z3⟩:=four_cells u1
            clear cX hb1 u0 HU d0 d1 d2 d3 q3
            go_wp2_with (go_at_call 42;fail)
            refine(cY.out w1).mono ?_
            rintro e w2 ⟨rfl,rfl⟩
            clear cY
            cases x3:keyOk m.a m.b
            ·rw[x3] at cZ
             have hr:Hid (R=1):=show _=_ from by rw[← hst.out,Tf.uok,x1,x2,x3];rfl
             clear x1 x2 x3 hst
             go_wp2_with (go_at_call 43;fail)
             refine(cZ.out w1).mono ?_
             rintro e w3 ⟨rfl,hb3⟩
             have hbF:=mkHid (hbw.trans ((hbX.out.trans (hb3.mono hbX.out.size)).mono hWG))
             clear cZ hb3
             go_wp2
             go_ret
             rw[hr.out]
             first|exact⟨rfl,hbF.out⟩|(rw[hG];exact⟨rfl,hbF.out⟩)
            ·rw[x3] at cZ
             have hr:Hid (dcode ((n.users.drop (i+1)).all Tf.uok)=R):=show _=_ from by rw[← hst.out,Tf.uok,x1,x2,x3];rfl
             clear x1 x2 x3 hst
             go_wp2_with (go_at_call 43;fail)
             refine(cZ.out w1).mono ?_
             rintro e w3 ⟨rfl,hb3⟩
             have hbF:=mkHid (hbX.out.trans (hb3.mono hbX.out.size))
             clear cZ hb3 z0 z1 z2 z3 u1
             go_wp2
             go_roundw
             case rel=>exact⟨i+1,by omega,by go_num,hr,hbF⟩
             case measure=>simp[Lib.intOf];omega
         ·have hr:Hid (R=0):=show _=_ from by rw[← hRi.out,Tf.all_end Tf.uok n.users i (by omega)];rfl
          go_wp2
          go_ret
          rw[hr.out]
          first|exact⟨rfl,hbG.out⟩|(rw[hG];exact⟨rfl,hbG.out⟩)
theorem implFactor (x:Int)(w:World):Calls Tryz.prog 139 #[.int .i64 x] w fun e w'=>e=.returned (.bool (decide (1≤x) && decide (x<2147483647)))∧w=w':=by
 by_cases h1:1≤x
 ·rw[decide_eq_true h1,Bool.true_and]
  go_enter Tryz.func139,Tryz.ntmps139
  go_wp2
  go_ret
  exact⟨rfl,rfl⟩
 ·rw[decide_eq_false h1,Bool.false_and]
  go_enter Tryz.func139,Tryz.ntmps139
  go_wp2
  go_ret
  exact⟨rfl,rfl⟩
theorem implRight (d s:ByteArray)(x y:Int)(w:World) :
  Calls Tryz.prog 105 #[keyV d s x y] w fun e w'=>e=.returned (.bool (keyOk x y))∧Below w.heap.size w w':=by
 have hA:∀ob,Below w.heap.size w (w.alloc ob):=fun ob=>(Below.refl _ _).alloc (Nat.le_refl _) _
 have hX:=fun w=>implFactor x w
 have hY:=fun w=>implFactor y w
 unfold keyOk
 rw[← Bool.and_assoc]
 generalize (decide (1≤x) && decide (x<2147483647))=bx at *
 generalize (decide (1≤y) && decide (y<2147483647))=by' at *
 cases bx
 ·rw[Bool.false_and]
  go_enter Tryz.func105,Tryz.ntmps105
  go_wp2_with fail
  refine(hX _).mono ?_
  rintro e w2 ⟨rfl,rfl⟩
  go_wp2
  go_ret
  exact⟨rfl,hA _⟩
 ·rw[Bool.true_and]
  go_enter Tryz.func105,Tryz.ntmps105
  go_wp2_with fail
  refine(hX _).mono ?_
  rintro e w2 ⟨rfl,rfl⟩
  go_wp2_with fail
  refine(hY _).mono ?_
  rintro e w2 ⟨rfl,rfl⟩
  go_wp2
  go_ret
  exact⟨rfl,hA _⟩
theorem implFromToT (z a b:Int)(w:World):Calls Tryz.prog 29 #[.int .i64 z,.int .i64 a,.int .i64 b] w fun e w'=>e=.returned (.bool (decide (a≤z) && decide (z≤b)))∧w=w':=by
 by_cases h1:a≤z
 ·have u1:=decide_eq_true h1
  rw[u1]
  go_enter Tryz.func29,Tryz.ntmps29
  go_wp2
  go_ret
  exact⟨rfl,rfl⟩
 ·have u1:=decide_eq_false h1
  rw[u1]
  go_enter Tryz.func29,Tryz.ntmps29
  go_wp2
  go_ret
  exact⟨rfl,rfl⟩
theorem implFormT (b:Bool)(w:World):Calls Tryz.prog 24 #[.bool b] w fun e w'=>e=.returned (.int .i64 (dcode b))∧w=w':=by
 cases b
 all_goals
  go_enter Tryz.func24,Tryz.ntmps24
  go_wp2
  go_ret
  exact⟨rfl,rfl⟩
abbrev bxK (n:GSignKey):Obj:=.cells #[.string n.domain,.string n.selector,.int .i64 n.a,.int .i64 n.b] 91
theorem boxK_cells (n:GSignKey)(w w2:World)(hb:Below (w.alloc (bxK n)).heap.size (w.alloc (bxK n)) w2) :
  w2.cell? ⟨w.heap.size,0,none⟩=some (.string n.domain)∧w2.cell? ⟨w.heap.size,1,none⟩=some (.string n.selector)∧w2.cell? ⟨w.heap.size,2,none⟩=some (.int .i64 n.a)∧w2.cell? ⟨w.heap.size,3,none⟩=some (.int .i64 n.b):=by
 refine⟨(hb.cell (p:=⟨w.heap.size,0,none⟩) (by simp)).trans ?_,(hb.cell (p:=⟨w.heap.size,1,none⟩) (by simp)).trans ?_,(hb.cell (p:=⟨w.heap.size,2,none⟩) (by simp)).trans ?_,(hb.cell (p:=⟨w.heap.size,3,none⟩) (by simp)).trans ?_⟩<;>simp
theorem implNoSignKey (n:GSignKey)(mx:Int)(w:World)(hf:n.fits 1048576)(hm:w.cell? ⟨0,0,none⟩=some (.int .i64 mx)) :
  Calls Tryz.prog 60 #[GSignKeyV n] w fun e w'=>e=.returned (.bool (!Tf.uok n))∧Below w.heap.size w w':=by
 obtain⟨f0,f1⟩:=hf
 have hlt:=bcell_lt hm
 obtain⟨V,hV⟩:∃V,w.alloc (bxK n)=V:=⟨_,rfl⟩
 have hbV:Below w.heap.size w V:=by rw[← hV];exact(Below.refl _ _).alloc (Nat.le_refl _) _
 have hmV:V.cell? ⟨0,0,none⟩=some (.int .i64 mx):=(hbV.cell hlt).trans hm
 have qA:=mkHid (implSignDomain n.domain mx V (by omega) hmV)
 have qB:=mkHid (fun (W:World)=>implSelector n.selector W (by omega))
 have qC:=mkHid (fun (W:World)=>implRight n.domain n.selector n.a n.b W)
 have HC:=mkHid (fun (W:World) (hb:Below V.heap.size V W)=>boxK_cells n w W (by rw[hV];exact hb))
 clear hm hmV
 unfold GSignKeyV Tf.uok
 have HV:=mkHid hV
 have HbV:=mkHid hbV
 clear hV hbV
 generalize Pl.domOk n.domain.data.toList=b1 at *
 generalize Pl.selOk n.selector.data.toList=b2 at *
 generalize keyOk n.a n.b=b3 at *
 cases b1
 ·go_enter Tryz.func60,Tryz.ntmps60
  go_wp2_with fail
  rw[HV.out]
  refine qA.out.mono ?_
  rintro e w1 ⟨rfl,hb1⟩
  have D1:=mkHid (HbV.out.trans (hb1.mono HbV.out.size))
  obtain⟨c0,c1,c2,c3⟩:=HC.out w1 hb1
  clear hb1
  go_wp2
  go_ret
  exact⟨by simp,D1.out⟩
 cases b2
 ·go_enter Tryz.func60,Tryz.ntmps60
  go_wp2_with fail
  rw[HV.out]
  refine qA.out.mono ?_
  rintro e w1 ⟨rfl,hb1⟩
  have D1:=mkHid (HbV.out.trans (hb1.mono HbV.out.size))
  obtain⟨c0,c1,c2,c3⟩:=HC.out w1 hb1
  clear hb1
  go_wp2_with fail
  refine(qB.out _).mono ?_
  rintro e w2 ⟨rfl,rfl⟩
  go_wp2
  go_ret
  exact⟨by simp,D1.out⟩
 go_enter Tryz.func60,Tryz.ntmps60
 go_wp2_with fail
 rw[HV.out]
 refine qA.out.mono ?_
 rintro e w1 ⟨rfl,hb1⟩
 have D1:=mkHid (HbV.out.trans (hb1.mono HbV.out.size))
 obtain⟨c0,c1,c2,c3⟩:=HC.out w1 hb1
 clear hb1
 go_wp2_with fail
 refine(qB.out _).mono ?_
 rintro e w2 ⟨rfl,rfl⟩
 go_wp2_with fail
 refine(qC.out _).mono ?_
 rintro e w3 ⟨rfl,hb3⟩
 have D3:=mkHid (D1.out.trans (hb3.mono D1.out.size))
 clear hb3
 go_wp2
 go_ret
 exact⟨by simp,D3.out⟩
theorem implIndexQK (o:Option Addr)(F:List GSignKey)(cap lo:Nat)(mx:Int)(w:World)(hF:GSignKeysL lo w.heap.size w o F)(hl:F.length≤1048576)(hsz:∀t ∈ F,t.fits 1048576)(hm:w.cell? ⟨0,0,none⟩=some (.int .i64 mx)) :
  Calls Tryz.prog 102 #[.slice o F.length cap,.func (.func 60) #[] #[]] w fun e w'=>∃ i:Int,e=.returned (.int .i64 i)∧decide (0≤i) = !F.all Tf.uok∧Below w.heap.size w w':=by
 have hE:∀(args:Array Value) (w:World),(callFunc 60 args).run Tryz.prog w=.ok (.enter 60 args) w:=Go.Proofs.enters_of Tryz.func60 (by kernel_rfl) rfl
 have hlt0:=bcell_lt hm
 have HF:=mkHid hF
 have Hm:=mkHid hm
 have Hsz:=mkHid hsz
 clear hF hm hsz
 obtain⟨R,hR⟩:∃R,F.all Tf.uok=R:=⟨_,rfl⟩
 have HR:Hid ((F.drop 0).all Tf.uok=R):=hR
 rw[hR]
 clear hR
 go_enter Tryz.func102,Tryz.ntmps102
 go_wp2
 go_loopw [5,8] (fun _ iv wr=>∃ k:Nat,k≤F.length∧iv=.int .i64 k∧Hid ((F.drop k).all Tf.uok=R)∧Hid (Below w.heap.size w wr)) (fun _ iv _=>F.length-(Lib.intOf iv).toNat)
 case atStart=>exact⟨0,Nat.zero_le _,rfl,HR,Below.refl _ _⟩
 case round=>
  clear HR
  obtain⟨k,hk,rfl,hp,hB⟩:=hrel
  by_cases hlt:k<F.length
  ·obtain⟨a,rfl,ha1,ha2,hAt⟩:=((HF.out.below hB.out (Nat.le_refl _)).mono (Nat.le_refl _) hB.out.size) k hlt
   have hst:=Tf.all_drop Tf.uok F k hlt
   rw[hp.out] at hst
   have cN:=mkHid (implNoSignKey F[k] mx wr (Hsz.out _ (List.getElem_mem hlt)) ((hB.out.cell hlt0).trans Hm.out))
   have d0:=hAt.c0
   have d1:=hAt.c1
   have d2:=hAt.c2
   have d3:=hAt.c3
   clear hAt
   have Hst:=mkHid hst
   clear hst hp
   unfold GSignKeyV at cN
   generalize Tf.uok F[k]=nb at *
   generalize F[k]=x at *
   go_wp2_with fail
   refine cN.out.mono ?_
   rintro e w1 ⟨rfl,hb1⟩
   have hB1:=mkHid (hB.out.trans (hb1.mono hB.out.size))
   clear cN hb1 hB
   cases nb
   ·have hR:R=false:=by rw[Hst.out,Bool.false_and]
    subst hR
    clear Hst
    go_wp2
    go_ret
    exact⟨k,rfl,by simp,hB1.out⟩
   ·have HN:Hid ((F.drop (k+1)).all Tf.uok=R):=by show _=_;rw[Hst.out,Bool.true_and]
    clear Hst
    go_wp2
    go_roundw
    case rel=>exact⟨k+1,by omega,by go_num,HN,hB1⟩
    case measure=>simp[Lib.intOf];omega
  ·have hR:R=true:=by rw[← hp.out,List.drop_eq_nil_of_le (by omega)];rfl
   subst hR
   clear hp
   go_wp2
   go_ret
   exact⟨-1,rfl,rfl,hB.out⟩
theorem implContainsQK (o:Option Addr)(F:List GSignKey)(cap lo:Nat)(mx:Int)(w:World)(hF:GSignKeysL lo w.heap.size w o F)(hl:F.length≤1048576)(hsz:∀t ∈ F,t.fits 1048576)(hm:w.cell? ⟨0,0,none⟩=some (.int .i64 mx)) :
  Calls Tryz.prog 59 #[.slice o F.length cap,.func (.func 60) #[] #[]] w fun e w'=>e=.returned (.bool (!F.all Tf.uok))∧Below w.heap.size w w':=by
 have hI:=mkHid (implIndexQK o F cap lo mx w hF hl hsz hm)
 clear hF hm hsz
 go_enter Tryz.func59,Tryz.ntmps59
 go_wp2_with fail
 refine hI.out.mono ?_
 rintro e w2 ⟨i,rfl,hi,hb⟩
 go_wp2
 go_ret
 exact⟨by rw[← hi];rfl,hb⟩
abbrev bxT (n:GTransferConfig)(v3:Value):Obj:=.cells #[.string n.locF,.bool n.relay,.int .i64 n.maxBytes,v3,.int .i64 n.seed] 40
theorem boxT_cells (n:GTransferConfig)(v3:Value)(w w2:World)(hb:Below (w.alloc (bxT n v3)).heap.size (w.alloc (bxT n v3)) w2) :
  w2.cell? ⟨w.heap.size,2,none⟩=some (.int .i64 n.maxBytes)∧w2.cell? ⟨w.heap.size,3,none⟩=some v3∧w2.cell? ⟨w.heap.size,4,none⟩=some (.int .i64 n.seed):=by
 refine⟨(hb.cell (p:=⟨w.heap.size,2,none⟩) (by simp)).trans ?_,(hb.cell (p:=⟨w.heap.size,3,none⟩) (by simp)).trans ?_,(hb.cell (p:=⟨w.heap.size,4,none⟩) (by simp)).trans ?_⟩<;>simp
def Tf.imp (n:GTransferConfig):Bool:=(Ky.dok n.locF && Tf.t2 n) && ((Tf.t3 n && Tf.t4 n) && ((Tf.t6 n && Tf.t7 n) && (Tf.t5 n && n.users.all Tf.uok)))
theorem Tf.imp_eq (n:GTransferConfig):Tf.imp n=Tf.ok n:=by
 unfold Tf.imp Tf.ok
 cases Ky.dok n.locF<;>cases Tf.t2 n<;>cases Tf.t3 n<;>cases Tf.t4 n<;>cases Tf.t5 n<;>cases Tf.t6 n<;>cases Tf.t7 n<;>cases n.users.all Tf.uok<;>rfl
theorem implTransferFault (n:GTransferConfig)(v3:Value)(lo:Nat)(mx:Int)(w:World)(hI:GTransferConfigIn lo w.heap.size w n v3)(hf:n.fits 1048576)(hm:w.cell? ⟨0,0,none⟩=some (.int .i64 mx)) :
  Calls Tryz.prog 25 #[GTransferConfigV n v3] w fun e w'=>e=.returned (.int .i64 (plTransferFault n))∧Below w.heap.size w w':=by
 unfold plTransferFault
 rw[← Tf.imp_eq]
 obtain⟨⟨a3,e3,rfl,s3⟩⟩:=hI
 obtain⟨f0,f3,f3b⟩:=hf
 have hlt:=bcell_lt hm
 obtain⟨V,hV⟩:∃V,w.alloc (bxT n (.slice a3 n.users.length e3))=V:=⟨_,rfl⟩
 have hbV:Below w.heap.size w V:=by rw[← hV];exact(Below.refl _ _).alloc (Nat.le_refl _) _
 have hmV:V.cell? ⟨0,0,none⟩=some (.int .i64 mx):=(hbV.cell hlt).trans hm
 have q1:=mkHid (implLocalDomain n.locF mx V f0 hmV)
 have S3:=mkHid s3
 have Hm:=mkHid hm
 have HC:=mkHid (fun (W:World) (hb:Below V.heap.size V W)=>boxT_cells n (.slice a3 n.users.length e3) w W (by rw[hV];exact hb))
 have q2:=mkHid (fun (W:World)=>implFromToT n.maxBytes 1 100000 W)
 have q3:=mkHid (fun (W:World)=>implFromToT n.seed 0 4294967295 W)
 have q4:=mkHid (fun (W:World) (hb:Below w.heap.size w W)=>implContainsQK a3 n.users e3 lo mx W ((S3.out.below hb (Nat.le_refl _)).mono (Nat.le_refl _) hb.size) f3 f3b ((hb.cell hlt).trans Hm.out))
 have q5:=mkHid (fun (b:Bool) (W:World)=>implFormT b W)
 have h4:decide ((n.users.length:Int)≤100)=Tf.t5 n:=by
  unfold Tf.t5
  apply decide_eq_decide.2
  omega
 rw[show(decide ((1:Int)≤n.maxBytes) && decide (n.maxBytes≤100000))=(Tf.t3 n && Tf.t4 n) from rfl] at q2
 rw[show(decide ((0:Int)≤n.seed) && decide (n.seed≤4294967295))=(Tf.t6 n && Tf.t7 n) from rfl] at q3
 rw[show((Ky.low n.locF).toList==n.locF.toList)=Tf.t2 n from rfl] at q1
 clear hm hmV s3 f3b
 unfold GTransferConfigV Tf.imp
 have HV:=mkHid hV
 have HbV:=mkHid hbV
 clear hV hbV
 generalize (Ky.dok n.locF && Tf.t2 n)=b1 at *
 generalize (Tf.t3 n && Tf.t4 n)=b2 at *
 generalize (Tf.t6 n && Tf.t7 n)=b3 at *
 generalize Tf.t5 n=b4 at *
 generalize n.users.all Tf.uok=b5 at *
 cases b1
 ·go_enter Tryz.func25,Tryz.ntmps25
  go_wp2_with fail
  rw[HV.out]
  refine q1.out.mono ?_
  rintro e w1 ⟨rfl,hb1⟩
  have D1:=mkHid (HbV.out.trans (hb1.mono HbV.out.size))
  obtain⟨c2,c3,c4⟩:=HC.out w1 hb1
  clear hb1
  go_wp2_with fail
  refine(q5.out _ _).mono ?_
  rintro e w5 ⟨rfl,rfl⟩
  go_wp2
  go_ret
  exact⟨by simp,D1.out⟩
 cases b2
 ·go_enter Tryz.func25,Tryz.ntmps25
  go_wp2_with fail
  rw[HV.out]
  refine q1.out.mono ?_
  rintro e w1 ⟨rfl,hb1⟩
  have D1:=mkHid (HbV.out.trans (hb1.mono HbV.out.size))
  obtain⟨c2,c3,c4⟩:=HC.out w1 hb1
  clear hb1
  go_wp2_with fail
  refine(q2.out _).mono ?_
  rintro e w2 ⟨rfl,rfl⟩
  go_wp2_with fail
  refine(q5.out _ _).mono ?_
  rintro e w5 ⟨rfl,rfl⟩
  go_wp2
  go_ret
  exact⟨by simp,D1.out⟩
 cases b3
 ·go_enter Tryz.func25,Tryz.ntmps25
  go_wp2_with fail
  rw[HV.out]
  refine q1.out.mono ?_
  rintro e w1 ⟨rfl,hb1⟩
  have D1:=mkHid (HbV.out.trans (hb1.mono HbV.out.size))
  obtain⟨c2,c3,c4⟩:=HC.out w1 hb1
  clear hb1
  go_wp2_with fail
  refine(q2.out _).mono ?_
  rintro e w2 ⟨rfl,rfl⟩
  go_wp2_with fail
  refine(q3.out _).mono ?_
  rintro e w3 ⟨rfl,rfl⟩
  go_wp2_with fail
  refine(q5.out _ _).mono ?_
  rintro e w5 ⟨rfl,rfl⟩
  go_wp2
  go_ret
  exact⟨by simp,D1.out⟩
 cases b4
 ·go_enter Tryz.func25,Tryz.ntmps25
  go_wp2_with fail
  rw[HV.out]
  refine q1.out.mono ?_
  rintro e w1 ⟨rfl,hb1⟩
  have D1:=mkHid (HbV.out.trans (hb1.mono HbV.out.size))
  obtain⟨c2,c3,c4⟩:=HC.out w1 hb1
  clear hb1
  go_wp2_with fail
  refine(q2.out _).mono ?_
  rintro e w2 ⟨rfl,rfl⟩
  go_wp2_with fail
  refine(q3.out _).mono ?_
  rintro e w3 ⟨rfl,rfl⟩
  go_wp2_with fail
  refine(q5.out _ _).mono ?_
  rintro e w5 ⟨rfl,rfl⟩
  go_wp2
  go_ret
  exact⟨by simp,D1.out⟩
 go_enter Tryz.func25,Tryz.ntmps25
 go_wp2_with fail
 rw[HV.out]
 refine q1.out.mono ?_
 rintro e w1 ⟨rfl,hb1⟩
 have D1:=mkHid (HbV.out.trans (hb1.mono HbV.out.size))
 obtain⟨c2,c3,c4⟩:=HC.out w1 hb1
 clear hb1
 go_wp2_with fail
 refine(q2.out _).mono ?_
 rintro e w2 ⟨rfl,rfl⟩
 go_wp2_with fail
 refine(q3.out _).mono ?_
 rintro e w3 ⟨rfl,rfl⟩
 go_wp2_with fail
 refine(q4.out _ D1.out).mono ?_
 rintro e w4 ⟨rfl,hb4⟩
 have D4:=mkHid (D1.out.trans (hb4.mono D1.out.size))
 clear hb4
 go_wp2_with fail
 refine(q5.out _ _).mono ?_
 rintro e w5 ⟨rfl,rfl⟩
 go_wp2
 go_ret
 exact⟨by simp,D4.out⟩
abbrev box3 (n l d:ByteArray):Value:=.agg #[.string n,.string l,.string d]
def addrOk (n l d:ByteArray):Bool:=decide (1≤l.size) && (decide (l.size≤64) && (l.data.toList.all Pl.tb && (decide (n.size≤200) && (n.data.toList.all Pl.tb && Pl.domI d.data.toList))))
theorem implIsName (s:ByteArray)(w:World)(hs:s.size≤1100000) :
  Calls Tryz.prog 231 #[.string s] w fun e w'=>e=.returned (.bool (decide (s.size≤200) && s.data.toList.all Pl.tb))∧w=w':=by
 by_cases hn:s.size≤200
 ·have ha:=implAllOf kindText s w hs
  rw[decide_eq_true hn,Bool.true_and]
  generalize s.data.toList.all Pl.tb=b at *
  go_enter Tryz.func231,Tryz.ntmps231
  go_wp2_with (go_at_call 120;go_must (refine ha.mono ?_;rintro e w2 ⟨rfl,rfl⟩))
  go_ret
  exact⟨rfl,rfl⟩
 ·rw[decide_eq_false hn,Bool.false_and]
  go_enter Tryz.func231,Tryz.ntmps231
  go_wp2
  go_ret
  exact⟨rfl,rfl⟩
theorem specIsName (s:ByteArray)(w:World)(hs:s.size≤1100000) :
  Calls Tryz.prog 158 #[.string s] w fun e w'=>e=.returned (.bool (decide (s.size≤200) && s.data.toList.all Pl.tb))∧w=w':=by
 by_cases hn:s.size≤200
 ·have ha:=specClean s w hs
  rw[decide_eq_true hn,Bool.true_and]
  generalize s.data.toList.all Pl.tb=b at *
  go_enter Tryz.func158,Tryz.ntmps158
  go_wp2_with (go_at_call 157;go_must (refine ha.mono ?_;rintro e w2 ⟨rfl,rfl⟩))
  go_ret
  exact⟨rfl,rfl⟩
 ·rw[decide_eq_false hn,Bool.false_and]
  go_enter Tryz.func158,Tryz.ntmps158
  go_wp2
  go_ret
  exact⟨rfl,rfl⟩
theorem isEmpty_of (q:ByteArray)(h0:q.size=0):q.toList.isEmpty=true:=by
 rw[ByteArray.toList_eq,List.isEmpty_iff]
 exact List.length_eq_zero_iff.1 (by rw[Pl.len_list];exact h0)
theorem isEmpty_ne (q:ByteArray)(h0:¬q.size=0):q.toList.isEmpty=false:=by
 rw[ByteArray.toList_eq,List.isEmpty_eq_false_iff]
 intro e
 exact h0 (by rw[← Pl.len_list,e];rfl)
theorem cell_alloc {w:World} {v:Value} {a:Addr} (b:Obj)(h:w.cell? a=some v):(w.alloc b).cell? a=some v:=by
 have hb:Below w.heap.size w (w.alloc b):=(Below.refl _ _).alloc (Nat.le_refl _) _
 exact(hb.cell (bcell_lt h)).trans h
theorem implAddress (n l d:ByteArray)(m:Int)(w:World)(hn:n.size≤1100000)(hl:l.size≤1100000)(hd:d.size≤1100000)(hm:w.cell? ⟨0,0,none⟩=some (.int .i64 m)) :
  Calls Tryz.prog 213 #[box3 n l d] w fun e w'=>e=.returned (.int .i64 (dcode (addrOk n l d)))∧Below w.heap.size w w':=by
 have hN:=fun w=>implIsName n w hn
 have hA:=fun w=>implAllOf kindText l w hl
 have hD:=fun w hm=>implDomain d m w hd hm
 have hm':=fun b=>cell_alloc b hm
 have hbA:∀b,Below w.heap.size w (w.alloc b):=fun b=>(Below.refl _ _).alloc (Nat.le_refl _) _
 unfold addrOk
 generalize Pl.domI d.data.toList=b3 at *
 by_cases h0:l.size=0
 ·have hE:=isEmpty_of l h0
  rw[decide_eq_false (by omega),Bool.false_and]
  clear hD hm hm'
  go_enter Tryz.func213,Tryz.ntmps213
  go_wp2
  go_ret
  exact⟨rfl,hbA _⟩
 have hE:=isEmpty_ne l h0
 rw[decide_eq_true (by omega),Bool.true_and]
 by_cases h1:64<l.size
 ·rw[decide_eq_false (by omega),Bool.false_and]
  clear hD hm hm'
  go_enter Tryz.func213,Tryz.ntmps213
  go_wp2
  go_ret
  exact⟨rfl,hbA _⟩
 rw[decide_eq_true (by omega),Bool.true_and]
 generalize l.data.toList.all Pl.tb=b1 at *
 rw[← Bool.and_assoc (decide (n.size≤200))]
 generalize (decide (n.size≤200) && n.data.toList.all Pl.tb)=b2 at *
 have HD:=(show Hid _ from hD)
 have HM:=(show Hid _ from hm')
 clear hD hm hm'
 cases b1
 ·go_enter Tryz.func213,Tryz.ntmps213
  go_wp2_with (go_at_call 120;go_must (refine(hA _).mono ?_;rintro e w2 ⟨rfl,rfl⟩))
  go_ret
  exact⟨rfl,hbA _⟩
 cases b2
 ·go_enter Tryz.func213,Tryz.ntmps213
  go_wp2_with first|(go_at_call 120;go_must (refine(hA _).mono ?_;rintro e w2 ⟨rfl,rfl⟩))|(go_at_call 231;go_must (refine(hN _).mono ?_;rintro e w2 ⟨rfl,rfl⟩))
  go_ret
  exact⟨rfl,hbA _⟩
 ·go_enter Tryz.func213,Tryz.ntmps213
  go_wp2_with first|(go_at_call 120;go_must (refine(hA _).mono ?_;rintro e w2 ⟨rfl,rfl⟩))|(go_at_call 231;go_must (refine(hN _).mono ?_;rintro e w2 ⟨rfl,rfl⟩))|(go_at_call 135;go_must (refine(HD.out _ (HM.out _)).mono ?_;rintro e w3 ⟨rfl,hb3⟩))
  go_ret
  exact⟨rfl,(hbA _).trans (hb3.mono (hbA _).size)⟩
theorem specAddress (n l d:ByteArray)(w:World)(hn:n.size≤1100000)(hl:l.size≤1100000)(hd:d.size≤1100000) :
  Calls Tryz.prog 129 #[box3 n l d] w fun e w'=>e=.returned (.int .i64 (dcode (addrOk n l d)))∧Below w.heap.size w w':=by
 have hN:=fun w=>specIsName n w hn
 have hA:=fun w=>specClean l w hl
 have hD:=fun w=>specDomain d w hd
 have hbA:∀b,Below w.heap.size w (w.alloc b):=fun b=>(Below.refl _ _).alloc (Nat.le_refl _) _
 unfold addrOk
 generalize Pl.domI d.data.toList=b3 at *
 by_cases h0:l.size=0
 ·rw[decide_eq_false (by omega),Bool.false_and]
  go_enter Tryz.func129,Tryz.ntmps129
  go_wp2
  go_ret
  exact⟨rfl,hbA _⟩
 rw[decide_eq_true (by omega),Bool.true_and]
 by_cases h1:64<l.size
 ·rw[decide_eq_false (by omega),Bool.false_and]
  go_enter Tryz.func129,Tryz.ntmps129
  go_wp2
  go_ret
  exact⟨rfl,hbA _⟩
 rw[decide_eq_true (by omega),Bool.true_and]
 generalize l.data.toList.all Pl.tb=b1 at *
 rw[← Bool.and_assoc (decide (n.size≤200))]
 generalize (decide (n.size≤200) && n.data.toList.all Pl.tb)=b2 at *
 cases b1
 ·go_enter Tryz.func129,Tryz.ntmps129
  go_wp2_with (go_at_call 157;go_must (refine(hA _).mono ?_;rintro e w2 ⟨rfl,rfl⟩))
  go_ret
  exact⟨rfl,hbA _⟩
 have hcell:∀(b:TypeId) (w3:World),Below (w.alloc (.cells #[.string n,.string l,.string d] b)).heap.size (w.alloc (.cells #[.string n,.string l,.string d] b)) w3→w3.cell? ⟨w.heap.size,0,none⟩=some (.string n):=by
  intro b w3 hb
  refine(hb.cell (p:=⟨w.heap.size,0,none⟩) (by simp)).trans ?_
  simp
 cases b3
 all_goals
  cases b2
  all_goals
   go_enter Tryz.func129,Tryz.ntmps129
   go_wp2_with first|(go_at_call 157;go_must (refine(hA _).mono ?_;rintro e w2 ⟨rfl,rfl⟩))|(go_at_call 82;go_must (refine(hD _).mono ?_;rintro e w3 ⟨rfl,hb3⟩;have hc3:=hcell _ _ hb3;simp only[dcode]))|(go_at_call 158;go_must (refine(hN _).mono ?_;rintro e w4 ⟨rfl,rfl⟩))
   go_ret
   exact⟨rfl,(hbA _).trans (hb3.mono (hbA _).size)⟩
theorem addrOk_sizes (n l d:ByteArray)(h:addrOk n l d=true):n.size≤200∧l.size≤64∧d.size≤255:=by
 simp only[addrOk,Bool.and_eq_true,decide_eq_true_eq,Pl.domI] at h
 obtain⟨_,h1,_,h2,_,h3,_⟩:=h
 exact⟨h2,h1,by simpa using h3⟩
abbrev bx (n l d:ByteArray):Obj:=.cells #[.string n,.string l,.string d] 189
theorem box_cells (n l d:ByteArray)(w w2:World)(hb:Below (w.alloc (bx n l d)).heap.size (w.alloc (bx n l d)) w2) :
  w2.cell? ⟨w.heap.size,0,none⟩=some (.string n)∧w2.cell? ⟨w.heap.size,1,none⟩=some (.string l)∧w2.cell? ⟨w.heap.size,2,none⟩=some (.string d):=by
 refine⟨(hb.cell (p:=⟨w.heap.size,0,none⟩) (by simp)).trans ?_,(hb.cell (p:=⟨w.heap.size,1,none⟩) (by simp)).trans ?_,(hb.cell (p:=⟨w.heap.size,2,none⟩) (by simp)).trans ?_⟩<;>simp
def keyT (n l d:ByteArray):ByteArray:=if addrOk n l d then l++⟨#[64]⟩++⟨(lower d.data.toList).toArray⟩ else ⟨#[]⟩
theorem implKey (n l d:ByteArray)(m:Int)(w:World)(hn:n.size≤1100000)(hl:l.size≤1100000)(hd:d.size≤1100000)(hm:w.cell? ⟨0,0,none⟩=some (.int .i64 m)) :
  Calls Tryz.prog 191 #[box3 n l d] w fun e w'=>e=.returned (.string (keyT n l d))∧Below w.heap.size w w':=by
 have hA:=implAddress n l d m (w.alloc (bx n l d)) hn hl hd (cell_alloc _ hm)
 have hbA:Below w.heap.size w (w.alloc (bx n l d)):=(Below.refl _ _).alloc (Nat.le_refl _) _
 cases hok:addrOk n l d
 ·rw[keyT,hok]
  rw[hok] at hA
  clear hm
  go_enter Tryz.func191,Tryz.ntmps191
  go_wp2_with (go_at_call 213;go_must (refine hA.mono ?_;rintro e w2 ⟨rfl,hb2⟩;simp only[dcode]))
  go_ret
  exact⟨rfl,hbA.trans (hb2.mono hbA.size)⟩
 ·obtain⟨s0,s1,s2⟩:=addrOk_sizes n l d hok
  rw[keyT,hok]
  rw[hok] at hA
  have hL:=fun w=>implLowered d w (by omega)
  have hxs:(ByteArray.mk (lower d.data.toList).toArray).size≤255:=by
   show(lower d.data.toList).toArray.size≤255
   simp[lower];omega
  generalize ByteArray.mk (lower d.data.toList).toArray=x at *
  clear hm hok
  go_enter Tryz.func191,Tryz.ntmps191
  go_wp2_with (go_at_call 213;go_must (refine hA.mono ?_;rintro e w2 ⟨rfl,hb2⟩;simp only[dcode];obtain⟨c0,c1,c2⟩:=box_cells n l d w w2 hb2;have Hc:=(show Hid (∀w3,Below w2.heap.size w2 w3→w3.cell? ⟨w.heap.size,1,none⟩=some (.string l)) from fun w3 h=>(box_cells n l d w w3 (hb2.trans (h.mono hb2.size))).2.1)))
  go_region_with (go_at_call 64;(refine(hL _).mono ?_;rintro e w3 ⟨rfl,hb3⟩;have c3:=Hc.out w3 (((Below.refl w2.heap.size w2).drew).trans hb3)))
  all_goals
   go_wp2
   go_ret
   exact⟨rfl,hbA.trans ((hb2.trans ((((Below.refl w2.heap.size w2).drew).trans hb3).mono hb2.size)).mono hbA.size)⟩
theorem specKeyB (n l d:ByteArray)(w:World)(hn:n.size≤1100000)(hl:l.size≤1100000)(hd:d.size≤1100000) :
  Calls Tryz.prog 130 #[box3 n l d] w fun e w'=>e=.returned (.string (keyT n l d))∧Below w.heap.size w w':=by
 have hA:=specAddress n l d (w.alloc (bx n l d)) hn hl hd
 have hbA:Below w.heap.size w (w.alloc (bx n l d)):=(Below.refl _ _).alloc (Nat.le_refl _) _
 cases hok:addrOk n l d
 ·rw[keyT,hok]
  rw[hok] at hA
  go_enter Tryz.func130,Tryz.ntmps130
  go_wp2_with (go_at_call 129;go_must (refine hA.mono ?_;rintro e w2 ⟨rfl,hb2⟩;simp only[dcode]))
  go_ret
  exact⟨rfl,hbA.trans (hb2.mono hbA.size)⟩
 ·obtain⟨s0,s1,s2⟩:=addrOk_sizes n l d hok
  rw[keyT,hok]
  rw[hok] at hA
  have hL:=fun w=>specLower d w (by omega)
  have hxs:(ByteArray.mk (lower d.data.toList).toArray).size≤255:=by
   show(lower d.data.toList).toArray.size≤255
   simp[lower];omega
  generalize ByteArray.mk (lower d.data.toList).toArray=x at *
  clear hok
  go_enter Tryz.func130,Tryz.ntmps130
  go_wp2_with (go_at_call 129;go_must (refine hA.mono ?_;rintro e w2 ⟨rfl,hb2⟩;simp only[dcode];obtain⟨c0,c1,c2⟩:=box_cells n l d w w2 hb2;have Hc:=(show Hid (∀w3,Below w2.heap.size w2 w3→w3.cell? ⟨w.heap.size,1,none⟩=some (.string l)) from fun w3 h=>(box_cells n l d w w3 (hb2.trans (h.mono hb2.size))).2.1)))
  go_region_with (go_at_call 18;(refine(hL _).mono ?_;rintro e w3 ⟨rfl,hb3⟩;have c3:=Hc.out w3 (((Below.refl w2.heap.size w2).drew).trans hb3)))
  all_goals
   go_wp2
   go_ret
   exact⟨rfl,hbA.trans ((hb2.trans ((((Below.refl w2.heap.size w2).drew).trans hb3).mono hb2.size)).mono hbA.size)⟩
namespace Ky
def lastTo (l:List UInt8):Nat→Int
 | 0=>-1
 | n+1=>if l[n]?.getD 0=64 then (n:Int) else lastTo l n
def last (l:List UInt8):Int:=lastTo l l.length
theorem lastTo_in (l:List UInt8):∀n,-1≤lastTo l n∧lastTo l n<(n:Int)
 | 0=>by simp[lastTo]
 | n+1=>by
  unfold lastTo
  have:=lastTo_in l n
  split<;>omega
theorem lastTo_yes (l:List UInt8)(n:Nat)(h:n<l.length)(h64:l[n]=64):lastTo l (n+1)=(n:Int):=by
 unfold lastTo
 rw[List.getElem?_eq_getElem h,Option.getD_some,if_pos h64]
theorem lastTo_no (l:List UInt8)(n:Nat)(h:n<l.length)(h64:l[n]≠64):lastTo l (n+1)=lastTo l n:=by
 conv=>lhs;unfold lastTo
 rw[List.getElem?_eq_getElem h,Option.getD_some,if_neg h64]
def loc (s:ByteArray):ByteArray:=s.extract 0 (last s.data.toList).toNat
def dom (s:ByteArray):ByteArray:=s.extract ((last s.data.toList).toNat+1) s.size
def ok (s:ByteArray):Bool:=decide (0≤last s.data.toList) && (decide (s.size≤400) && (addrOk ⟨#[]⟩ (loc s) (dom s) && (((keyT ⟨#[]⟩ (loc s) (dom s)).toList==s.toList) && !open_ (dom s))))
end Ky
theorem specLastAt (s:ByteArray)(w:World)(hs:s.size≤1100000) :
  Calls Tryz.prog 128 #[.string s] w fun e w'=>e=.returned (.int .i64 (Ky.last s.data.toList))∧Below w.heap.size w w':=by
 have hll:s.data.toList.length=s.size:=by simp
 obtain⟨R,hR⟩:∃R,Ky.last s.data.toList=R:=⟨_,rfl⟩
 rw[hR]
 replace hR:Hid (Ky.lastTo s.data.toList s.size=R):=by rw[← hll];exact hR
 go_enter Tryz.func128,Tryz.ntmps128
 go_wp2
 go_loopw [3] (fun iv wr=>∃ (c:Nat) (z:Int),c≤s.size∧iv=.int .i64 z∧z+1=(c:Int)∧Hid (Ky.lastTo s.data.toList c=R)∧Below w.heap.size w wr) (fun iv _=>(Lib.intOf iv+1).toNat)
 case atStart=>exact⟨s.size,(s.size:Int)-1,Nat.le_refl _,by go_num,by omega,hR,Below.refl _ _⟩
 case round=>
  obtain⟨c,z,hc,rfl,hz,hRc,hb⟩:=hrel
  clear hR
  by_cases h0:c=0
  ·subst h0
   obtain rfl:z = -1:=by omega
   have hR0:Hid (R = -1):=show _=_ from hRc.out.symm
   go_wp2
   go_ret
   rw[hR0.out]
   exact⟨rfl,hb⟩
  ·obtain⟨n,rfl⟩:∃n,c=n+1:=⟨c-1,by omega⟩
   obtain rfl:z=(n:Int):=by omega
   have hlt:n<s.size:=by omega
   have hge:decide ((0:Int)≤(n:Int))=true:=by simp
   have h8:s[n].toNat<256:=UInt8.toNat_lt _
   by_cases h64:s[n]=64
   ·have hRn:Hid (R=(n:Int)):=show _=_ from by rw[← hRc.out];exact Ky.lastTo_yes _ n (by omega) h64
    have hb64:((s[n].toNat:Int)==64)=true:=by rw[h64];rfl
    clear hRc h64
    go_wp2
    go_ret
    rw[hRn.out]
    exact⟨rfl,hb⟩
   ·have hRn:Hid (Ky.lastTo s.data.toList n=R):=show _=_ from by rw[← hRc.out];exact(Ky.lastTo_no _ n (by omega) h64).symm
    have hb64:((s[n].toNat:Int)==64)=false:=by
     have:s[n].toNat≠64:=fun e=>h64 (UInt8.toNat_inj.1 e)
     simp;omega
    clear hRc h64
    go_wp2
    go_roundw
    case rel=>exact⟨n,(n:Int)-1,by omega,by go_num,by omega,hRn,hb⟩
    case measure=>simp[Lib.intOf]
theorem wrapK (n:Int)(h0:-9223372036854775808≤n)(h1:n≤9223372036854775807):IntKind.i64.wrap n=n:=by
 unfold IntKind.wrap
 simp[IntKind.bits,IntKind.signed]
 omega
theorem Ky.parts (s:ByteArray)(a:Nat)(h:Ky.last s.data.toList=(a:Int)):Ky.loc s=s.extract 0 a∧Ky.dom s=s.extract (a+1) s.size:=by
 unfold Ky.loc Ky.dom
 rw[h,Int.toNat_natCast]
 exact⟨rfl,rfl⟩
theorem addrOk_dom (n l d:ByteArray)(h:addrOk n l d=true):0<d.size:=by
 by_cases h0:0<d.size
 ·exact h0
 ·have:d.data.toList=[]:=List.length_eq_zero_iff.1 (by
   have:d.data.toList.length=d.size:=by simp
   omega)
  simp only[addrOk,Bool.and_eq_true] at h
  have h2:=h.2.2.2.2.2
  rw[this] at h2
  exact absurd h2 (by decide)
theorem specKeyFault (s:ByteArray)(w:World)(hs:s.size≤1048576) :
  Calls Tryz.prog 84 #[.string s] w fun e w'=>e=.returned (.int .i64 (dcode (Ky.ok s)))∧Below w.heap.size w w':=by
 have hA:=mkH (specLastAt s w (by omega))
 obtain⟨z,hz⟩:∃z,Ky.last s.data.toList=z:=⟨_,rfl⟩
 have hzin:=Ky.lastTo_in s.data.toList s.data.toList.length
 rw[show Ky.lastTo s.data.toList s.data.toList.length=z from hz] at hzin
 have hll:s.data.toList.length=s.size:=by simp
 rw[hz] at hA
 unfold Ky.ok
 rw[hz]
 by_cases h0:0≤z
 ·obtain⟨a,rfl⟩:∃a:Nat,z=(a:Int):=⟨z.toNat,by omega⟩
  obtain⟨e1,e2⟩:=Ky.parts s a hz
  rw[e1,e2,decide_eq_true h0,Bool.true_and]
  have b0:decide ((a:Int)<0)=false:=by simp
  by_cases h4:s.size≤400
  ·rw[decide_eq_true h4,Bool.true_and]
   have b4:decide ((400:Int)<(s.size:Int))=false:=by simp;omega
   have halt:a<s.size:=by omega
   have hl1:(s.extract 0 a).size≤1100000:=by rw[ByteArray.size_extract];omega
   have hl2:(s.extract (a+1) s.size).size≤1100000:=by rw[ByteArray.size_extract];omega
   have f1:(a:Int)≤(s.size:Int):=by omega
   have f2:(a:Int)+1≤(s.size:Int):=by omega
   have hD0:=addrOk_dom ⟨#[]⟩ (s.extract 0 a) (s.extract (a+1) s.size)
   obtain⟨lo,hlo⟩:∃lo,s.extract 0 a=lo:=⟨_,rfl⟩
   obtain⟨dm,hdm⟩:∃dm,s.extract (a+1) s.size=dm:=⟨_,rfl⟩
   rw[hlo] at hl1
   rw[hdm] at hl2
   rw[hlo,hdm] at hD0 ⊢
   have cF:=mkH (fun w=>specAddress ⟨#[]⟩ lo dm w (by decide) hl1 hl2)
   have cK:=mkH (fun w=>specKeyB ⟨#[]⟩ lo dm w (by decide) hl1 hl2)
   generalize keyT ⟨#[]⟩ lo dm=kt at *
   have hwa:=wrapK ((a:Int)+1) (by omega) (by omega)
   obtain⟨R,hR⟩:∃R,dcode (addrOk ⟨#[]⟩ lo dm && ((kt.toList==s.toList) && !Ky.open_ dm))=R:=⟨_,rfl⟩
   rw[hR]
   replace hR:=mkH hR
   clear e1 e2 hz h0 hzin
   go_enter Tryz.func84,Tryz.ntmps84
   go_wp2_with fail
   refine hA.out.mono ?_
   rintro e w1 ⟨rfl,hb1⟩
   clear hA
   go_wp2
   refine wp_region_any (by kernel_rfl) ?_
   refine ta 0 (.string s) ?_ ?_
   ·intro w
    go_simp
    all_goals omega
   go_simp
   refine ta 1 (.int .i64 a) ?_ ?_
   ·intro w
    go_simp
    all_goals omega
   go_simp
   refine ta 2 (.string (s.extract 0 a)) ?_ ?_
   ·intro w
    go_simp
    all_goals omega
   go_simp
   refine ta 3 (.string s) ?_ ?_
   ·intro w
    go_simp
    all_goals omega
   go_simp
   refine ta 4 (.int .i64 a) ?_ ?_
   ·intro w
    go_simp
    all_goals omega
   go_simp
   refine ta 5 (.int .i64 ((a:Int)+1)) ?_ ?_
   ·intro w
    go_simp
    all_goals omega
   go_simp
   refine ta 6 (.string (s.extract (a+1) s.size)) ?_ ?_
   ·intro w
    go_simp
    all_goals omega
   go_simp
   refine ta 7 (box3 ⟨#[]⟩ (s.extract 0 a) (s.extract (a+1) s.size)) ?_ ?_
   ·intro w
    go_simp
    all_goals omega
   go_simp
   refine r1 8 (fun K hK=>?_)
   go_simp
   refine hK _ _ ?_
   clear hK K
   go_simp
   refine r1 9 (fun K hK=>?_)
   go_simp
   refine hK _ _ ?_
   clear hK K
   go_simp
   refine wpAny_done (by kernel_rfl) ?_ _
   have hbA:Below w.heap.size w (w1.alloc (bx ⟨#[]⟩ lo dm)).drew:=(hb1.alloc hb1.size _).drew
   have g0:(w1.alloc (bx ⟨#[]⟩ lo dm)).drew.cell? ⟨w1.heap.size,0,none⟩=some (.string ⟨#[]⟩):=by simp
   have g1:(w1.alloc (bx ⟨#[]⟩ lo dm)).drew.cell? ⟨w1.heap.size,1,none⟩=some (.string lo):=by simp
   have g2:(w1.alloc (bx ⟨#[]⟩ lo dm)).drew.cell? ⟨w1.heap.size,2,none⟩=some (.string dm):=by simp
   have hgl:w1.heap.size<(w1.alloc (bx ⟨#[]⟩ lo dm)).drew.heap.size:=by simp
   generalize (w1.alloc (bx ⟨#[]⟩ lo dm)).drew=W at *
   generalize w1.heap.size=gg at *
   clear hlo hdm hwa f1 f2 b0 b4 hb1
   cases hok:addrOk ⟨#[]⟩ lo dm
   ·rw[hok] at cF
    have hr:Hid (R=1):=show _=_ from by rw[← hR.out,hok];rfl
    clear hD0 cK hR
    go_wp2_with fail
    refine(cF.out W).mono ?_
    rintro e w2 ⟨rfl,hb2⟩
    simp only[dcode]
    go_wp2
    go_ret
    rw[hr.out]
    exact⟨rfl,hbA.trans (hb2.mono hbA.size)⟩
   ·rw[hok] at cF
    have hd0:=hD0 hok
    have hop:=Ky.fst dm hd0
    have h8:dm[0].toNat<256:=UInt8.toNat_lt _
    obtain⟨bk,hbk⟩:∃b,(kt.toList==s.toList)=b:=⟨_,rfl⟩
    obtain⟨bo,hbo⟩:∃b,((dm[0].toNat:Int)==91)=b:=⟨_,rfl⟩
    have hr:Hid (R=dcode (bk && !bo)):=show _=_ from by rw[← hR.out,hok,Bool.true_and,hop,hbk,hbo]
    clear hop hD0 hok hR
    have hd0I:(0:Int)<(dm.size:Int):=by omega
    cases bk
    all_goals
     cases bo
     all_goals
      go_wp2_with fail
      refine(cF.out W).mono ?_
      rintro e w2 ⟨rfl,hb2⟩
      simp only[dcode]
      have p0:=(hb2.cell (p:=⟨gg,0,none⟩) hgl).trans g0
      have p1:=(hb2.cell (p:=⟨gg,1,none⟩) hgl).trans g1
      have p2:=(hb2.cell (p:=⟨gg,2,none⟩) hgl).trans g2
      go_wp2_with fail
      refine(cK.out w2).mono ?_
      rintro e w3 ⟨rfl,hb3⟩
      have r2:=(hb3.cell (p:=⟨gg,2,none⟩) (Nat.lt_of_lt_of_le hgl hb2.size)).trans p2
      go_wp2
      go_ret
      rw[hr.out]
      exact⟨rfl,hbA.trans ((hb2.trans (hb3.mono hb2.size)).mono hbA.size)⟩
  ·rw[decide_eq_false h4,Bool.false_and]
   have b4:decide ((400:Int)<(s.size:Int))=true:=by simp;omega
   clear e1 e2 hz h0 hzin
   go_enter Tryz.func84,Tryz.ntmps84
   go_wp2_with fail
   refine hA.out.mono ?_
   rintro e w1 ⟨rfl,hb1⟩
   clear hA
   go_wp2
   go_ret
   exact⟨rfl,hb1⟩
 ·rw[decide_eq_false h0,Bool.false_and]
  have b0:decide (z<0)=true:=by simp;omega
  clear hz hzin
  go_enter Tryz.func84,Tryz.ntmps84
  go_wp2_with fail
  refine hA.out.mono ?_
  rintro e w1 ⟨rfl,hb1⟩
  clear hA
  go_wp2
  go_ret
  exact⟨rfl,hb1⟩
end Go.Proofs.YtkcajnjledldnaaGreatDoor
