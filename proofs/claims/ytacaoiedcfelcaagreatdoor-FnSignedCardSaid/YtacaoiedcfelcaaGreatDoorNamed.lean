import Derived.Test.YtacaoiedcfelcaaGreatDoorScan
import Derived.ScopeJumps
import Derived.WalkMore
import Derived.Test.YtacaoiedcfelcaaGreatDoorHeadsPlain
import Derived.Defers
import Derived.Recover
import Derived.Laws.Pointers
import Derived.Test.YtacaoiedcfelcaaGreatDoorOwnF
import Derived.Test.YtacaoiedcfelcaaGreatDoorCkTurn
import Derived.Lib.QuietBelow
import Derived.Deep.QuietTactic
import Derived.BigQuiet
set_option maxRecDepth 20000
set_option maxHeartbeats 4000000
namespace Go.Proofs.YtacaoiedcfelcaaGreatDoor
open Go.RowKit Go.Lib
theorem implLineEndAt' (s:ByteArray)(a:Nat)(w:World)(hs:s.size≤100000)(ha:a≤s.size) :
  Calls Tryz.prog 145 #[.string s,.int .i64 a] w fun e w'=>e=.returned (.bool (Pl.crlf s.data.toList a))∧Below w.heap.size w w':=
 (implLineEndAt s a w (by omega) ha).mono fun e w' ⟨he,hw⟩=>⟨he,by rw[← hw];exact Below.refl _ _⟩
theorem implFoldAt' (s:ByteArray)(a:Nat)(w:World)(hs:s.size≤100000)(ha:a≤s.size) :
  Calls Tryz.prog 169 #[.string s,.int .i64 a] w fun e w'=>e=.returned (.bool (Pl.fold s.data.toList a))∧Below w.heap.size w w':=
 (implFoldAt s a w (by omega) ha).mono fun e w' ⟨he,hw⟩=>⟨he,by rw[← hw];exact Below.refl _ _⟩
theorem scLineEndNo (g:Nat)(s:ByteArray)(a b:Nat)(w:World)(hs:s.size≤100000)(ha:a≤s.size)(h:Sc w g s a b)(hc:Pl.crlf s.data.toList a=false) :
  Calls Tryz.prog 93 #[scp g] w fun e w'=>e=.returned (.bool false)∧Below w.heap.size w w':=by
 have k0:=cell_regrown h.c0
 have k1:=cell_regrown h.c1
 have cL:∀d os,Calls Tryz.prog 145 #[.string s,.int .i64 a] (Go.Sort.grow (redrawn w d) os) fun e w''=>e=.returned (.bool false)∧∃p:Regrown,w''=Go.Sort.grow (redrawn w p.d) p.os:=fun d os=>Calls.regrown_of (by rw[← hc];exact implLineEndAt' s a _ hs ha)
 clear h hc
 go_enter Tryz.func93,Tryz.ntmps93
 go_wp2
 refine wp_region_quiet_below (by kernel_rfl) (by kernel_rfl) ?_
 iterate 8 (quiet_step (fail))
 quiet_step (exact cL _ _)
 quiet_step (fail)
 refine wpQuiet_nil ?_
 intro _ hw'
 obtain⟨⟨dq,osq⟩,hw''⟩:=hw'
 subst hw''
 go_wp2
 go_ret
 exact⟨rfl,below_regrown _ _ _⟩
theorem scLineEndYes (g:Nat)(s:ByteArray)(a b:Nat)(w:World)(hs:s.size≤100000)(ha:a≤s.size)(h:Sc w g s a b)(hc:Pl.crlf s.data.toList a=true) :
  Calls Tryz.prog 93 #[scp g] w fun e w'=>e=.returned (.bool true)∧Sc w' g s (a+2) b∧w.grownBy w' (some g):=by
 have k0:=cell_regrown h.c0
 have k1:=cell_regrown h.c1
 have cL:∀d os,Calls Tryz.prog 145 #[.string s,.int .i64 a] (Go.Sort.grow (redrawn w d) os) fun e w''=>e=.returned (.bool true)∧∃p:Regrown,w''=Go.Sort.grow (redrawn w p.d) p.os:=fun d os=>Calls.regrown_of (by rw[← hc];exact implLineEndAt' s a _ hs ha)
 have Hsc:=(show Hid _ from h)
 clear h hc
 go_enter Tryz.func93,Tryz.ntmps93
 go_wp2
 refine wp_region_quiet_below (by kernel_rfl) (by kernel_rfl) ?_
 iterate 8 (quiet_step (fail))
 quiet_step (exact cL _ _)
 quiet_step (fail)
 refine wpQuiet_nil ?_
 intro _ hw'
 obtain⟨⟨dq,osq⟩,hw''⟩:=hw'
 subst hw''
 have hbq:=below_regrown w dq osq
 have Hs2:=(show Hid _ from Hsc.out.below hbq)
 have Hg2:=(show Hid _ from grown_below (r:=some g) hbq)
 generalize Go.Sort.grow (redrawn w dq) osq=wq at *
 clear k0 k1 cL hbq
 have c1:=Hs2.out.c1
 have f1:=Hs2.out.f1
 go_wp2
 go_ret
 exact⟨rfl,Hs2.out.set1 _ _ (by omega),grown_trans Hg2.out (grown_set _ _ _ _)⟩
theorem scFoldNo (g:Nat)(s:ByteArray)(a b:Nat)(w:World)(hs:s.size≤100000)(ha:a≤s.size)(h:Sc w g s a b)(hc:Pl.fold s.data.toList a=false) :
  Calls Tryz.prog 150 #[scp g] w fun e w'=>e=.returned (.bool false)∧Below w.heap.size w w':=by
 have k0:=cell_regrown h.c0
 have k1:=cell_regrown h.c1
 obtain⟨bF,hbF⟩:∃bF,Pl.fold s.data.toList a=bF:=⟨_,rfl⟩
 have Hb:Hid (bF=false):=show _=_ from by rw[← hbF];exact hc
 have cL:∀d os,Calls Tryz.prog 169 #[.string s,.int .i64 a] (Go.Sort.grow (redrawn w d) os) fun e w''=>e=.returned (.bool bF)∧∃p:Regrown,w''=Go.Sort.grow (redrawn w p.d) p.os:=fun d os=>Calls.regrown_of (by rw[← hbF];exact implFoldAt' s a _ hs ha)
 clear h hc hbF
 go_enter Tryz.func150,Tryz.ntmps150
 go_wp2
 refine wp_region_quiet_below (by kernel_rfl) (by kernel_rfl) ?_
 iterate 8 (quiet_step (fail))
 quiet_step (exact cL _ _)
 quiet_step (fail)
 iterate 2 (refine BigFrame.wpQuiet_skip (by obtain rfl:bF=false:=Hb.out;rfl) ?_;go_simp)
 obtain rfl:bF=false:=Hb.out
 repeat (quiet_step (fail))
 refine wpQuiet_nil ?_
 rintro⟨dq,osq⟩
 simp only
 go_wp2
 go_ret
 exact⟨rfl,below_regrown _ _ _⟩
theorem scFoldYes (g:Nat)(s:ByteArray)(a b:Nat)(w:World)(hs:s.size≤100000)(ha:a≤s.size)(h:Sc w g s a b)(hc:Pl.fold s.data.toList a=true) :
  Calls Tryz.prog 150 #[scp g] w fun e w'=>e=.returned (.bool true)∧Sc w' g s (a+2) b∧w.grownBy w' (some g):=by
 have c0:=h.c0
 have c1:=h.c1
 have hF:=fun w=>implFoldAt s a w (by omega) ha
 simp only[hc] at hF
 have HL:=(show Hid _ from fun (w:World) h=>scLineEndYes g s a b w hs ha h (Pl.fold_crlf _ _ hc))
 have Hsc:=(show Hid _ from h)
 clear h hc
 go_enter Tryz.func150,Tryz.ntmps150
 go_wp2
 go_region_with first|(go_at_call 169;(refine(hF _).mono ?_;rintro e w2 ⟨rfl,rfl⟩))|(go_at_call 93;(refine(HL.out _ (Hsc.out.below (Go.below_drewN (Below.refl _ _) 1))).mono ?_;rintro e w3 ⟨rfl,hs3,hg3⟩))
 all_goals
  go_wp2
  go_ret
  exact⟨rfl,hs3,⟨hg3.os,hg3.tape,hg3.output,hg3.size,hg3.block⟩⟩
theorem scNeedYes (g:Nat)(w:World) :
  Calls Tryz.prog 148 #[scp g,.bool true] w fun e w'=>e=.returned (.tuple #[])∧w'=w:=by
 go_enter Tryz.func148,Tryz.ntmps148
 go_wp2
 exact bodyPost_end (v:=.tuple #[]) (results_none Tryz.results148 _ _ _) rfl ⟨rfl,rfl⟩
theorem scNeedNo (g:Nat)(s:ByteArray)(a b:Nat)(w:World)(h:Sc w g s a b) :
  Calls Tryz.prog 148 #[scp g,.bool false] w fun e w'=>e=.panicked [{ v:=.iface 85 (.agg #[.int .i64 3,.int .i64 b]),recovered:=false }]∧w'=w:=by
 have Hsc:=(show Hid _ from h)
 clear h
 go_enter Tryz.func148,Tryz.ntmps148
 go_wp2_with fail
 refine(scFail g s a b w Hsc.out).mono ?_
 rintro e w3 ⟨rfl,rfl⟩
 exact⟨rfl,rfl,rfl⟩
theorem scNextEnd (g:Nat)(s:ByteArray)(a b:Nat)(w:World)(h:Sc w g s a b)(ha:a=s.size) :
  Calls Tryz.prog 188 #[scp g] w fun e w'=>e=.panicked [{ v:=.iface 85 (.agg #[.int .i64 3,.int .i64 b]),recovered:=false }]∧Below w.heap.size w w':=by
 have hEn:=scEnded g s a b w h
 rw[show((a:Int)==(s.size:Int))=true from by simp;omega] at hEn
 have Hsc:=(show Hid _ from h)
 clear h ha
 go_enter Tryz.func188,Tryz.ntmps188
 go_wp2_with fail
 refine hEn.mono ?_
 rintro e w1 ⟨rfl,hb1⟩
 have S1:=(show Hid _ from Hsc.out.below hb1)
 go_wp2_with fail
 refine(scNeedNo g s a b w1 S1.out).mono ?_
 rintro e w2 ⟨rfl,rfl⟩
 exact⟨rfl,rfl,hb1⟩
theorem scNextYes (g:Nat)(s:ByteArray)(a b:Nat)(w:World)(hs:s.size≤100000)(h:Sc w g s a b)(ha:a<s.size) :
  Calls Tryz.prog 188 #[scp g] w fun e w'=>e=.returned (.int .u8 (s[a].toNat:Int))∧Sc w' g s (a+1) b∧w.grownBy w' (some g):=by
 have hEn:=scEnded g s a b w h
 rw[show((a:Int)==(s.size:Int))=false from by simp;omega] at hEn
 have Hsc:=(show Hid _ from h)
 have h8:s[a].toNat<256:=UInt8.toNat_lt _
 have hkI:(a:Int)<(s.size:Int):=by omega
 clear h
 go_enter Tryz.func188,Tryz.ntmps188
 go_wp2_with fail
 refine hEn.mono ?_
 rintro e w1 ⟨rfl,hb1⟩
 have S1:=(show Hid _ from Hsc.out.below hb1)
 have G1:=(show Hid _ from grown_below (r:=some g) hb1)
 clear hb1 hEn
 go_wp2_with fail
 refine(scNeedYes g w1).mono ?_
 rintro e w2 ⟨rfl,rfl⟩
 have c1:=S1.out.c1
 have f1:=S1.out.f1
 have Hs3:=(show Hid _ from S1.out.set1 ((a:Int)+1) (a+1) (by omega))
 have Hg3:=(show Hid _ from grown_trans G1.out (grown_set w2 g 1 (.int .i64 ((a:Int)+1))))
 go_wp2
 clear c1 f1
 generalize w2.setCell ⟨g,1,none⟩ (.int .i64 ((a:Int)+1))=wz at *
 have e0:=Hs3.out.c0
 have e1:=Hs3.out.c1
 go_quiet (fail)
 have hbz:=Go.below_drewN (Below.refl wz.heap.size wz) nq
 go_wp2
 go_ret
 exact⟨rfl,Hs3.out.below hbz,grown_trans Hg3.out (grown_below hbz)⟩
theorem scByteEnd (g:Nat)(s:ByteArray)(a b:Nat)(w:World)(h:Sc w g s a b)(ha:a=s.size) :
  Calls Tryz.prog 149 #[scp g] w fun e w'=>e=.panicked [{ v:=.iface 85 (.agg #[.int .i64 3,.int .i64 b]),recovered:=false }]∧Below w.heap.size w w':=by
 have hN:=scNextEnd g s a b w h ha
 clear h ha
 go_enter Tryz.func149,Tryz.ntmps149
 go_wp2_with fail
 refine hN.mono ?_
 rintro e w1 ⟨rfl,hb1⟩
 exact⟨rfl,rfl,hb1⟩
theorem scByteNo (g:Nat)(s:ByteArray)(a b:Nat)(w:World)(hs:s.size≤100000)(h:Sc w g s a b)(ha:a<s.size)(hl:Pl.lb s[a]=false) :
  Calls Tryz.prog 149 #[scp g] w fun e w'=>e=.panicked [{ v:=.iface 85 (.agg #[.int .i64 3,.int .i64 b]),recovered:=false }]∧w.grownBy w' (some g):=by
 have hN:=scNextYes g s a b w hs h ha
 have hK:=fun w=>implLineByte s[a] w
 simp only[hl] at hK
 have h8:s[a].toNat<256:=UInt8.toNat_lt _
 clear h hl
 go_enter Tryz.func149,Tryz.ntmps149
 go_wp2_with fail
 refine hN.mono ?_
 rintro e w1 ⟨rfl,s1,g1⟩
 have S1:=(show Hid _ from s1)
 have G1:=(show Hid _ from g1)
 clear s1 g1 hN
 go_wp2_with fail
 refine(hK _).mono ?_
 rintro e w2 ⟨rfl,rfl⟩
 go_wp2_with fail
 refine(scNeedNo g s (a+1) b _ S1.out).mono ?_
 rintro e w3 ⟨rfl,rfl⟩
 exact⟨rfl,rfl,G1.out⟩
theorem scByteYes (g:Nat)(s:ByteArray)(a b:Nat)(w:World)(hs:s.size≤100000)(h:Sc w g s a b)(ha:a<s.size)(hl:Pl.lb s[a]=true) :
  Calls Tryz.prog 149 #[scp g] w fun e w'=>e=.returned (.int .u8 (s[a].toNat:Int))∧Sc w' g s (a+1) b∧w.grownBy w' (some g):=by
 have hN:=scNextYes g s a b w hs h ha
 have hK:=fun w=>implLineByte s[a] w
 simp only[hl] at hK
 have h8:s[a].toNat<256:=UInt8.toNat_lt _
 clear h hl
 go_enter Tryz.func149,Tryz.ntmps149
 go_wp2_with fail
 refine hN.mono ?_
 rintro e w1 ⟨rfl,s1,g1⟩
 have S1:=(show Hid _ from s1)
 have G1:=(show Hid _ from g1)
 clear s1 g1 hN
 go_wp2_with fail
 refine(hK _).mono ?_
 rintro e w2 ⟨rfl,rfl⟩
 go_wp2_with fail
 refine(scNeedYes g _).mono ?_
 rintro e w3 ⟨rfl,rfl⟩
 go_wp2
 go_ret
 exact⟨rfl,S1.out,G1.out⟩
abbrev flt (c:Int)(b:Nat):List PanicEntry:=[{ v:=.iface 85 (.agg #[.int .i64 c,.int .i64 b]),recovered:=false }]
theorem ext_sl (s:ByteArray)(i j:Nat):(s.extract i j).data.toList=Pl.sl s.data.toList i j:=Pl.ext_data s i j
theorem scNameYes (g:Nat)(s:ByteArray)(a b:Nat)(w:World)(hs:s.size≤100000)(ha:a≤s.size)(h:Sc w g s a b)(hg:Pl.nameGood s.data.toList a=true) :
  Calls Tryz.prog 94 #[scp g] w fun e w'=>e=.returned (.string (s.extract a (Pl.stop Pl.nb s.data.toList a)))∧Sc w' g s (Pl.stop Pl.blank s.data.toList (Pl.stop Pl.nb s.data.toList a)+1) b∧w.grownBy w' (some g):=by
 have hll:s.data.toList.length=s.size:=by simp
 have hp1:=Pl.stop_le Pl.nb s.data.toList a (by omega)
 have hq1:=Pl.stop_le Pl.blank s.data.toList (Pl.stop Pl.nb s.data.toList a) (by omega)
 have hP:=scPass kindName g s a b w hs ha h
 have HQ:=(show Hid _ from fun (w:World) h=>scPass kindBlank g s (Pl.stop Pl.nb s.data.toList a) b w hs (by omega) h)
 rw[Pl.nameGood,Bool.and_eq_true,Bool.and_eq_true] at hg
 obtain⟨g1,g2,g3⟩:=hg
 rw[decide_eq_true_eq] at g2
 rw[← ext_sl] at g1
 have hN:=fun w=>implFieldName (s.extract a (Pl.stop Pl.nb s.data.toList a)) w (by rw[ByteArray.size_extract];omega)
 simp only[g1] at hN
 generalize Pl.stop Pl.nb s.data.toList a=p at *
 generalize Pl.stop Pl.blank s.data.toList p=q at *
 have hq:q<s.size:=by omega
 have g4:s[q]=58:=by
  have e:=Pl.b_lt s.data.toList q (by omega)
  rw[e] at g3
  exact beq_iff_eq.1 g3
 have HB:=(show Hid _ from fun (w:World) h=>scByteYes g s q b w hs h hq (by rw[g4];rfl))
 simp only[g4] at HB
 generalize s.extract a p=nm at *
 clear g1 g2 g3 g4 hll h hp1 hq1
 go_enter Tryz.func94,Tryz.ntmps94
 go_wp2_with fail
 refine hP.mono ?_
 rintro e w1 ⟨rfl,s1,g1⟩
 have S1:=(show Hid _ from s1)
 have G1:=(show Hid _ from g1)
 clear s1 g1 hP
 go_wp2_with fail
 refine(HQ.out _ S1.out).mono ?_
 rintro e w2 ⟨rfl,s2,g2⟩
 have S2:=(show Hid _ from s2)
 have G2:=(show Hid _ from grown_trans G1.out g2)
 clear s2 g2
 go_wp2_with fail
 refine(hN _).mono ?_
 rintro e w3 ⟨rfl,rfl⟩
 go_wp2_with fail
 refine(HB.out _ S2.out).mono ?_
 rintro e w4 ⟨rfl,s3,g3⟩
 have S3:=(show Hid _ from s3)
 have G3:=(show Hid _ from grown_trans G2.out g3)
 clear s3 g3
 go_wp2_with fail
 refine(scNeedYes g _).mono ?_
 rintro e w5 ⟨rfl,rfl⟩
 go_wp2
 go_ret
 exact⟨rfl,S3.out,G3.out⟩
theorem scNameNo (g:Nat)(s:ByteArray)(a b:Nat)(w:World)(hs:s.size≤100000)(ha:a≤s.size)(h:Sc w g s a b)(hg:Pl.nameGood s.data.toList a=false) :
  Calls Tryz.prog 94 #[scp g] w fun e w'=>e=.panicked (flt 3 b)∧w.grownBy w' (some g):=by
 have hll:s.data.toList.length=s.size:=by simp
 have hp1:=Pl.stop_le Pl.nb s.data.toList a (by omega)
 have hq1:=Pl.stop_le Pl.blank s.data.toList (Pl.stop Pl.nb s.data.toList a) (by omega)
 have hP:=scPass kindName g s a b w hs ha h
 have HQ:=(show Hid _ from fun (w:World) h=>scPass kindBlank g s (Pl.stop Pl.nb s.data.toList a) b w hs (by omega) h)
 rw[Pl.nameGood,← ext_sl] at hg
 have hN:=fun w=>implFieldName (s.extract a (Pl.stop Pl.nb s.data.toList a)) w (by rw[ByteArray.size_extract];omega)
 generalize Pl.stop Pl.nb s.data.toList a=p at *
 generalize Pl.stop Pl.blank s.data.toList p=q at *
 generalize s.extract a p=nm at *
 have HF:=(show Hid _ from fun (w:World) (c:Nat) h=>scNeedNo g s c b w h)
 clear h hp1
 cases hno:Pl.nameOk nm.data.toList<;>simp only[hno] at hN
 ·clear hg hno
  go_enter Tryz.func94,Tryz.ntmps94
  go_wp2_with fail
  refine hP.mono ?_
  rintro e w1 ⟨rfl,s1,g1⟩
  have S1:=(show Hid _ from s1)
  have G1:=(show Hid _ from g1)
  clear s1 g1 hP
  go_wp2_with fail
  refine(HQ.out _ S1.out).mono ?_
  rintro e w2 ⟨rfl,s2,g2⟩
  have S2:=(show Hid _ from s2)
  have G2:=(show Hid _ from grown_trans G1.out g2)
  clear s2 g2
  go_wp2_with fail
  refine(hN _).mono ?_
  rintro e w3 ⟨rfl,rfl⟩
  go_wp2_with fail
  refine(HF.out _ _ S2.out).mono ?_
  rintro e w4 ⟨rfl,rfl⟩
  exact⟨rfl,rfl,G2.out⟩
 ·rw[hno,Bool.true_and] at hg
  have hbad:Calls Tryz.prog 149 #[scp g] w (fun e w'=>True)→True:=fun _=>trivial
  by_cases hq:q<s.size
  ·have g3:s[q]≠58:=by
    rw[decide_eq_true (by omega),Bool.true_and,Pl.b_lt s.data.toList q (by omega)] at hg
    exact beq_eq_false_iff_ne.1 hg
   cases hlb:Pl.lb s[q]
   ·have HB:=(show Hid _ from fun (w:World) h=>scByteNo g s q b w hs h hq hlb)
    clear hg hno hbad g3 hll hq1
    go_enter Tryz.func94,Tryz.ntmps94
    go_wp2_with fail
    refine hP.mono ?_
    rintro e w1 ⟨rfl,s1,g1⟩
    have S1:=(show Hid _ from s1)
    have G1:=(show Hid _ from g1)
    clear s1 g1 hP
    go_wp2_with fail
    refine(HQ.out _ S1.out).mono ?_
    rintro e w2 ⟨rfl,s2,g2⟩
    have S2:=(show Hid _ from s2)
    have G2:=(show Hid _ from grown_trans G1.out g2)
    clear s2 g2
    go_wp2_with fail
    refine(hN _).mono ?_
    rintro e w3 ⟨rfl,rfl⟩
    go_wp2_with fail
    refine(HB.out _ S2.out).mono ?_
    rintro e w4 ⟨rfl,hb4⟩
    exact⟨rfl,rfl,grown_trans G2.out hb4⟩
   ·have HB:=(show Hid _ from fun (w:World) h=>scByteYes g s q b w hs h hq hlb)
    have h58:((s[q].toNat:Int)==58)=false:=by
     have:s[q].toNat≠58:=fun e=>g3 (UInt8.toNat_inj.1 e)
     simp;omega
    clear hg hno hbad g3 hll hq1
    go_enter Tryz.func94,Tryz.ntmps94
    go_wp2_with fail
    refine hP.mono ?_
    rintro e w1 ⟨rfl,s1,g1⟩
    have S1:=(show Hid _ from s1)
    have G1:=(show Hid _ from g1)
    clear s1 g1 hP
    go_wp2_with fail
    refine(HQ.out _ S1.out).mono ?_
    rintro e w2 ⟨rfl,s2,g2⟩
    have S2:=(show Hid _ from s2)
    have G2:=(show Hid _ from grown_trans G1.out g2)
    clear s2 g2
    go_wp2_with fail
    refine(hN _).mono ?_
    rintro e w3 ⟨rfl,rfl⟩
    go_wp2_with fail
    refine(HB.out _ S2.out).mono ?_
    rintro e w4 ⟨rfl,s3,g3⟩
    have S3:=(show Hid _ from s3)
    have G3:=(show Hid _ from grown_trans G2.out g3)
    clear s3 g3
    go_wp2_with fail
    refine(HF.out _ _ S3.out).mono ?_
    rintro e w5 ⟨rfl,rfl⟩
    exact⟨rfl,rfl,G3.out⟩
  ·have HB:=(show Hid _ from fun (w:World) h=>scByteEnd g s q b w h (by omega))
   clear hg hno hbad hll hq1
   go_enter Tryz.func94,Tryz.ntmps94
   go_wp2_with fail
   refine hP.mono ?_
   rintro e w1 ⟨rfl,s1,g1⟩
   have S1:=(show Hid _ from s1)
   have G1:=(show Hid _ from g1)
   clear s1 g1 hP
   go_wp2_with fail
   refine(HQ.out _ S1.out).mono ?_
   rintro e w2 ⟨rfl,s2,g2⟩
   have S2:=(show Hid _ from s2)
   have G2:=(show Hid _ from grown_trans G1.out g2)
   clear s2 g2
   go_wp2_with fail
   refine(hN _).mono ?_
   rintro e w3 ⟨rfl,rfl⟩
   go_wp2_with fail
   refine(HB.out _ S2.out).mono ?_
   rintro e w4 ⟨rfl,hb4⟩
   exact⟨rfl,rfl,grown_trans G2.out (grown_below hb4)⟩
theorem jump_mono {l:Nat} {J:Act→World→Prop} {Q:Exit→Act→World→Prop} {m:Act→World→Prop} (e:Exit)(a:Act)(w:World)(h:Exit.jump l (fun a w=>J a w∧m a w) Q e a w):Exit.jump l J Q e a w:=by
 cases e with
 | goto l'=>exact⟨h.1,h.2.1⟩
 | _=>exact h
theorem scope_jumps' {P:Program} {a:Act} {w:World} {Q:Exit→Act→World→Prop} {c X:Code} (l:Nat)(J:Act→World→Prop)(μ:Act→World→Nat)(hf:findLabel c l=some (Code.skip.seq X))
  (pass:∀a w,J a w→X.wp P (Exit.jump l (fun a' w'=>J a' w'∧μ a' w'<μ a w) Q) a w)
  (first:(∀a w,J a w→X.wp P (Exit.jump l J Q) a w)→c.wp P (Exit.jump l J Q) a w):(Code.scope c).wp P Q a w:=
 wp_scope_jumps l J μ hf (first fun a w h=>wp_mono (pass a w h) jump_mono) (fun a w h=>wp_seq (wp_skip (pass a w h)))
structure VAt (s:ByteArray)(a:Nat)(V:Nat × Nat)(w:World)(g:Nat)(wr:World):Prop where
 ex:∃cur beg f:Nat,Sc wr g s cur beg∧a≤cur∧cur≤s.size∧Pl.vend s.data.toList f cur beg=V∧s.size+1≤f+cur
 grown:w.grownBy wr (some g)
def VPost (s:ByteArray)(a:Nat)(V:Nat × Nat)(w:World)(g:Nat)(e:Ending)(w':World):Prop:=
 w.grownBy w' (some g)∧((V.1=s.size∧e=.returned (.string (s.extract a V.1))∧Sc w' g s V.1 V.2)∨(V.1<s.size∧a≤V.1∧Pl.crlf s.data.toList V.1=true∧e=.returned (.string (s.extract a V.1))∧Sc w' g s (V.1+2) V.2)∨(V.1<s.size∧Pl.crlf s.data.toList V.1=false∧e=.panicked (flt 3 V.2)))
theorem scValue (g:Nat)(s:ByteArray)(a b:Nat)(w:World)(hs:s.size≤100000)(ha:a≤s.size)(h:Sc w g s a b) :
  Calls Tryz.prog 95 #[scp g] w fun e w'=>VPost s a (Pl.vend s.data.toList (s.data.toList.length+1) a b) w g e w':=by
 have hll:s.data.toList.length=s.size:=by simp
 obtain⟨V,hV⟩:∃V,Pl.vend s.data.toList (s.data.toList.length+1) a b=V:=⟨_,rfl⟩
 rw[hV]
 have HV0:Hid (VAt s a V w g w):=⟨⟨a,b,s.data.toList.length+1,h,Nat.le_refl _,ha,hV,by omega⟩,grown_refl _ _⟩
 clear hV
 have c1:=h.c1
 clear h
 go_enter Tryz.func95,Tryz.ntmps95
 go_wp2
 refine scope_jumps' 0 (fun a' w'=>Hid (VAt s a V w g w')∧∃(u9 u10 u11 u12 u13 u14 u15 u16 u17 u18 u19:Value),a' = { tmps:=#[scp g,undef,.string ⟨#[]⟩,.int .i64 a,undef,scp g,.pointer (some ⟨g,0,none⟩),.pointer (some ⟨g,1,none⟩),.int .i64 a,u9,u10,u11,u12,u13,u14,u15,u16,u17,u18,u19,undef,undef,undef,undef,undef,undef,undef,undef,undef,undef,undef,undef,undef,undef,undef,undef,undef,undef,undef,undef],defers:=[] }) (fun _ w'=>s.size+1-atOf w' g) rfl ?_ ?_
 ·clear HV0 c1
  rintro a' wr ⟨HV,u9,u10,u11,u12,u13,u14,u15,u16,u17,u18,u19,rfl⟩
  obtain⟨⟨cur,beg,f,hsc,hac,hcn,hve,hfu⟩,hgr⟩:=HV.out
  clear HV
  obtain⟨f,rfl⟩:∃k,f=k+1:=⟨f-1,by omega⟩
  rw[Pl.vend] at hve
  have hz1:=Pl.stop_ge Pl.lb s.data.toList cur (by omega)
  have hz2:=Pl.stop_le Pl.lb s.data.toList cur (by omega)
  have hP:=scPass kindLine g s cur beg wr hs hcn hsc
  have hat:Hid (atOf wr g=cur):=hsc.at
  have Hgr:=(show Hid _ from hgr)
  clear hgr hsc
  generalize Pl.stop Pl.lb s.data.toList cur=z at *
  have Hve:=(show Hid _ from hve)
  clear hve
  cases hfold:Pl.fold s.data.toList z
  ·have HE:Hid (V=(z,beg)):=show _=_ from by rw[← Hve.out,if_neg (by rw[hfold];simp)]
   have HF:=(show Hid _ from fun (w:World) h=>scFoldNo g s z beg w hs (by omega) h hfold)
   clear Hve hfold
   go_wp2_with fail
   refine hP.mono ?_
   rintro e w1 ⟨rfl,s1,g1⟩
   have S1:=(show Hid _ from s1)
   have G1:=(show Hid _ from grown_trans Hgr.out g1)
   clear s1 g1 hP
   go_wp2_with fail
   refine(HF.out _ S1.out).mono ?_
   rintro e w2 ⟨rfl,hb2⟩
   have S2:=(show Hid _ from S1.out.below hb2)
   have G2:=(show Hid _ from grown_trans G1.out (grown_below hb2))
   clear hb2
   have c0:=S2.out.c0
   have c1:=S2.out.c1
   have k0:=cell_regrown c0
   have k1:=cell_regrown c1
   have f1:(z:Int)≤(s.size:Int):=by omega
   have f2:(a:Int)≤(z:Int):=by omega
   have cL:∀d os,Calls Tryz.prog 101 #[.string (s.extract a z)] (Go.Sort.grow (redrawn w2 d) os) fun e w''=>e=.returned (.string (s.extract a z))∧∃p:Regrown,w''=Go.Sort.grow (redrawn w2 p.d) p.os:=fun d os=>Calls.regrown_of (libClone _ _ (by rw[ByteArray.size_extract];omega))
   go_wp2
   refine wp_region_quiet_below (by kernel_rfl) (by kernel_rfl) ?_
   iterate 10 (quiet_step (fail))
   quiet_step (exact cL _ _)
   repeat (quiet_step (fail))
   refine wpQuiet_nil ?_
   intro _ hw'
   obtain⟨⟨dr,osr⟩,hw''⟩:=hw'
   subst hw''
   have hbr:=below_regrown w2 dr osr
   have S3:=(show Hid _ from S2.out.below hbr)
   have G3:=(show Hid _ from grown_trans G2.out (grown_below hbr))
   generalize Go.Sort.grow (redrawn w2 dr) osr=w3 at *
   clear c0 c1 k0 k1 cL hbr
   obtain⟨val,hval⟩:∃val,s.extract a z=val:=⟨_,rfl⟩
   rw[hval]
   have Hval:=(show Hid _ from hval)
   clear hval
   have hEn:=scEnded g s z beg w3 S3.out
   by_cases hzn:z=s.size
   ·rw[show((z:Int)==(s.size:Int))=true from by simp;omega] at hEn
    go_wp2_with fail
    refine hEn.mono ?_
    rintro e w4 ⟨rfl,hb4⟩
    go_wp2_with fail
    refine(scNeedYes g _).mono ?_
    rintro e w5 ⟨rfl,rfl⟩
    go_wp2
    simp only[Exit.jump]
    go_ret
    rw[HE.out]
    exact⟨grown_trans G3.out (grown_below hb4),.inl ⟨hzn,by rw[Hval.out];rfl,S3.out.below hb4⟩⟩
   ·rw[show((z:Int)==(s.size:Int))=false from by simp;omega] at hEn
    cases hcr:Pl.crlf s.data.toList z
    ·have HL:=(show Hid _ from fun (w:World) h=>scLineEndNo g s z beg w hs (by omega) h hcr)
     have Hcr:=(show Hid _ from hcr)
     clear hcr
     go_wp2_with fail
     refine hEn.mono ?_
     rintro e w4 ⟨rfl,hb4⟩
     have S4:=(show Hid _ from S3.out.below hb4)
     have G4:=(show Hid _ from grown_trans G3.out (grown_below hb4))
     clear hb4
     go_wp2_with fail
     refine(HL.out _ S4.out).mono ?_
     rintro e w5 ⟨rfl,hb5⟩
     have S5:=(show Hid _ from S4.out.below hb5)
     have G5:=(show Hid _ from grown_trans G4.out (grown_below hb5))
     clear hb5
     go_wp2_with fail
     refine(scNeedNo g s z beg w5 S5.out).mono ?_
     rintro e w6 ⟨rfl,rfl⟩
     refine⟨rfl,?_⟩
     rw[HE.out]
     exact⟨G5.out,.inr (.inr ⟨by omega,Hcr.out,rfl⟩)⟩
    ·have HL:=(show Hid _ from fun (w:World) h=>scLineEndYes g s z beg w hs (by omega) h hcr)
     have Hcr:=(show Hid _ from hcr)
     clear hcr
     go_wp2_with fail
     refine hEn.mono ?_
     rintro e w4 ⟨rfl,hb4⟩
     have S4:=(show Hid _ from S3.out.below hb4)
     have G4:=(show Hid _ from grown_trans G3.out (grown_below hb4))
     clear hb4
     go_wp2_with fail
     refine(HL.out _ S4.out).mono ?_
     rintro e w5 ⟨rfl,s5,g5⟩
     have S5:=(show Hid _ from s5)
     have G5:=(show Hid _ from grown_trans G4.out g5)
     clear s5 g5
     go_wp2_with fail
     refine(scNeedYes g _).mono ?_
     rintro e w6 ⟨rfl,rfl⟩
     go_wp2
     simp only[Exit.jump]
     go_ret
     rw[HE.out]
     exact⟨G5.out,.inr (.inl ⟨by omega,by show a≤z;omega,Hcr.out,by rw[Hval.out];rfl,S5.out⟩)⟩
  ·have HF:=(show Hid _ from fun (w:World) h=>scFoldYes g s z beg w hs (by omega) h hfold)
   have hz3:z+2<s.size:=by have:=(Pl.fold_b _ _ hfold).2;omega
   have HE:Hid (Pl.vend s.data.toList f (z+2) (z+2)=V):=show _=_ from by rw[← Hve.out,if_pos hfold]
   clear Hve hfold
   go_wp2_with fail
   refine hP.mono ?_
   rintro e w1 ⟨rfl,s1,g1⟩
   have S1:=(show Hid _ from s1)
   have G1:=(show Hid _ from grown_trans Hgr.out g1)
   clear s1 g1 hP
   go_wp2_with fail
   refine(HF.out _ S1.out).mono ?_
   rintro e w2 ⟨rfl,s2,g2⟩
   have S2:=(show Hid _ from s2)
   have G2:=(show Hid _ from grown_trans G1.out g2)
   clear s2 g2
   have c1:=S2.out.c1
   have c2:=S2.out.c2
   have f2:=S2.out.f2
   have S3:=(show Hid _ from S2.out.set2 ((z:Int)+2) (z+2) (by omega))
   have G3:=(show Hid _ from grown_trans G2.out (grown_set w2 g 2 (.int .i64 ((z:Int)+2))))
   go_wp2
   go_step3
   refine⟨rfl,⟨?_,_,_,_,_,_,_,_,_,_,_,_,rfl⟩,?_⟩
   ·exact⟨⟨z+2,z+2,f,S3.out,by omega,by omega,HE.out,by omega⟩,G3.out⟩
   ·rw[hat.out]
    have:=S3.out.at
    first|omega|(rw[this];omega)
 ·intro pass
  go_wp2
  go_step3
  rename_i hK
  exact hK _ _ (pass _ _ ⟨HV0,_,_,_,_,_,_,_,_,_,_,_,rfl⟩)
def FPost (s:ByteArray)(R:HR)(w:World)(g:Nat)(e:Ending)(w':World):Prop:=
 w.grownBy w' (some g)∧((R.code=0∧R.at_=0∧∃v b',e=.returned v∧OwnF w.heap.size v R.fields w'∧Sc w' g s R.body b')∨(R.fields=[]∧R.body=0∧e=.panicked (flt R.code R.at_)))
theorem grown_over {w wr w':World} {r:Option Nat} (h:w.grownBy wr r)(hb:Below w.heap.size wr w'):w.grownBy w' r:=
 ⟨hb.os.trans h.os,hb.tape.trans h.tape,hb.output.trans h.output,Nat.le_trans h.size hb.size,fun k hk hr=>(hb.block k hk).trans (h.block k hk hr)⟩
theorem OwnF.grown {B:Nat} {v:Value} {F:List Fl} {w w':World} {g:Nat} (h:OwnF B v F w)(hg:w.grownBy w' (some g))(hB:g<B):OwnF B v F w':=by
 obtain⟨h1,h2⟩:=h
 refine⟨h1,?_⟩
 rcases h2 with h2|⟨k,cap,cur,e,hk,hc,r⟩
 ·exact .inl h2
 ·refine .inr ⟨k,cap,cur,e,hk,?_,r⟩
  have hlt:k<w.heap.size:=by
   by_cases h:k<w.heap.size
   ·exact h
   ·rw[Array.getElem?_eq_none (by omega)] at hc;cases hc
  rw[hg.block k hlt (by intro e;have:=Option.some.inj e;omega)]
  exact hc
theorem implF_no (l:List UInt8)(k:Nat)(h:Pl.nameGood l k=false):Pl.implF l k=.inl k:=by rw[Pl.implF,if_neg (by rw[h];simp)]
theorem implF_end (l:List UInt8)(k:Nat)(h:Pl.nameGood l k=true)(hv:l.length≤(Pl.vend l (l.length+1) (Pl.stop Pl.blank l (Pl.stop Pl.nb l k)+1) k).1) :
  Pl.implF l k=.inr (Pl.sl l k (Pl.stop Pl.nb l k),Pl.sl l (Pl.stop Pl.blank l (Pl.stop Pl.nb l k)+1) l.length,l.length):=by
 rw[Pl.implF,if_pos h];simp only[hv,if_true]
theorem implF_line (l:List UInt8)(k:Nat)(h:Pl.nameGood l k=true)(hv:¬l.length≤(Pl.vend l (l.length+1) (Pl.stop Pl.blank l (Pl.stop Pl.nb l k)+1) k).1)(hc:Pl.crlf l (Pl.vend l (l.length+1) (Pl.stop Pl.blank l (Pl.stop Pl.nb l k)+1) k).1=true) :
  Pl.implF l k=.inr (Pl.sl l k (Pl.stop Pl.nb l k),Pl.sl l (Pl.stop Pl.blank l (Pl.stop Pl.nb l k)+1) (Pl.vend l (l.length+1) (Pl.stop Pl.blank l (Pl.stop Pl.nb l k)+1) k).1,(Pl.vend l (l.length+1) (Pl.stop Pl.blank l (Pl.stop Pl.nb l k)+1) k).1+2):=by
 rw[Pl.implF,if_pos h];simp only[hv,if_false,hc,if_true]
theorem implF_ill (l:List UInt8)(k:Nat)(h:Pl.nameGood l k=true)(hv:¬l.length≤(Pl.vend l (l.length+1) (Pl.stop Pl.blank l (Pl.stop Pl.nb l k)+1) k).1)(hc:Pl.crlf l (Pl.vend l (l.length+1) (Pl.stop Pl.blank l (Pl.stop Pl.nb l k)+1) k).1=false) :
  Pl.implF l k=.inl (Pl.vend l (l.length+1) (Pl.stop Pl.blank l (Pl.stop Pl.nb l k)+1) k).2:=by
 rw[Pl.implF,if_pos h];simp only[hv,if_false,hc,Bool.false_eq_true]
theorem scFields (g:Nat)(s:ByteArray)(b:Nat)(w:World)(hs:s.size≤100000)(h:Sc w g s 0 b) :
  Calls Tryz.prog 52 #[scp g] w fun e w'=>FPost s (Pl.readHead s.data.toList) w g e w':=by
 obtain⟨i0,hi,hy0,hy1,hy2⟩:=info_parts Tryz.info43
 have hll:s.data.toList.length=s.size:=by simp
 obtain⟨R,hR⟩:∃R,Pl.readHead s.data.toList=R:=⟨_,rfl⟩
 rw[hR]
 have HR0:Hid (∃f,s.data.toList.length+1≤f+0∧Pl.rd s.data.toList f 0 []=R):=show ∃_,_ from ⟨_,Nat.le_refl _,hR⟩
 have Hsc:=(show Hid _ from h)
 have hgw:=h.lt
 clear hR h
 go_enter Tryz.func52,Tryz.ntmps52
 go_wp2
 go_loopw [3] (fun v wr=>∃ (k b':Nat) (F:List Fl),k≤s.size∧F.length≤200∧Hid (Sc wr g s k b')∧Hid (OwnF w.heap.size v F wr)∧Hid (∃f,s.data.toList.length+1≤f+k∧Pl.rd s.data.toList f k F=R)∧Hid (w.grownBy wr (some g))) (fun _ wr=>s.size-atOf wr g)
 case atStart=>exact⟨0,b,[],Nat.zero_le _,Nat.zero_le _,Hsc,OwnF.nil _ _,HR0,grown_refl _ _⟩
 case round=>
  clear HR0 Hsc
  obtain⟨k,b',F,hk,hF,Hsc,Hown,HR,Hg⟩:=hrel
  have hEn:=scEnded g s k b' wr Hsc.out
  by_cases hkn:k<s.size
  ·rw[show((k:Int)==(s.size:Int))=false from by simp;omega] at hEn
   cases hcr:Pl.crlf s.data.toList k
   ·have HL:=(show Hid _ from fun (w:World) h=>scLineEndNo g s k b' w hs hk h hcr)
    go_wp2_with fail
    refine hEn.mono ?_
    rintro e w1 ⟨rfl,hb1⟩
    go_wp2_with fail
    refine(HL.out _ (Hsc.out.below hb1)).mono ?_
    rintro e w2 ⟨rfl,hb2⟩
    have S2:=(show Hid _ from (Hsc.out.below hb1).below hb2)
    have G2:=(show Hid _ from grown_trans Hg.out (grown_trans (grown_below hb1) (grown_below hb2)))
    have O2:=(show Hid (OwnF w.heap.size u3 F w2) from (Hown.out.grown (grown_below (r:=some g) hb1) hgw).grown (grown_below (r:=some g) hb2) hgw)
    clear hb1 hb2 HL hEn
    have c1:=S2.out.c1
    have c2:=S2.out.c2
    have f2:=S2.out.f2
    have S3:=(show Hid _ from S2.out.set2 (k:Int) k rfl)
    have G3:=(show Hid _ from grown_trans G2.out (grown_set w2 g 2 (.int .i64 (k:Int))))
    have O3:=(show Hid (OwnF w.heap.size u3 F (w2.setCell ⟨g,2,none⟩ (.int .i64 (k:Int)))) from O2.out.grown (grown_set w2 g 2 _) hgw)
    cases hng:Pl.nameGood s.data.toList k
    ·have HN:=(show Hid _ from fun (w:World) h=>scNameNo g s k k w hs hk h hng)
     have hRe:Hid (R=⟨3,k,0,[]⟩):=show _=_ from Pl.rd_fault _ k k F R (by omega) hcr (implF_no _ _ hng) HR.out
     clear hcr hng HR
     go_wp2_with fail
     refine(HN.out _ S3.out).mono ?_
     rintro e w4 ⟨rfl,g4⟩
     refine⟨rfl,?_⟩
     rw[hRe.out]
     exact⟨grown_trans G3.out g4,.inr ⟨rfl,rfl,rfl⟩⟩
    ·have hq:Pl.stop Pl.blank s.data.toList (Pl.stop Pl.nb s.data.toList k)<s.size:=by
      have:=hng
      rw[Pl.nameGood,Bool.and_eq_true,Bool.and_eq_true,decide_eq_true_eq] at this
      have:=this.2.1
      omega
     have hp0:=Pl.stop_ge Pl.nb s.data.toList k (by omega)
     have hp1:=Pl.stop_le Pl.nb s.data.toList k (by omega)
     have hq0:=Pl.stop_ge Pl.blank s.data.toList (Pl.stop Pl.nb s.data.toList k) (by omega)
     have HN:=(show Hid _ from fun (w:World) h=>scNameYes g s k k w hs hk h hng)
     have HV:=(show Hid _ from fun (w:World) h=>scValue g s (Pl.stop Pl.blank s.data.toList (Pl.stop Pl.nb s.data.toList k)+1) k w hs (by omega) h)
     have i1:=implF_end s.data.toList k hng
     have i2:=implF_line s.data.toList k hng
     have i3:=implF_ill s.data.toList k hng
     clear hng
     generalize Pl.stop Pl.nb s.data.toList k=p at *
     generalize Pl.stop Pl.blank s.data.toList p=q at *
     generalize Pl.vend s.data.toList (s.data.toList.length+1) (q+1) k=V at *
     have I1:=(show Hid _ from i1)
     have I2:=(show Hid _ from i2)
     have I3:=(show Hid _ from i3)
     have Hcr:=(show Hid _ from hcr)
     obtain⟨o,cap,hu⟩:=Hown.out.shape
     subst hu
     clear hcr i1 i2 i3
     go_wp2_with fail
     refine(HN.out _ S3.out).mono ?_
     rintro e w4 ⟨rfl,s4,g4⟩
     have S4:=(show Hid _ from s4)
     have G4:=(show Hid _ from grown_trans G3.out g4)
     have O4:=(show Hid (OwnF w.heap.size (.slice o F.length cap) F w4) from OwnF.grown O3.out g4 hgw)
     clear s4 g4 c1 c2 f2 S2 G2 O2 S3 G3 O3
     go_wp2_with fail
     refine(HV.out _ S4.out).mono ?_
     rintro e w5 ⟨g5,hpost⟩
     have G5:=(show Hid _ from grown_trans G4.out g5)
     have O5:=(show Hid (OwnF w.heap.size (.slice o F.length cap) F w5) from OwnF.grown O4.out g5 hgw)
     clear g5
     have hpost':(∃x,e=.returned (.string (s.extract (q+1) V.1))∧Sc w5 g s x V.2∧Pl.implF s.data.toList k=.inr (Pl.sl s.data.toList k p,Pl.sl s.data.toList (q+1) V.1,x)∧k<x∧x≤s.size)∨(e=.panicked (flt 3 V.2)∧Pl.implF s.data.toList k=.inl V.2):=by
      rcases hpost with ⟨h1,h2,h3⟩|⟨h1,h0,h2,h3,h4⟩|⟨h1,h2,h3⟩
      ·refine .inl ⟨V.1,h2,h3,?_,by omega,by omega⟩
       rw[I1.out (by omega),h1,hll]
      ·have:=(Pl.crlf_b _ _ h2).2.2
       exact .inl ⟨V.1+2,h3,h4,I2.out (by omega) h2,by omega,by omega⟩
      ·exact .inr ⟨h3,I3.out (by omega) h2⟩
     clear hpost I1 I2 I3
     rcases hpost' with ⟨x,rfl,s5,hf,hx0,hx1⟩|⟨rfl,hf⟩
     ·have S5:=(show Hid _ from s5)
      clear s5
      have e1:=ext_sl s k p
      have e2:=ext_sl s (q+1) V.1
      rw[← e1,← e2] at hf
      clear e1 e2
      generalize s.extract k p=nm at *
      generalize s.extract (q+1) V.1=vl at *
      by_cases h200:F.length=200
      ·have hRe:Hid (R=⟨4,k,0,[]⟩):=show _=_ from Pl.rd_many _ k x _ _ F R (by omega) Hcr.out hf h200 HR.out
       have hb2:((F.length:Int)==200)=true:=by rw[h200];rfl
       clear hf HR
       go_wp2
       refine⟨rfl,?_⟩
       rw[hRe.out]
       exact⟨grown_trans G5.out (grown_below ((Below.refl _ _).alloc (Nat.le_refl _) _)),.inr ⟨rfl,rfl,rfl⟩⟩
      ·have hRe:Hid (∃f,s.data.toList.length+1≤f+x∧Pl.rd s.data.toList f x (F ++ [(nm.data.toList,vl.data.toList)])=R):=Pl.rd_step _ k x _ _ F R (by omega) Hcr.out hf hx0 h200 HR.out
       have hb2:((F.length:Int)==200)=false:=by rw[Bool.eq_false_iff];intro e;have:=beq_iff_eq.1 e;omega
       clear hf HR
       have hal:Below w5.heap.size w5 (w5.alloc (.cells #[.string nm,.string vl] 38)):=(Below.refl _ _).alloc (Nat.le_refl _) _
       have OA:=(show Hid (OwnF w.heap.size (.slice o F.length cap) F (w5.alloc (.cells #[.string nm,.string vl] 38))) from OwnF.grown O5.out (grown_below (r:=some g) hal) hgw)
       have hres:=(S5.out.below hal).blk
       have hsz:w.heap.size≤(w5.alloc (.cells #[.string nm,.string vl] 38)).heap.size:=Nat.le_trans G5.out.size hal.size
       have hcs:#[Value.string nm,Value.string vl]=#[txt nm.data.toList,txt vl.data.toList]:=by rw[txt_eta,txt_eta]
       have GA:=(show Hid _ from grown_trans G5.out (grown_below (r:=some g) hal))
       clear hal
       have Hres:=(show Hid _ from hres)
       have Hsz:=(show Hid _ from hsz)
       have Hcs:=(show Hid _ from hcs)
       clear hres hsz hcs
       go_wp2_with (at_builtin;go_must (refine wp_appF (W:=w5.alloc (.cells #[.string nm,.string vl] 38)) rfl _ _ 39 rfl i0 Tryz.underlying39 hi hy0 hy1 hy2 w.heap.size (.slice o F.length cap) F rfl OA.out (nm.data.toList,vl.data.toList) _ Hcs.out 1 (by rw[show(w5.alloc (.cells #[.string nm,.string vl] 38)).heap.size=w5.heap.size+1 from by simp];rfl) (by omega) Hsz.out (Below.refl _ _) g _ 89 (0,0) (by decide) Hres.out ?_;intro v' w' hown' hb' hres'))
       have S6:Hid (Sc w' g s x V.2):=⟨hres'⟩
       have G6:=(show Hid _ from grown_over GA.out hb')
       have O6:=(show Hid (OwnF w.heap.size v' (F ++ [(nm.data.toList,vl.data.toList)]) w') from hown')
       have hat:Hid (atOf wr g=k):=Hsc.out.at
       go_roundw
       case rel=>exact⟨x,V.2,_,hx1,by simp;omega,S6,O6,hRe,G6⟩
       case measure=>
        have:=S6.out.at
        rw[hat.out,this]
        omega
     ·have hRe:Hid (R=⟨3,V.2,0,[]⟩):=show _=_ from Pl.rd_fault _ k V.2 F R (by omega) Hcr.out hf HR.out
      refine⟨rfl,?_⟩
      rw[hRe.out]
      exact⟨G5.out,.inr ⟨rfl,rfl,rfl⟩⟩
   ·have HL:=(show Hid _ from fun (w:World) h=>scLineEndYes g s k b' w hs hk h hcr)
    have hRe:Hid (R=⟨0,0,k+2,F⟩):=show _=_ from Pl.rd_crlf _ k F R (by omega) hcr HR.out
    clear hcr HR
    go_wp2_with fail
    refine hEn.mono ?_
    rintro e w1 ⟨rfl,hb1⟩
    go_wp2_with fail
    refine(HL.out _ (Hsc.out.below hb1)).mono ?_
    rintro e w2 ⟨rfl,s2,g2⟩
    have S2:=(show Hid _ from s2)
    have G2:=(show Hid _ from grown_trans Hg.out (grown_trans (grown_below hb1) g2))
    have O2:=(show Hid (OwnF w.heap.size u3 F w2) from (Hown.out.grown (grown_below (r:=some g) hb1) hgw).grown g2 hgw)
    clear hb1 s2 g2 HL hEn
    go_wp2
    go_ret
    rw[hRe.out]
    exact⟨G2.out,.inl ⟨rfl,rfl,_,_,rfl,O2.out,S2.out⟩⟩
  ·have hkk:k=s.size:=by omega
   rw[show((k:Int)==(s.size:Int))=true from by simp;omega] at hEn
   have hRe:Hid (R=⟨0,0,s.data.toList.length,F⟩):=show _=_ from Pl.rd_end _ k F R (by omega) HR.out (by omega)
   clear HR
   have Hkk:=(show Hid _ from hkk)
   clear hkk hkn
   go_wp2_with fail
   refine hEn.mono ?_
   rintro e w1 ⟨rfl,hb1⟩
   have S2:=(show Hid _ from Hsc.out.below hb1)
   have G2:=(show Hid _ from grown_trans Hg.out (grown_below hb1))
   have O2:=(show Hid (OwnF w.heap.size u3 F w1) from Hown.out.grown (grown_below (r:=some g) hb1) hgw)
   clear hb1 hEn
   go_wp2
   go_ret
   rw[hRe.out]
   refine⟨G2.out,.inl ⟨rfl,rfl,_,b',rfl,O2.out,?_⟩⟩
   show Sc _ g s s.data.toList.length _
   rw[hll,← Hkk.out]
   exact S2.out
theorem faultYes (c b:Int)(w:World) :
  Calls Tryz.prog 51 #[.iface 85 (.agg #[.int .i64 c,.int .i64 b])] w fun e w'=>e=.returned (.tuple #[.agg #[.int .i64 c,.int .i64 b],.bool true])∧Below w.heap.size w w':=by
 have hta:∀w:World,(Instr.typeAssert (.iface 85 (.agg #[.int .i64 c,.int .i64 b])) 20 85 true).run Tryz.prog w=.ok (.tuple #[.agg #[.int .i64 c,.int .i64 b],.bool true]) w:=fun w=>by kernel_rfl
 go_enter Tryz.func51,Tryz.ntmps51
 go_wp2
 refine bodyPost_ret (v:=.tuple #[.agg #[.int .i64 c,.int .i64 b],.bool true]) (by simp[results,Tryz.results51,go_sem]) rfl ⟨rfl,?_⟩
 exact((Below.refl _ _).alloc (Nat.le_refl _) _).alloc (by simp) _
theorem faultNo (w:World) :
  Calls Tryz.prog 51 #[.nilIface] w fun e w'=>e=.returned (.tuple #[.agg #[.int .i64 0,.int .i64 0],.bool false])∧Below w.heap.size w w':=by
 have hta:∀w:World,(Instr.typeAssert .nilIface 20 85 true).run Tryz.prog w=.ok (.tuple #[.agg #[.int .i64 0,.int .i64 0],.bool false]) w:=fun w=>by kernel_rfl
 go_enter Tryz.func51,Tryz.ntmps51
 go_wp2
 refine bodyPost_ret (v:=.tuple #[.agg #[.int .i64 0,.int .i64 0],.bool false]) (by simp[results,Tryz.results51,go_sem]) rfl ⟨rfl,?_⟩
 exact((Below.refl _ _).alloc (Nat.le_refl _) _).alloc (by simp) _
abbrev hd0:Obj:=.cells #[.int .i64 0,.int .i64 0,.slice none 0 0,.int .i64 0] 41
theorem catchNo (p:Nat)(w:World) :
  CallsD Tryz.prog 50 #[.pointer (some ⟨p,0,none⟩)] .returning w fun e u' w'=>e=.returned (.tuple #[])∧u'=.returning∧Below w.heap.size w w':=by
 refine callsD_of_wpS Tryz.func50 rfl fun c₀ cs hu=>?_
 apply wpS_seq
 apply wpS_region
 simp[wpOpsS,go_sem,recoverD,hu,Tryz.ntmps50,Exit.thenS]
 refine(faultNo w).mono ?_
 rintro e w1 ⟨rfl,hb1⟩
 simp[go_sem,Array.replicate]
 refine wpS_of_wp ?_
 go_wp2
 refine⟨rfl,.returning,?_,.tuple #[],by simp[results,Tryz.results50,go_sem],rfl,rfl,hb1.alloc hb1.size _⟩
 cases c₀
 simp_all
theorem catchYes (p:Nat)(c b:Int)(w:World)(h:w.heap[p]?=some hd0) :
  CallsD Tryz.prog 50 #[.pointer (some ⟨p,0,none⟩)] (.panicking [{ v:=.iface 85 (.agg #[.int .i64 c,.int .i64 b]),recovered:=false }]) w fun e u' w'=>e=.returned (.tuple #[])∧u'=.panicking [{ v:=.iface 85 (.agg #[.int .i64 c,.int .i64 b]),recovered:=true }] ∧
   w'.heap[p]?=some (.cells #[.int .i64 c,.int .i64 b,.slice none 0 0,.int .i64 0] 41)∧w.grownBy w' (some p):=by
 refine callsD_of_wpS Tryz.func50 rfl fun c₀ cs hu=>?_
 apply wpS_seq
 apply wpS_region
 simp[wpOpsS,go_sem,recoverD,hu,Tryz.ntmps50,Exit.thenS]
 refine(faultYes c b w).mono ?_
 rintro e w1 ⟨rfl,hb1⟩
 simp[go_sem,Array.replicate]
 have hp:p<w.heap.size:=by
  by_cases hg:p<w.heap.size
  ·exact hg
  ·rw[Array.getElem?_eq_none (by omega)] at h;cases h
 have hbA:Below w.heap.size w (w1.alloc (.cells #[.int .i64 c,.int .i64 b] 85)):=hb1.alloc hb1.size _
 have hr:(w1.alloc (.cells #[.int .i64 c,.int .i64 b] 85)).heap[p]?=some hd0:=(hbA.block p hp).trans h
 obtain⟨⟨q0,q1,q2,q3⟩,z0,z1,z2,z3⟩:=res_cells hr
 have Hr:=(show Hid _ from hr)
 clear h hr hp
 refine wpS_of_wp ?_
 go_wp2
 refine⟨rfl,_,?_,.tuple #[],by simp[results,Tryz.results50,go_sem],rfl,rfl,?_,?_⟩
 ·rfl
 ·have:=Hr.out
  simp[World.setCell,Array.getElem?_modify,this]
 ·exact grown_trans (grown_trans (grown_trans (grown_trans (grown_below hbA) (grown_set _ _ _ _)) (grown_set _ _ _ _)) (grown_set _ _ _ _)) (grown_set _ _ _ _)
theorem alloc_last (w:World)(o:Obj):(w.alloc o).heap[w.heap.size]?=some o:=by simp only[World.alloc,Array.getElem?_push_size]
theorem grown_to {w w':World} {g B:Nat} (h:w.grownBy w' (some g))(hB:B≤g)(hw:B≤w.heap.size):Below B w w':=
 ⟨h.os,h.tape,h.output,h.size,fun k hk=>h.block k (by omega) (by intro e;have:=Option.some.inj e;omega)⟩
theorem OwnF.base {B B':Nat} {v:Value} {F:List Fl} {w:World} (h:OwnF B v F w)(hB:B'≤B):OwnF B' v F w:=by
 obtain⟨h1,h2⟩:=h
 refine⟨h1,?_⟩
 rcases h2 with h2|⟨k,cap,cur,e,hk,r⟩
 ·exact .inl h2
 ·exact .inr ⟨k,cap,cur,e,by omega,r⟩
theorem implReadHead (s:ByteArray)(w:World)(hs:s.size≤100000) :
  Calls Tryz.prog 14 #[.string s] w fun e w'=>∃ v,e=.returned (.agg #[.int .i64 (Pl.readHead s.data.toList).code,.int .i64 (Pl.readHead s.data.toList).at_,v,.int .i64 (Pl.readHead s.data.toList).body]) ∧
   OwnF w.heap.size v (Pl.readHead s.data.toList).fields w'∧Below w.heap.size w w':=by
 have hmf:∀(fn:Fn) (first cap:Array Value) (w:World),(Instr.makeFunc fn first cap).run Tryz.prog w=.ok (.func fn first cap) w:=fun _ _ _ _=>rfl
 have hT:=fun w=>implTooLong s w (by omega)
 simp only[decide_eq_false (show ¬(100000:Int)<(s.size:Int) by omega)] at hT
 have hsc:Sc ((w.alloc hd0).alloc (.cells #[.string s,.int .i64 0,.int .i64 0] 89)) (w.heap.size+1) s 0 0:=⟨by
  have h1:=alloc_last (w.alloc hd0) (.cells #[.string s,.int .i64 0,.int .i64 0] 89)
  rw[show(w.alloc hd0).heap.size=w.heap.size+1 from by simp] at h1
  exact h1⟩
 have hF:=scFields (w.heap.size+1) s 0 _ hs hsc
 obtain⟨R,hR⟩:∃R,Pl.readHead s.data.toList=R:=⟨_,rfl⟩
 rw[hR] at hF ⊢
 have HF:=(show Hid (Calls Tryz.prog 52 #[scp (w.heap.size+1)] ((w.alloc hd0).alloc (.cells #[.string s,.int .i64 0,.int .i64 0] 89)) fun e w'=>FPost s R ((w.alloc hd0).alloc (.cells #[.string s,.int .i64 0,.int .i64 0] 89)) (w.heap.size+1) e w') from hF)
 clear hsc hF hR
 go_enter_defers Tryz.func14,Tryz.ntmps14
 go_wp2_with fail
 refine(hT _).mono ?_
 rintro e w1 ⟨rfl,rfl⟩
 go_wp2_with fail
 refine Calls.mono HF.out ?_
 rintro e w3 ⟨g3,h3⟩
 have hz:((w.alloc hd0).alloc (.cells #[.string s,.int .i64 0,.int .i64 0] 89)).heap.size=w.heap.size+2:=by simp
 have hp0:((w.alloc hd0).alloc (.cells #[.string s,.int .i64 0,.int .i64 0] 89)).heap[w.heap.size]?=some hd0:=(Below.heap_alloc (w.alloc hd0) _ w.heap.size (by simp)).trans (alloc_last w hd0)
 have hr:w3.heap[w.heap.size]?=some hd0:=(g3.block w.heap.size (by omega) (by intro e;have:=Option.some.inj e;omega)).trans hp0
 have hbw:Below w.heap.size w w3:=(((Below.refl w.heap.size w).alloc (Nat.le_refl _) hd0).alloc (by simp) (.cells #[.string s,.int .i64 0,.int .i64 0] 89)).trans (grown_to g3 (by omega) (by omega))
 have hsz3:w.heap.size+2≤w3.heap.size:=by have:=g3.size;omega
 clear hp0 g3
 rcases h3 with ⟨hc,ha,v,b',rfl,hown,hsc3⟩|⟨hf,hbd,rfl⟩
 ·rw[hz] at hown
  obtain⟨o,cap,rfl⟩:=hown.shape
  obtain⟨⟨q0,q1,q2,q3⟩,z0,z1,z2,z3⟩:=res_cells hr
  have c1:=hsc3.c1
  have Hr:=(show Hid _ from hr)
  have Ho:=(show Hid (OwnF (w.heap.size+2) (.slice o R.fields.length cap) R.fields w3) from hown)
  have Hb:=(show Hid _ from hbw)
  clear hr hown hbw hsc3
  go_wp2
  refine leaves_cons (f:=50) (args:=#[.pointer (some ⟨w.heap.size,0,none⟩)]) (by simp) (by simp[go_sem]) ?_
  refine(catchNo w.heap.size _).mono ?_
  rintro e u' w'' ⟨rfl,rfl,hb⟩
  have hb:Below ((((w3.setCell ⟨w.heap.size,0,none⟩ (.int .i64 0)).setCell ⟨w.heap.size,1,none⟩ (.int .i64 0)).setCell ⟨w.heap.size,2,none⟩ (.slice o R.fields.length cap)).setCell ⟨w.heap.size,3,none⟩ (.int .i64 R.body)).heap.size ((((w3.setCell ⟨w.heap.size,0,none⟩ (.int .i64 0)).setCell ⟨w.heap.size,1,none⟩ (.int .i64 0)).setCell ⟨w.heap.size,2,none⟩ (.slice o R.fields.length cap)).setCell ⟨w.heap.size,3,none⟩ (.int .i64 R.body)) w'':=hb
  have h4:((((w3.setCell ⟨w.heap.size,0,none⟩ (.int .i64 0)).setCell ⟨w.heap.size,1,none⟩ (.int .i64 0)).setCell ⟨w.heap.size,2,none⟩ (.slice o R.fields.length cap)).setCell ⟨w.heap.size,3,none⟩ (.int .i64 R.body)).heap[w.heap.size]?=some (.cells #[.int .i64 0,.int .i64 0,.slice o R.fields.length cap,.int .i64 R.body] 41):=by
   have:=Hr.out
   simp[World.setCell,Array.getElem?_modify,this]
  have g4:w3.grownBy ((((w3.setCell ⟨w.heap.size,0,none⟩ (.int .i64 0)).setCell ⟨w.heap.size,1,none⟩ (.int .i64 0)).setCell ⟨w.heap.size,2,none⟩ (.slice o R.fields.length cap)).setCell ⟨w.heap.size,3,none⟩ (.int .i64 R.body)) (some w.heap.size):=grown_trans (grown_trans (grown_trans (grown_set _ _ _ _) (grown_set _ _ _ _)) (grown_set _ _ _ _)) (grown_set _ _ _ _)
  generalize ((((w3.setCell ⟨w.heap.size,0,none⟩ (.int .i64 0)).setCell ⟨w.heap.size,1,none⟩ (.int .i64 0)).setCell ⟨w.heap.size,2,none⟩ (.slice o R.fields.length cap)).setCell ⟨w.heap.size,3,none⟩ (.int .i64 R.body))=w4 at *
  have hlt4:w.heap.size<w4.heap.size:=by have:=g4.size;omega
  have h5:=(hb.block w.heap.size hlt4).trans h4
  clear q0 q1 q2 q3 z0 z1 z2 z3 c1 h4
  obtain⟨⟨q0,q1,q2,q3⟩,z0,z1,z2,z3⟩:=res_cells h5
  have O5:OwnF w.heap.size (.slice o R.fields.length cap) R.fields w'':=OwnF.grown (g:=w.heap.size) (OwnF.grown (OwnF.base Ho.out (Nat.le_succ _)) g4 (Nat.lt_succ_self _)) (grown_below hb) (Nat.lt_succ_self _) |>.base (Nat.le_succ _)
  have B5:Below w.heap.size w w'':=(Hb.out.trans (grown_to g4 (Nat.le_refl _) (by omega))).trans (hb.mono (by omega))
  have H5:=(show Hid (OwnF w.heap.size (.slice o R.fields.length cap) R.fields w'') from O5)
  have K5:=(show Hid _ from B5)
  clear O5 B5 hb g4 h5 Ho Hb Hr
  simp[Leaves,settle,results,Tryz.results14,go_sem,q0,q1,q2,q3]
  refine⟨_,⟨by rw[hc];rfl,by rw[ha];rfl,rfl⟩,H5.out,K5.out⟩
 ·have Hb:=(show Hid _ from hbw)
  have hy:=catchYes w.heap.size R.code R.at_ w3 hr
  refine leaves_cons (f:=50) (args:=#[.pointer (some ⟨w.heap.size,0,none⟩)]) (by simp) (by simp[go_sem]) ?_
  refine hy.mono ?_
  rintro e u' w'' ⟨rfl,rfl,h4,g4⟩
  obtain⟨⟨q0,q1,q2,q3⟩,z0,z1,z2,z3⟩:=res_cells h4
  have hbz:=(show Hid _ from Hb.out.trans (grown_to g4 (Nat.le_refl _) (by omega)))
  clear g4 h4 hy hr hbw
  simp[Leaves,settle,results,Tryz.results14,go_sem,q0,q1,q2,q3]
  exact⟨_,⟨rfl,by rw[hbd];rfl⟩,by rw[hf];exact OwnF.nil _ _,hbz.out⟩
def namedB (n m:ByteArray):Bool:=lower n.data.toList==lower m.data.toList
set_option maxRecDepth 10000 in
theorem implNamed (n v m:ByteArray)(w:World)(hn:n.size≤100000)(hm:m.size≤100000) :
  Calls Tryz.prog 29 #[.agg #[.string n,.string v],.string m] w fun e w'=>e=.returned (.bool (namedB n m))∧Below w.heap.size w w':=by
 have hA:=fun w=>implLowered n w hn
 have hB:=fun w=>implLowered m w hm
 obtain⟨W,hW⟩:∃W,W=w.alloc (.cells #[.string n,.string v] 38):=⟨_,rfl⟩
 have hbW:Below w.heap.size w W:=by rw[hW];exact(Below.refl _ _).alloc (Nat.le_refl _) _
 have q0:W.cell? ⟨w.heap.size,0,none⟩=some (.string n):=by rw[hW];simp
 have k0:=cell_regrown q0
 have HE:Hid (namedB n m=((⟨(lower n.data.toList).toArray⟩:ByteArray).data.toList==(⟨(lower m.data.toList).toArray⟩:ByteArray).data.toList)):=rfl
 generalize (⟨(lower n.data.toList).toArray⟩:ByteArray)=ta at *
 generalize (⟨(lower m.data.toList).toArray⟩:ByteArray)=tb at *
 have HA:=(show Hid _ from hA)
 have HB:=(show Hid _ from hB)
 clear hA hB k0
 go_enter Tryz.func29,Tryz.ntmps29
 go_wp2_with fail
 rw[← hW]
 refine(HA.out _).mono ?_
 rintro e w1 ⟨rfl,hb1⟩
 go_wp2_with fail
 refine(HB.out _).mono ?_
 rintro e w2 ⟨rfl,hb2⟩
 have hbq:=hbW.trans ((hb1.trans (hb2.mono hb1.size)).mono hbW.size)
 clear hW
 go_wp2
 go_ret
 rw[HE.out,← ByteArray.toList_eq,← ByteArray.toList_eq]
 exact⟨rfl,hbq⟩
def lastTo (p:Nat→Bool):Nat→Option Nat
 | 0=>none
 | k+1=>if p k then some k else lastTo p k
def atV:Option Nat→Int
 | none=>-1
 | some k=>k
def nmAt (F:List Fd)(m:ByteArray)(i:Nat):Bool:=if h:i<F.length then namedB F[i].1 m else false
set_option maxRecDepth 10000 in
theorem implLast (o:Option Addr)(F:List Fd)(cap:Nat)(m:ByteArray)(w:World)(hF:Fld w.heap.size w o F)(hlen:F.length≤1048576)(hsz:∀f ∈ F,f.1.size≤100000)(hm:m.size≤100000) :
  Calls Tryz.prog 65 #[.slice o F.length cap,.string m] w fun e w'=>e=.returned (.int .i64 (atV (lastTo (nmAt F m) F.length)))∧Below w.heap.size w w':=by
 have HF:Hid (Fld w.heap.size w o F):=hF
 have Hsz:Hid (∀f ∈ F,f.1.size≤100000):=hsz
 clear hF hsz
 obtain⟨R,hR⟩:∃R,R=atV (lastTo (nmAt F m) F.length):=⟨_,rfl⟩
 rw[← hR]
 have HR:Hid (R=atV (lastTo (nmAt F m) F.length)):=hR
 clear hR
 go_enter Tryz.func65,Tryz.ntmps65
 go_wp2
 go_loopw [5] (fun i wr=>∃ k:Nat,k≤F.length∧i=.int .i64 ((k:Int)-1)∧Hid (R=atV (lastTo (nmAt F m) k))∧Below w.heap.size w wr) (fun i _=>(Lib.intOf i+1).toNat)
 case atStart=>exact⟨F.length,Nat.le_refl _,by go_num,HR,Below.refl _ _⟩
 case round=>
  obtain⟨k,hk,rfl,HA,hbr⟩:=hrel
  cases k with
  | zero=>
   have hv:R = -1:=HA.out
   subst hv
   go_wp2
   go_ret
   exact⟨rfl,hbr⟩
  | succ k=>
   have hkl:k<F.length:=by omega
   obtain⟨a,rfl,ha,hc0,hc1⟩:=((HF.out).below hbr) k hkl
   have hfs:=Hsz.out F[k] (List.getElem_mem hkl)
   have hN:=fun v w=>implNamed F[k].1 v m w hfs hm
   have HX:Hid (lastTo (nmAt F m) (k+1)=if namedB F[k].1 m then some k else lastTo (nmAt F m) k):=by
    show _=_
    rw[lastTo,nmAt,dif_pos hkl]
   have HN:=(show Hid _ from hN)
   clear hN
   generalize F[k].1=f at *
   have e1:((k+1:Nat):Int)-1=(k:Int):=by omega
   rw[e1]
   cases hb:namedB f m
   ·have HA2:Hid (R=atV (lastTo (nmAt F m) k)):=by
     show _=_
     rw[HA.out,HX.out,hb]
     rfl
    rw[hb] at HN
    clear HX HA hb
    go_wp2_with fail
    refine(HN.out _ _).mono ?_
    rintro e w1 ⟨rfl,hb1⟩
    have hbq:=hbr.trans (hb1.mono hbr.size)
    go_wp2
    go_roundw
    case rel=>exact⟨k,by omega,by go_num,HA2,hbq⟩
    case measure=>simp[Lib.intOf]
   ·have hv:R=(k:Int):=by
     rw[HA.out,HX.out,hb]
     rfl
    rw[hb] at HN
    clear HX HA hb HR
    subst hv
    go_wp2_with fail
    refine(HN.out _ _).mono ?_
    rintro e w1 ⟨rfl,hb1⟩
    have hbq:=hbr.trans (hb1.mono hbr.size)
    go_wp2
    go_ret
    exact⟨rfl,hbq⟩
end Go.Proofs.YtacaoiedcfelcaaGreatDoor
