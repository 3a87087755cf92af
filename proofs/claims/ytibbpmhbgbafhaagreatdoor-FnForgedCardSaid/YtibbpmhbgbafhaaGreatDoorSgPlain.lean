import Derived.Test.YtibbpmhbgbafhaaGreatDoorScan4
import Derived.Test.YtibbpmhbgbafhaaGreatDoorHeadsPlain
import Derived.Defers
import Derived.Recover
import Derived.Laws.Pointers
import Derived.Test.YtibbpmhbgbafhaaGreatDoorFields
import Derived.Test.YtibbpmhbgbafhaaGreatDoorCanonFieldSpec
import Derived.Lib.QuietBelow
import Derived.Deep.QuietTactic
import Derived.BigQuiet
import Derived.Test.YtibbpmhbgbafhaaGreatDoorPhrasePlain
set_option maxRecDepth 20000
set_option maxHeartbeats 4000000
namespace Go.Proofs.YtibbpmhbgbafhaaGreatDoor
open Go.RowKit Go.Lib
def FPost (s:ByteArray)(R:HR)(w:World)(g:Nat)(e:Ending)(w':World):Prop:=
 w.grownBy w' (some g)∧((R.code=0∧R.at_=0∧∃v b',e=.returned v∧OwnF w.heap.size v R.fields w'∧Sc w' g s R.body b')∨(R.fields=[]∧R.body=0∧e=.panicked (flt R.code R.at_)))
theorem grown_over {w wr w':World} {r:Option Nat} (h:w.grownBy wr r)(hb:Below w.heap.size wr w'):w.grownBy w' r:=
 ⟨hb.os.trans h.os,hb.tape.trans h.tape,hb.output.trans h.output,Nat.le_trans h.size hb.size,fun k hk hr=>(hb.block k hk).trans (h.block k hk hr)⟩
theorem OwnF.grown {B:Nat} {v:Value} {F:List Fl} {w w':World} {g:Nat} (h:OwnF B v F w)(hg:w.grownBy w' (some g))(hB:g<B):OwnF B v F w':=by
 obtain⟨h1,h2⟩:=h
 refine⟨h1,?_⟩
 rcases h2 with h2|⟨k,cap,cur,e,hk,hc,r⟩
 ·exact .inl h2
 ·refine .inr ⟨k,cap,cur,e,hk,?_,r⟩
  have hlt:k<w.heap.size:=by
   by_cases h:k<w.heap.size
   ·exact h
   ·rw[Array.getElem?_eq_none (by omega)] at hc;cases hc
  rw[hg.block k hlt (by intro e;have:=Option.some.inj e;omega)]
  exact hc
theorem implF_no (l:List UInt8)(k:Nat)(h:Pl.nameGood l k=false):Pl.implF l k=.inl k:=by rw[Pl.implF,if_neg (by rw[h];simp)]
theorem implF_end (l:List UInt8)(k:Nat)(h:Pl.nameGood l k=true)(hv:l.length≤(Pl.vend l (l.length+1) (Pl.stop Pl.blank l (Pl.stop Pl.nb l k)+1) k).1) :
  Pl.implF l k=.inr (Pl.sl l k (Pl.stop Pl.nb l k),Pl.sl l (Pl.stop Pl.blank l (Pl.stop Pl.nb l k)+1) l.length,l.length):=by
 rw[Pl.implF,if_pos h];simp only[hv,if_true]
theorem implF_line (l:List UInt8)(k:Nat)(h:Pl.nameGood l k=true)(hv:¬l.length≤(Pl.vend l (l.length+1) (Pl.stop Pl.blank l (Pl.stop Pl.nb l k)+1) k).1)(hc:Pl.crlf l (Pl.vend l (l.length+1) (Pl.stop Pl.blank l (Pl.stop Pl.nb l k)+1) k).1=true) :
  Pl.implF l k=.inr (Pl.sl l k (Pl.stop Pl.nb l k),Pl.sl l (Pl.stop Pl.blank l (Pl.stop Pl.nb l k)+1) (Pl.vend l (l.length+1) (Pl.stop Pl.blank l (Pl.stop Pl.nb l k)+1) k).1,(Pl.vend l (l.length+1) (Pl.stop Pl.blank l (Pl.stop Pl.nb l k)+1) k).1+2):=by
 rw[Pl.implF,if_pos h];simp only[hv,if_false,hc,if_true]
theorem implF_ill (l:List UInt8)(k:Nat)(h:Pl.nameGood l k=true)(hv:¬l.length≤(Pl.vend l (l.length+1) (Pl.stop Pl.blank l (Pl.stop Pl.nb l k)+1) k).1)(hc:Pl.crlf l (Pl.vend l (l.length+1) (Pl.stop Pl.blank l (Pl.stop Pl.nb l k)+1) k).1=false) :
  Pl.implF l k=.inl (Pl.vend l (l.length+1) (Pl.stop Pl.blank l (Pl.stop Pl.nb l k)+1) k).2:=by
 rw[Pl.implF,if_pos h];simp only[hv,if_false,hc,Bool.false_eq_true]
theorem scFields (g:Nat)(s:ByteArray)(b:Nat)(w:World)(hs:s.size≤100000)(h:Sc w g s 0 b) :
  Calls Tryz.prog 52 #[scp g] w fun e w'=>FPost s (Pl.readHead s.data.toList) w g e w':=by
 obtain⟨i0,hi,hy0,hy1,hy2⟩:=info_parts Tryz.info43
 have hll:s.data.toList.length=s.size:=by simp
 obtain⟨R,hR⟩:∃R,Pl.readHead s.data.toList=R:=⟨_,rfl⟩
 rw[hR]
 have HR0:Hid (∃f,s.data.toList.length+1≤f+0∧Pl.rd s.data.toList f 0 []=R):=show ∃_,_ from ⟨_,Nat.le_refl _,hR⟩
 have Hsc:=(show Hid _ from h)
 have hgw:=h.lt
 clear hR h
 go_enter Tryz.func52,Tryz.ntmps52
 go_wp2
 go_loopw [3] (fun v wr=>∃ (k b':Nat) (F:List Fl),k≤s.size∧F.length≤200∧Hid (Sc wr g s k b')∧Hid (OwnF w.heap.size v F wr)∧Hid (∃f,s.data.toList.length+1≤f+k∧Pl.rd s.data.toList f k F=R)∧Hid (w.grownBy wr (some g))) (fun _ wr=>s.size-atOf wr g)
 case atStart=>exact⟨0,b,[],Nat.zero_le _,Nat.zero_le _,Hsc,OwnF.nil _ _,HR0,grown_refl _ _⟩
 case round=>
  clear HR0 Hsc
  obtain⟨k,b',F,hk,hF,Hsc,Hown,HR,Hg⟩:=hrel
  have hEn:=scEnded g s k b' wr Hsc.out
  by_cases hkn:k<s.size
  ·rw[show((k:Int)==(s.size:Int))=false from by simp;omega] at hEn
   cases hcr:Pl.crlf s.data.toList k
   ·have HL:=(show Hid _ from fun (w:World) h=>scLineEndNo g s k b' w hs hk h hcr)
    go_wp2_with fail
    refine hEn.mono ?_
    rintro e w1 ⟨rfl,hb1⟩
    go_wp2_with fail
    refine(HL.out _ (Hsc.out.below hb1)).mono ?_
    rintro e w2 ⟨rfl,hb2⟩
    have S2:=(show Hid _ from (Hsc.out.below hb1).below hb2)
    have G2:=(show Hid _ from grown_trans Hg.out (grown_trans (grown_below hb1) (grown_below hb2)))
    have O2:=(show Hid (OwnF w.heap.size u3 F w2) from (Hown.out.grown (grown_below (r:=some g) hb1) hgw).grown (grown_below (r:=some g) hb2) hgw)
    clear hb1 hb2 HL hEn
    have c1:=S2.out.c1
    have c2:=S2.out.c2
    have f2:=S2.out.f2
    have S3:=(show Hid _ from S2.out.set2 (k:Int) k rfl)
    have G3:=(show Hid _ from grown_trans G2.out (grown_set w2 g 2 (.int .i64 (k:Int))))
    have O3:=(show Hid (OwnF w.heap.size u3 F (w2.setCell ⟨g,2,none⟩ (.int .i64 (k:Int)))) from O2.out.grown (grown_set w2 g 2 _) hgw)
    cases hng:Pl.nameGood s.data.toList k
    ·have HN:=(show Hid _ from fun (w:World) h=>scNameNo g s k k w hs hk h hng)
     have hRe:Hid (R=⟨3,k,0,[]⟩):=show _=_ from Pl.rd_fault _ k k F R (by omega) hcr (implF_no _ _ hng) HR.out
     clear hcr hng HR
     go_wp2_with fail
     refine(HN.out _ S3.out).mono ?_
     rintro e w4 ⟨rfl,g4⟩
     refine⟨rfl,?_⟩
     rw[hRe.out]
     exact⟨grown_trans G3.out g4,.inr ⟨rfl,rfl,rfl⟩⟩
    ·have hq:Pl.stop Pl.blank s.data.toList (Pl.stop Pl.nb s.data.toList k)<s.size:=by
      have:=hng
      rw[Pl.nameGood,Bool.and_eq_true,Bool.and_eq_true,decide_eq_true_eq] at this
      have:=this.2.1
      omega
     have hp0:=Pl.stop_ge Pl.nb s.data.toList k (by omega)
     have hp1:=Pl.stop_le Pl.nb s.data.toList k (by omega)
     have hq0:=Pl.stop_ge Pl.blank s.data.toList (Pl.stop Pl.nb s.data.toList k) (by omega)
     have HN:=(show Hid _ from fun (w:World) h=>scNameYes g s k k w hs hk h hng)
     have HV:=(show Hid _ from fun (w:World) h=>scValue g s (Pl.stop Pl.blank s.data.toList (Pl.stop Pl.nb s.data.toList k)+1) k w hs (by omega) h)
     have i1:=implF_end s.data.toList k hng
     have i2:=implF_line s.data.toList k hng
     have i3:=implF_ill s.data.toList k hng
     clear hng
     generalize Pl.stop Pl.nb s.data.toList k=p at *
     generalize Pl.stop Pl.blank s.data.toList p=q at *
     generalize Pl.vend s.data.toList (s.data.toList.length+1) (q+1) k=V at *
     have I1:=(show Hid _ from i1)
     have I2:=(show Hid _ from i2)
     have I3:=(show Hid _ from i3)
     have Hcr:=(show Hid _ from hcr)
     obtain⟨o,cap,hu⟩:=Hown.out.shape
     subst hu
     clear hcr i1 i2 i3
     go_wp2_with fail
     refine(HN.out _ S3.out).mono ?_
     rintro e w4 ⟨rfl,s4,g4⟩
     have S4:=(show Hid _ from s4)
     have G4:=(show Hid _ from grown_trans G3.out g4)
     have O4:=(show Hid (OwnF w.heap.size (.slice o F.length cap) F w4) from OwnF.grown O3.out g4 hgw)
     clear s4 g4 c1 c2 f2 S2 G2 O2 S3 G3 O3
     go_wp2_with fail
     refine(HV.out _ S4.out).mono ?_
     rintro e w5 ⟨g5,hpost⟩
     have G5:=(show Hid _ from grown_trans G4.out g5)
     have O5:=(show Hid (OwnF w.heap.size (.slice o F.length cap) F w5) from OwnF.grown O4.out g5 hgw)
     clear g5
     have hpost':(∃x,e=.returned (.string (s.extract (q+1) V.1))∧Sc w5 g s x V.2∧Pl.implF s.data.toList k=.inr (Pl.sl s.data.toList k p,Pl.sl s.data.toList (q+1) V.1,x)∧k<x∧x≤s.size)∨(e=.panicked (flt 3 V.2)∧Pl.implF s.data.toList k=.inl V.2):=by
      rcases hpost with ⟨h1,h2,h3⟩|⟨h1,h0,h2,h3,h4⟩|⟨h1,h2,h3⟩
      ·refine .inl ⟨V.1,h2,h3,?_,by omega,by omega⟩
       rw[I1.out (by omega),h1,hll]
      ·have:=(Pl.crlf_b _ _ h2).2.2
       exact .inl ⟨V.1+2,h3,h4,I2.out (by omega) h2,by omega,by omega⟩
      ·exact .inr ⟨h3,I3.out (by omega) h2⟩
     clear hpost I1 I2 I3
     rcases hpost' with ⟨x,rfl,s5,hf,hx0,hx1⟩|⟨rfl,hf⟩
     ·have S5:=(show Hid _ from s5)
      clear s5
      have e1:=ext_sl s k p
      have e2:=ext_sl s (q+1) V.1
      rw[← e1,← e2] at hf
      clear e1 e2
      generalize s.extract k p=nm at *
      generalize s.extract (q+1) V.1=vl at *
      by_cases h200:F.length=200
      ·have hRe:Hid (R=⟨4,k,0,[]⟩):=show _=_ from Pl.rd_many _ k x _ _ F R (by omega) Hcr.out hf h200 HR.out
       have hb2:((F.length:Int)==200)=true:=by rw[h200];rfl
       clear hf HR
       go_wp2
       refine⟨rfl,?_⟩
       rw[hRe.out]
       exact⟨grown_trans G5.out (grown_below ((Below.refl _ _).alloc (Nat.le_refl _) _)),.inr ⟨rfl,rfl,rfl⟩⟩
      ·have hRe:Hid (∃f,s.data.toList.length+1≤f+x∧Pl.rd s.data.toList f x (F ++ [(nm.data.toList,vl.data.toList)])=R):=Pl.rd_step _ k x _ _ F R (by omega) Hcr.out hf hx0 h200 HR.out
       have hb2:((F.length:Int)==200)=false:=by rw[Bool.eq_false_iff];intro e;have:=beq_iff_eq.1 e;omega
       clear hf HR
       have hal:Below w5.heap.size w5 (w5.alloc (.cells #[.string nm,.string vl] 56)):=(Below.refl _ _).alloc (Nat.le_refl _) _
       have OA:=(show Hid (OwnF w.heap.size (.slice o F.length cap) F (w5.alloc (.cells #[.string nm,.string vl] 56))) from OwnF.grown O5.out (grown_below (r:=some g) hal) hgw)
       have hres:=(S5.out.below hal).blk
       have hsz:w.heap.size≤(w5.alloc (.cells #[.string nm,.string vl] 56)).heap.size:=Nat.le_trans G5.out.size hal.size
       have hcs:#[Value.string nm,Value.string vl]=#[txt nm.data.toList,txt vl.data.toList]:=by rw[txt_eta,txt_eta]
       have GA:=(show Hid _ from grown_trans G5.out (grown_below (r:=some g) hal))
       clear hal
       have Hres:=(show Hid _ from hres)
       have Hsz:=(show Hid _ from hsz)
       have Hcs:=(show Hid _ from hcs)
       clear hres hsz hcs
       go_wp2_with (at_builtin;go_must (refine wp_appF (W:=w5.alloc (.cells #[.string nm,.string vl] 56)) rfl _ _ 31 rfl i0 Tryz.underlying31 hi hy0 hy1 hy2 w.heap.size (.slice o F.length cap) F rfl OA.out (nm.data.toList,vl.data.toList) _ Hcs.out 1 (by rw[show(w5.alloc (.cells #[.string nm,.string vl] 56)).heap.size=w5.heap.size+1 from by simp];rfl) (by omega) Hsz.out (Below.refl _ _) g _ 90 (0,0) (by decide) Hres.out ?_;intro v' w' hown' hb' hres'))
       have S6:Hid (Sc w' g s x V.2):=⟨hres'⟩
       have G6:=(show Hid _ from grown_over GA.out hb')
       have O6:=(show Hid (OwnF w.heap.size v' (F ++ [(nm.data.toList,vl.data.toList)]) w') from hown')
       have hat:Hid (atOf wr g=k):=Hsc.out.at
       go_roundw
       case rel=>exact⟨x,V.2,_,hx1,by simp;omega,S6,O6,hRe,G6⟩
       case measure=>
        have:=S6.out.at
        rw[hat.out,this]
        omega
     ·have hRe:Hid (R=⟨3,V.2,0,[]⟩):=show _=_ from Pl.rd_fault _ k V.2 F R (by omega) Hcr.out hf HR.out
      refine⟨rfl,?_⟩
      rw[hRe.out]
      exact⟨G5.out,.inr ⟨rfl,rfl,rfl⟩⟩
   ·have HL:=(show Hid _ from fun (w:World) h=>scLineEndYes g s k b' w hs hk h hcr)
    have hRe:Hid (R=⟨0,0,k+2,F⟩):=show _=_ from Pl.rd_crlf _ k F R (by omega) hcr HR.out
    clear hcr HR
    go_wp2_with fail
    refine hEn.mono ?_
    rintro e w1 ⟨rfl,hb1⟩
    go_wp2_with fail
    refine(HL.out _ (Hsc.out.below hb1)).mono ?_
    rintro e w2 ⟨rfl,s2,g2⟩
    have S2:=(show Hid _ from s2)
    have G2:=(show Hid _ from grown_trans Hg.out (grown_trans (grown_below hb1) g2))
    have O2:=(show Hid (OwnF w.heap.size u3 F w2) from (Hown.out.grown (grown_below (r:=some g) hb1) hgw).grown g2 hgw)
    clear hb1 s2 g2 HL hEn
    go_wp2
    go_ret
    rw[hRe.out]
    exact⟨G2.out,.inl ⟨rfl,rfl,_,_,rfl,O2.out,S2.out⟩⟩
  ·have hkk:k=s.size:=by omega
   rw[show((k:Int)==(s.size:Int))=true from by simp;omega] at hEn
   have hRe:Hid (R=⟨0,0,s.data.toList.length,F⟩):=show _=_ from Pl.rd_end _ k F R (by omega) HR.out (by omega)
   clear HR
   have Hkk:=(show Hid _ from hkk)
   clear hkk hkn
   go_wp2_with fail
   refine hEn.mono ?_
   rintro e w1 ⟨rfl,hb1⟩
   have S2:=(show Hid _ from Hsc.out.below hb1)
   have G2:=(show Hid _ from grown_trans Hg.out (grown_below hb1))
   have O2:=(show Hid (OwnF w.heap.size u3 F w1) from Hown.out.grown (grown_below (r:=some g) hb1) hgw)
   clear hb1 hEn
   go_wp2
   go_ret
   rw[hRe.out]
   refine⟨G2.out,.inl ⟨rfl,rfl,_,b',rfl,O2.out,?_⟩⟩
   show Sc _ g s s.data.toList.length _
   rw[hll,← Hkk.out]
   exact S2.out
theorem faultYes (c b:Int)(w:World) :
  Calls Tryz.prog 51 #[.iface 86 (.agg #[.int .i64 c,.int .i64 b])] w fun e w'=>e=.returned (.tuple #[.agg #[.int .i64 c,.int .i64 b],.bool true])∧Below w.heap.size w w':=by
 have hta:∀w:World,(Instr.typeAssert (.iface 86 (.agg #[.int .i64 c,.int .i64 b])) 20 86 true).run Tryz.prog w=.ok (.tuple #[.agg #[.int .i64 c,.int .i64 b],.bool true]) w:=fun w=>by kernel_rfl
 go_enter Tryz.func51,Tryz.ntmps51
 go_wp2
 refine bodyPost_ret (v:=.tuple #[.agg #[.int .i64 c,.int .i64 b],.bool true]) (by simp[results,Tryz.results51,go_sem]) rfl ⟨rfl,?_⟩
 exact((Below.refl _ _).alloc (Nat.le_refl _) _).alloc (by simp) _
theorem faultNo (w:World) :
  Calls Tryz.prog 51 #[.nilIface] w fun e w'=>e=.returned (.tuple #[.agg #[.int .i64 0,.int .i64 0],.bool false])∧Below w.heap.size w w':=by
 have hta:∀w:World,(Instr.typeAssert .nilIface 20 86 true).run Tryz.prog w=.ok (.tuple #[.agg #[.int .i64 0,.int .i64 0],.bool false]) w:=fun w=>by kernel_rfl
 go_enter Tryz.func51,Tryz.ntmps51
 go_wp2
 refine bodyPost_ret (v:=.tuple #[.agg #[.int .i64 0,.int .i64 0],.bool false]) (by simp[results,Tryz.results51,go_sem]) rfl ⟨rfl,?_⟩
 exact((Below.refl _ _).alloc (Nat.le_refl _) _).alloc (by simp) _
abbrev hd0:Obj:=.cells #[.int .i64 0,.int .i64 0,.slice none 0 0,.int .i64 0] 33
theorem catchNo (p:Nat)(w:World) :
  CallsD Tryz.prog 50 #[.pointer (some ⟨p,0,none⟩)] .returning w fun e u' w'=>e=.returned (.tuple #[])∧u'=.returning∧Below w.heap.size w w':=by
 refine callsD_of_wpS Tryz.func50 rfl fun c₀ cs hu=>?_
 apply wpS_seq
 apply wpS_region
 simp[wpOpsS,go_sem,recoverD,hu,Tryz.ntmps50,Exit.thenS]
 refine(faultNo w).mono ?_
 rintro e w1 ⟨rfl,hb1⟩
 simp[go_sem,Array.replicate]
 refine wpS_of_wp ?_
 go_wp2
 refine⟨rfl,.returning,?_,.tuple #[],by simp[results,Tryz.results50,go_sem],rfl,rfl,hb1.alloc hb1.size _⟩
 cases c₀
 simp_all
theorem catchYes (p:Nat)(c b:Int)(w:World)(h:w.heap[p]?=some hd0) :
  CallsD Tryz.prog 50 #[.pointer (some ⟨p,0,none⟩)] (.panicking [{ v:=.iface 86 (.agg #[.int .i64 c,.int .i64 b]),recovered:=false }]) w fun e u' w'=>e=.returned (.tuple #[])∧u'=.panicking [{ v:=.iface 86 (.agg #[.int .i64 c,.int .i64 b]),recovered:=true }] ∧
   w'.heap[p]?=some (.cells #[.int .i64 c,.int .i64 b,.slice none 0 0,.int .i64 0] 33)∧w.grownBy w' (some p):=by
 refine callsD_of_wpS Tryz.func50 rfl fun c₀ cs hu=>?_
 apply wpS_seq
 apply wpS_region
 simp[wpOpsS,go_sem,recoverD,hu,Tryz.ntmps50,Exit.thenS]
 refine(faultYes c b w).mono ?_
 rintro e w1 ⟨rfl,hb1⟩
 simp[go_sem,Array.replicate]
 have hp:p<w.heap.size:=by
  by_cases hg:p<w.heap.size
  ·exact hg
  ·rw[Array.getElem?_eq_none (by omega)] at h;cases h
 have hbA:Below w.heap.size w (w1.alloc (.cells #[.int .i64 c,.int .i64 b] 86)):=hb1.alloc hb1.size _
 have hr:(w1.alloc (.cells #[.int .i64 c,.int .i64 b] 86)).heap[p]?=some hd0:=(hbA.block p hp).trans h
 obtain⟨⟨q0,q1,q2,q3⟩,z0,z1,z2,z3⟩:=res_cells hr
 have Hr:=(show Hid _ from hr)
 clear h hr hp
 refine wpS_of_wp ?_
 go_wp2
 refine⟨rfl,_,?_,.tuple #[],by simp[results,Tryz.results50,go_sem],rfl,rfl,?_,?_⟩
 ·rfl
 ·have:=Hr.out
  simp[World.setCell,Array.getElem?_modify,this]
 ·exact grown_trans (grown_trans (grown_trans (grown_trans (grown_below hbA) (grown_set _ _ _ _)) (grown_set _ _ _ _)) (grown_set _ _ _ _)) (grown_set _ _ _ _)
theorem alloc_last (w:World)(o:Obj):(w.alloc o).heap[w.heap.size]?=some o:=by simp only[World.alloc,Array.getElem?_push_size]
theorem grown_to {w w':World} {g B:Nat} (h:w.grownBy w' (some g))(hB:B≤g)(hw:B≤w.heap.size):Below B w w':=
 ⟨h.os,h.tape,h.output,h.size,fun k hk=>h.block k (by omega) (by intro e;have:=Option.some.inj e;omega)⟩
theorem OwnF.base {B B':Nat} {v:Value} {F:List Fl} {w:World} (h:OwnF B v F w)(hB:B'≤B):OwnF B' v F w:=by
 obtain⟨h1,h2⟩:=h
 refine⟨h1,?_⟩
 rcases h2 with h2|⟨k,cap,cur,e,hk,r⟩
 ·exact .inl h2
 ·exact .inr ⟨k,cap,cur,e,by omega,r⟩
theorem implReadHead (s:ByteArray)(w:World)(hs:s.size≤100000) :
  Calls Tryz.prog 24 #[.string s] w fun e w'=>∃ v,e=.returned (.agg #[.int .i64 (Pl.readHead s.data.toList).code,.int .i64 (Pl.readHead s.data.toList).at_,v,.int .i64 (Pl.readHead s.data.toList).body]) ∧
   OwnF w.heap.size v (Pl.readHead s.data.toList).fields w'∧Below w.heap.size w w':=by
 have hmf:∀(fn:Fn) (first cap:Array Value) (w:World),(Instr.makeFunc fn first cap).run Tryz.prog w=.ok (.func fn first cap) w:=fun _ _ _ _=>rfl
 have hT:=fun w=>implTooLong s w (by omega)
 simp only[decide_eq_false (show ¬(100000:Int)<(s.size:Int) by omega)] at hT
 have hsc:Sc ((w.alloc hd0).alloc (.cells #[.string s,.int .i64 0,.int .i64 0] 90)) (w.heap.size+1) s 0 0:=⟨by
  have h1:=alloc_last (w.alloc hd0) (.cells #[.string s,.int .i64 0,.int .i64 0] 90)
  rw[show(w.alloc hd0).heap.size=w.heap.size+1 from by simp] at h1
  exact h1⟩
 have hF:=scFields (w.heap.size+1) s 0 _ hs hsc
 obtain⟨R,hR⟩:∃R,Pl.readHead s.data.toList=R:=⟨_,rfl⟩
 rw[hR] at hF ⊢
 have HF:=(show Hid (Calls Tryz.prog 52 #[scp (w.heap.size+1)] ((w.alloc hd0).alloc (.cells #[.string s,.int .i64 0,.int .i64 0] 90)) fun e w'=>FPost s R ((w.alloc hd0).alloc (.cells #[.string s,.int .i64 0,.int .i64 0] 90)) (w.heap.size+1) e w') from hF)
 clear hsc hF hR
 go_enter_defers Tryz.func24,Tryz.ntmps24
 go_wp2_with fail
 refine(hT _).mono ?_
 rintro e w1 ⟨rfl,rfl⟩
 go_wp2_with fail
 refine Calls.mono HF.out ?_
 rintro e w3 ⟨g3,h3⟩
 have hz:((w.alloc hd0).alloc (.cells #[.string s,.int .i64 0,.int .i64 0] 90)).heap.size=w.heap.size+2:=by simp
 have hp0:((w.alloc hd0).alloc (.cells #[.string s,.int .i64 0,.int .i64 0] 90)).heap[w.heap.size]?=some hd0:=(Below.heap_alloc (w.alloc hd0) _ w.heap.size (by simp)).trans (alloc_last w hd0)
 have hr:w3.heap[w.heap.size]?=some hd0:=(g3.block w.heap.size (by omega) (by intro e;have:=Option.some.inj e;omega)).trans hp0
 have hbw:Below w.heap.size w w3:=(((Below.refl w.heap.size w).alloc (Nat.le_refl _) hd0).alloc (by simp) (.cells #[.string s,.int .i64 0,.int .i64 0] 90)).trans (grown_to g3 (by omega) (by omega))
 have hsz3:w.heap.size+2≤w3.heap.size:=by have:=g3.size;omega
 clear hp0 g3
 rcases h3 with ⟨hc,ha,v,b',rfl,hown,hsc3⟩|⟨hf,hbd,rfl⟩
 ·rw[hz] at hown
  obtain⟨o,cap,rfl⟩:=hown.shape
  obtain⟨⟨q0,q1,q2,q3⟩,z0,z1,z2,z3⟩:=res_cells hr
  have c1:=hsc3.c1
  have Hr:=(show Hid _ from hr)
  have Ho:=(show Hid (OwnF (w.heap.size+2) (.slice o R.fields.length cap) R.fields w3) from hown)
  have Hb:=(show Hid _ from hbw)
  clear hr hown hbw hsc3
  go_wp2
  refine leaves_cons (f:=50) (args:=#[.pointer (some ⟨w.heap.size,0,none⟩)]) (by simp) (by simp[go_sem]) ?_
  refine(catchNo w.heap.size _).mono ?_
  rintro e u' w'' ⟨rfl,rfl,hb⟩
  have hb:Below ((((w3.setCell ⟨w.heap.size,0,none⟩ (.int .i64 0)).setCell ⟨w.heap.size,1,none⟩ (.int .i64 0)).setCell ⟨w.heap.size,2,none⟩ (.slice o R.fields.length cap)).setCell ⟨w.heap.size,3,none⟩ (.int .i64 R.body)).heap.size ((((w3.setCell ⟨w.heap.size,0,none⟩ (.int .i64 0)).setCell ⟨w.heap.size,1,none⟩ (.int .i64 0)).setCell ⟨w.heap.size,2,none⟩ (.slice o R.fields.length cap)).setCell ⟨w.heap.size,3,none⟩ (.int .i64 R.body)) w'':=hb
  have h4:((((w3.setCell ⟨w.heap.size,0,none⟩ (.int .i64 0)).setCell ⟨w.heap.size,1,none⟩ (.int .i64 0)).setCell ⟨w.heap.size,2,none⟩ (.slice o R.fields.length cap)).setCell ⟨w.heap.size,3,none⟩ (.int .i64 R.body)).heap[w.heap.size]?=some (.cells #[.int .i64 0,.int .i64 0,.slice o R.fields.length cap,.int .i64 R.body] 33):=by
   have:=Hr.out
   simp[World.setCell,Array.getElem?_modify,this]
  have g4:w3.grownBy ((((w3.setCell ⟨w.heap.size,0,none⟩ (.int .i64 0)).setCell ⟨w.heap.size,1,none⟩ (.int .i64 0)).setCell ⟨w.heap.size,2,none⟩ (.slice o R.fields.length cap)).setCell ⟨w.heap.size,3,none⟩ (.int .i64 R.body)) (some w.heap.size):=grown_trans (grown_trans (grown_trans (grown_set _ _ _ _) (grown_set _ _ _ _)) (grown_set _ _ _ _)) (grown_set _ _ _ _)
  generalize ((((w3.setCell ⟨w.heap.size,0,none⟩ (.int .i64 0)).setCell ⟨w.heap.size,1,none⟩ (.int .i64 0)).setCell ⟨w.heap.size,2,none⟩ (.slice o R.fields.length cap)).setCell ⟨w.heap.size,3,none⟩ (.int .i64 R.body))=w4 at *
  have hlt4:w.heap.size<w4.heap.size:=by have:=g4.size;omega
  have h5:=(hb.block w.heap.size hlt4).trans h4
  clear q0 q1 q2 q3 z0 z1 z2 z3 c1 h4
  obtain⟨⟨q0,q1,q2,q3⟩,z0,z1,z2,z3⟩:=res_cells h5
  have O5:OwnF w.heap.size (.slice o R.fields.length cap) R.fields w'':=OwnF.grown (g:=w.heap.size) (OwnF.grown (OwnF.base Ho.out (Nat.le_succ _)) g4 (Nat.lt_succ_self _)) (grown_below hb) (Nat.lt_succ_self _) |>.base (Nat.le_succ _)
  have B5:Below w.heap.size w w'':=(Hb.out.trans (grown_to g4 (Nat.le_refl _) (by omega))).trans (hb.mono (by omega))
  have H5:=(show Hid (OwnF w.heap.size (.slice o R.fields.length cap) R.fields w'') from O5)
  have K5:=(show Hid _ from B5)
  clear O5 B5 hb g4 h5 Ho Hb Hr
  simp[Leaves,settle,results,Tryz.results24,go_sem,q0,q1,q2,q3]
  refine⟨_,⟨by rw[hc];rfl,by rw[ha];rfl,rfl⟩,H5.out,K5.out⟩
 ·have Hb:=(show Hid _ from hbw)
  have hy:=catchYes w.heap.size R.code R.at_ w3 hr
  refine leaves_cons (f:=50) (args:=#[.pointer (some ⟨w.heap.size,0,none⟩)]) (by simp) (by simp[go_sem]) ?_
  refine hy.mono ?_
  rintro e u' w'' ⟨rfl,rfl,h4,g4⟩
  obtain⟨⟨q0,q1,q2,q3⟩,z0,z1,z2,z3⟩:=res_cells h4
  have hbz:=(show Hid _ from Hb.out.trans (grown_to g4 (Nat.le_refl _) (by omega)))
  clear g4 h4 hy hr hbw
  simp[Leaves,settle,results,Tryz.results24,go_sem,q0,q1,q2,q3]
  exact⟨_,⟨rfl,by rw[hbd];rfl⟩,by rw[hf];exact OwnF.nil _ _,hbz.out⟩
def namedB (n m:ByteArray):Bool:=lower n.data.toList==lower m.data.toList
set_option maxRecDepth 10000 in
theorem implNamed (n v m:ByteArray)(w:World)(hn:n.size≤100000)(hm:m.size≤100000) :
  Calls Tryz.prog 27 #[.agg #[.string n,.string v],.string m] w fun e w'=>e=.returned (.bool (namedB n m))∧Below w.heap.size w w':=by
 have hA:=fun w=>implLowered n w hn
 have hB:=fun w=>implLowered m w hm
 obtain⟨W,hW⟩:∃W,W=w.alloc (.cells #[.string n,.string v] 56):=⟨_,rfl⟩
 have hbW:Below w.heap.size w W:=by rw[hW];exact(Below.refl _ _).alloc (Nat.le_refl _) _
 have q0:W.cell? ⟨w.heap.size,0,none⟩=some (.string n):=by rw[hW];simp
 have k0:=cell_regrown q0
 have HE:Hid (namedB n m=((⟨(lower n.data.toList).toArray⟩:ByteArray).data.toList==(⟨(lower m.data.toList).toArray⟩:ByteArray).data.toList)):=rfl
 generalize (⟨(lower n.data.toList).toArray⟩:ByteArray)=ta at *
 generalize (⟨(lower m.data.toList).toArray⟩:ByteArray)=tb at *
 have HA:=(show Hid _ from hA)
 have HB:=(show Hid _ from hB)
 clear hA hB k0
 go_enter Tryz.func27,Tryz.ntmps27
 go_wp2_with fail
 rw[← hW]
 refine(HA.out _).mono ?_
 rintro e w1 ⟨rfl,hb1⟩
 go_wp2_with fail
 refine(HB.out _).mono ?_
 rintro e w2 ⟨rfl,hb2⟩
 have hbq:=hbW.trans ((hb1.trans (hb2.mono hb1.size)).mono hbW.size)
 clear hW
 go_wp2
 go_ret
 rw[HE.out,← ByteArray.toList_eq,← ByteArray.toList_eq]
 exact⟨rfl,hbq⟩
def lastTo (p:Nat→Bool):Nat→Option Nat
 | 0=>none
 | k+1=>if p k then some k else lastTo p k
def atV:Option Nat→Int
 | none=>-1
 | some k=>k
def nmAt (F:List Fd)(m:ByteArray)(i:Nat):Bool:=if h:i<F.length then namedB F[i].1 m else false
set_option maxRecDepth 10000 in
theorem implLast (o:Option Addr)(F:List Fd)(cap:Nat)(m:ByteArray)(w:World)(hF:Fld w.heap.size w o F)(hlen:F.length≤1048576)(hsz:∀f ∈ F,f.1.size≤100000)(hm:m.size≤100000) :
  Calls Tryz.prog 141 #[.slice o F.length cap,.string m] w fun e w'=>e=.returned (.int .i64 (atV (lastTo (nmAt F m) F.length)))∧Below w.heap.size w w':=by
 have HF:Hid (Fld w.heap.size w o F):=hF
 have Hsz:Hid (∀f ∈ F,f.1.size≤100000):=hsz
 clear hF hsz
 obtain⟨R,hR⟩:∃R,R=atV (lastTo (nmAt F m) F.length):=⟨_,rfl⟩
 rw[← hR]
 have HR:Hid (R=atV (lastTo (nmAt F m) F.length)):=hR
 clear hR
 go_enter Tryz.func141,Tryz.ntmps141
 go_wp2
 go_loopw [5] (fun i wr=>∃ k:Nat,k≤F.length∧i=.int .i64 ((k:Int)-1)∧Hid (R=atV (lastTo (nmAt F m) k))∧Below w.heap.size w wr) (fun i _=>(Lib.intOf i+1).toNat)
 case atStart=>exact⟨F.length,Nat.le_refl _,by go_num,HR,Below.refl _ _⟩
 case round=>
  obtain⟨k,hk,rfl,HA,hbr⟩:=hrel
  cases k with
  | zero=>
   have hv:R = -1:=HA.out
   subst hv
   go_wp2
   go_ret
   exact⟨rfl,hbr⟩
  | succ k=>
   have hkl:k<F.length:=by omega
   obtain⟨a,rfl,ha,hc0,hc1⟩:=((HF.out).below hbr) k hkl
   have hfs:=Hsz.out F[k] (List.getElem_mem hkl)
   have hN:=fun v w=>implNamed F[k].1 v m w hfs hm
   have HX:Hid (lastTo (nmAt F m) (k+1)=if namedB F[k].1 m then some k else lastTo (nmAt F m) k):=by
    show _=_
    rw[lastTo,nmAt,dif_pos hkl]
   have HN:=(show Hid _ from hN)
   clear hN
   generalize F[k].1=f at *
   have e1:((k+1:Nat):Int)-1=(k:Int):=by omega
   rw[e1]
   cases hb:namedB f m
   ·have HA2:Hid (R=atV (lastTo (nmAt F m) k)):=by
     show _=_
     rw[HA.out,HX.out,hb]
     rfl
    rw[hb] at HN
    clear HX HA hb
    go_wp2_with fail
    refine(HN.out _ _).mono ?_
    rintro e w1 ⟨rfl,hb1⟩
    have hbq:=hbr.trans (hb1.mono hbr.size)
    go_wp2
    go_roundw
    case rel=>exact⟨k,by omega,by go_num,HA2,hbq⟩
    case measure=>simp[Lib.intOf]
   ·have hv:R=(k:Int):=by
     rw[HA.out,HX.out,hb]
     rfl
    rw[hb] at HN
    clear HX HA hb HR
    subst hv
    go_wp2_with fail
    refine(HN.out _ _).mono ?_
    rintro e w1 ⟨rfl,hb1⟩
    have hbq:=hbr.trans (hb1.mono hbr.size)
    go_wp2
    go_ret
    exact⟨rfl,hbq⟩
end Go.Proofs.YtibbpmhbgbafhaaGreatDoor
namespace Go.Proofs.YtibbpmhbgbafhaaGreatDoor
theorem lastTo_congr {p q:Nat→Bool}:∀n,(∀i,i<n→p i=q i)→lastTo p n=lastTo q n
 | 0,_=>rfl
 | n+1,h=>by
  rw[lastTo,lastTo,h n (Nat.lt_succ_self n),lastTo_congr n fun i hi=>h i (Nat.lt_succ_of_lt hi)]
theorem lastTo_lt {p:Nat→Bool}:∀n k,lastTo p n=some k→k<n
 | 0,k,h=>by cases h
 | n+1,k,h=>by
  rw[lastTo] at h
  split at h
  ·cases h;exact Nat.lt_succ_self _
  ·exact Nat.lt_succ_of_lt (lastTo_lt n k h)
theorem snoc_ind {α:Type} {motive:List α→Prop} (h0:motive [])(h1:∀l a,motive l→motive (l ++ [a]))(l:List α):motive l:=by
 have:∀r:List α,motive r.reverse:=by
  intro r
  induction r with
  | nil=>exact h0
  | cons a r ih=>rw[List.reverse_cons];exact h1 _ _ ih
 have:=this l.reverse
 rwa [List.reverse_reverse] at this
def keep {α:Type} (Z:List (α × Bool)):List α:=(Z.filter fun q=>!q.2).map (·.1)
def mtAt {α:Type} (p:α→Bool)(L:List α)(i:Nat):Bool:=(L[i]?.map p).getD false
def unAt {α:Type} (p:α→Bool)(Z:List (α × Bool))(i:Nat):Bool:=(Z[i]?.map fun q=>!q.2 && p q.1).getD false
theorem keep_snoc {α:Type} (Z:List (α × Bool))(f:α)(t:Bool):keep (Z ++ [(f,t)])=if t then keep Z else keep Z ++ [f]:=by
 unfold keep
 cases t<;>simp
theorem mt_snoc {α:Type} (p:α→Bool)(L:List α)(f:α):lastTo (mtAt p (L ++ [f])) (L ++ [f]).length=if p f then some L.length else lastTo (mtAt p L) L.length:=by
 rw[List.length_append,List.length_singleton,lastTo]
 have e:mtAt p (L ++ [f]) L.length=p f:=by simp[mtAt]
 rw[e]
 congr 1
 exact lastTo_congr _ fun i hi=>by simp[mtAt,List.getElem?_append_left hi]
theorem un_snoc {α:Type} (p:α→Bool)(Z:List (α × Bool))(f:α)(t:Bool):lastTo (unAt p (Z ++ [(f,t)])) (Z ++ [(f,t)]).length=if !t && p f then some Z.length else lastTo (unAt p Z) Z.length:=by
 rw[List.length_append,List.length_singleton,lastTo]
 have e:unAt p (Z ++ [(f,t)]) Z.length=(!t && p f):=by simp[unAt]
 rw[e]
 congr 1
 exact lastTo_congr _ fun i hi=>by simp[unAt,List.getElem?_append_left hi]
theorem pick {α:Type} (p:α→Bool)(Z:List (α × Bool)) :
  (lastTo (unAt p Z) Z.length=none∧lastTo (mtAt p (keep Z)) (keep Z).length=none) ∨
  ∃ k f k',lastTo (unAt p Z) Z.length=some k∧Z[k]?=some (f,false)∧lastTo (mtAt p (keep Z)) (keep Z).length=some k'∧(keep Z)[k']?=some f∧(keep Z).eraseIdx k'=keep (Z.set k (f,true)):=by
 induction Z using snoc_ind with
 | h0=>exact .inl ⟨rfl,rfl⟩
 | h1 Z a ih=>
  obtain⟨f,t⟩:=a
  rw[un_snoc,keep_snoc]
  cases t with
  | true=>
   rw[if_pos rfl]
   simp only[Bool.not_true,Bool.false_and,Bool.false_eq_true,if_false]
   rcases ih with ih|⟨k,g,k',h1,h2,h3,h4,h5⟩
   ·exact .inl ih
   ·have hk:=lastTo_lt _ _ h1
    refine .inr ⟨k,g,k',h1,by rw[List.getElem?_append_left hk];exact h2,h3,h4,?_⟩
    rw[h5,List.set_append_left _ _ hk,keep_snoc,if_pos rfl]
  | false=>
   simp only[Bool.false_eq_true,if_false]
   rw[mt_snoc]
   cases hp:p f with
   | true=>
    refine .inr ⟨Z.length,f,(keep Z).length,by simp,by simp,by simp,by simp,?_⟩
    rw[List.set_append_right _ _ (Nat.le_refl _)]
    rw[List.eraseIdx_append_of_length_le (Nat.le_refl _)]
    simp[keep_snoc]
   | false=>
    simp only[Bool.not_false,Bool.true_and,Bool.false_eq_true,if_false]
    rcases ih with ih|⟨k,g,k',h1,h2,h3,h4,h5⟩
    ·exact .inl ih
    ·have hk:=lastTo_lt _ _ h1
     have hk':=lastTo_lt _ _ h3
     refine .inr ⟨k,g,k',h1,by rw[List.getElem?_append_left hk];exact h2,h3,by rw[List.getElem?_append_left hk'];exact h4,?_⟩
     rw[List.eraseIdx_append_of_lt_length hk',h5,List.set_append_left _ _ hk,keep_snoc,if_neg (by simp)]
end Go.Proofs.YtibbpmhbgbafhaaGreatDoor
namespace Go.Proofs.YtibbpmhbgbafhaaGreatDoor
open Go.RowKit Go.Lib
def nmF (m:ByteArray)(f:Fd):Bool:=namedB f.1 m
def tkZ (h:Int):List ByteArray→List (Fd × Bool)→List UInt8
 | [],_=>[]
 | m::ms,Z=>
  match lastTo (unAt (nmF m) Z) Z.length with
  | none=>tkZ h ms Z
  | some k=>
   match Z[k]? with
   | none=>tkZ h ms Z
   | some q=>(canonF q.1.1 q.1.2 h).data.toList++tkZ h ms (Z.set k (q.1,true))
def tkL (h:Int):List ByteArray→List Fd→List UInt8
 | [],_=>[]
 | m::ms,L=>
  match lastTo (mtAt (nmF m) L) L.length with
  | none=>tkL h ms L
  | some k=>
   match L[k]? with
   | none=>tkL h ms L
   | some f=>(canonF f.1 f.2 h).data.toList++tkL h ms (L.eraseIdx k)
theorem tkZ_none (h:Int)(m:ByteArray)(ms:List ByteArray)(Z:List (Fd × Bool))(h1:lastTo (unAt (nmF m) Z) Z.length=none):tkZ h (m::ms) Z=tkZ h ms Z:=by
 rw[tkZ,h1]
theorem tkZ_some (h:Int)(m:ByteArray)(ms:List ByteArray)(Z:List (Fd × Bool))(k:Nat)(q:Fd × Bool)(h1:lastTo (unAt (nmF m) Z) Z.length=some k)(h2:Z[k]?=some q):tkZ h (m::ms) Z=(canonF q.1.1 q.1.2 h).data.toList++tkZ h ms (Z.set k (q.1,true)):=by
 rw[tkZ,h1]
 simp only[h2]
theorem tkL_none (h:Int)(m:ByteArray)(ms:List ByteArray)(L:List Fd)(h1:lastTo (mtAt (nmF m) L) L.length=none):tkL h (m::ms) L=tkL h ms L:=by
 rw[tkL,h1]
theorem tkL_some (h:Int)(m:ByteArray)(ms:List ByteArray)(L:List Fd)(k:Nat)(f:Fd)(h1:lastTo (mtAt (nmF m) L) L.length=some k)(h2:L[k]?=some f):tkL h (m::ms) L=(canonF f.1 f.2 h).data.toList++tkL h ms (L.eraseIdx k):=by
 rw[tkL,h1]
 simp only[h2]
theorem tk_eq (h:Int):∀(ms:List ByteArray)(Z:List (Fd × Bool)),tkZ h ms Z=tkL h ms (keep Z)
 | [],Z=>rfl
 | m::ms,Z=>by
  rcases pick (nmF m) Z with ⟨h1,h2⟩|⟨k,f,k',h1,h2,h3,h4,h5⟩
  ·rw[tkZ_none h m ms Z h1,tkL_none h m ms _ h2]
   exact tk_eq h ms Z
  ·rw[tkZ_some h m ms Z k _ h1 h2,tkL_some h m ms _ k' f h3 h4,h5,← tk_eq h ms]
theorem keep_new (L:List Fd):keep (L.map fun f=>(f,false))=L:=by
 unfold keep
 induction L with
 | nil=>rfl
 | cons f r ih=>simp at ih ⊢;exact ih
def fsz (f:Fd):Nat:=f.1.size+f.2.size+3
def fsum (L:List Fd):Nat:=(L.map fsz).sum
theorem canonF_size (n v:ByteArray)(x:Int):(canonF n v x).size≤fsz (n,v):=by
 unfold canonF fsz
 have e1:(lower n.data.toList).length=n.size:=by rw[lower,List.length_map];simp
 have e2:(relaxV v).length≤v.size:=by
  refine Nat.le_trans (Pl.trimB_len _) (Nat.le_trans (Pl.runs_len _) ?_)
  refine Nat.le_trans (Pl.unf_len _ _) ?_
  simp
 split
 ·exact Nat.zero_le _
 ·split
  ·simp[ByteArray.size_append];show _+1+_+2≤_;omega
  ·split
   ·simp only[ByteArray.size_append]
    have e3:(⟨(lower n.data.toList).toArray⟩:ByteArray).size=n.size:=by show((lower n.data.toList).toArray).size=_;rw[List.size_toArray];exact e1
    have e4:(⟨(relaxV v).toArray⟩:ByteArray).size≤v.size:=by show((relaxV v).toArray).size≤_;rw[List.size_toArray];exact e2
    rw[e3]
    show _+1+_+2≤n.size+v.size+3
    omega
   ·exact Nat.zero_le _
theorem sum_erase {α:Type} (g:α→Nat):∀(L:List α)(k:Nat)(f:α),L[k]?=some f→(L.map g).sum=g f+((L.eraseIdx k).map g).sum
 | [],k,f,h=>by simp at h
 | a::r,0,f,h=>by simp at h;subst h;simp
 | a::r,k+1,f,h=>by
  have:=sum_erase g r k f (by simpa using h)
  simp[this]
  omega
theorem tkL_len (h:Int):∀(ms:List ByteArray)(L:List Fd),(tkL h ms L).length≤fsum L
 | [],L=>Nat.zero_le _
 | m::ms,L=>by
  cases h1:lastTo (mtAt (nmF m) L) L.length with
  | none=>rw[tkL_none h m ms L h1];exact tkL_len h ms L
  | some k=>
   cases h2:L[k]? with
   | none=>exact absurd (lastTo_lt _ _ h1) (by have:=List.getElem?_eq_none_iff.1 h2;omega)
   | some f=>
    rw[tkL_some h m ms L k f h1 h2,List.length_append]
    have a:=canonF_size f.1 f.2 h
    have b:=tkL_len h ms (L.eraseIdx k)
    have c:=sum_erase fsz L k f h2
    have e:(canonF f.1 f.2 h).data.toList.length=(canonF f.1 f.2 h).size:=by simp
    unfold fsum at b ⊢
    rw[e,c]
    have:fsz (f.1,f.2)=fsz f:=rfl
    omega
end Go.Proofs.YtibbpmhbgbafhaaGreatDoor
