import Derived.Test.YtacaoiedcfelcaaGreatDoorEnMem
import Derived.Test.YtacaoiedcfelcaaGreatDoorDrawOpB
import Derived.Test.YtacaoiedcfelcaaGreatDoorDrawOpA
set_option maxRecDepth 20000
set_option maxHeartbeats 8000000
namespace Go.Proofs.YtacaoiedcfelcaaGreatDoor
open Go.RowKit Go.Lib Go.Maps
theorem GoneBy.mono {W:World} {g cl cp a0 z k k':Nat} {o:Option Addr} {w:World} (h:GoneBy W g o cl cp a0 z k w)(hk:k≤k'):GoneBy W g o cl cp a0 z k' w:=by
 obtain⟨h1,a',h2,h3⟩:=h
 exact⟨h1,a',by omega,h3⟩
abbrev rgAct (L M R:List Value):Act:={ tmps:=(L++M++R).toArray,defers:=[] }
def enFact (tv:Value)(Bk g B:Nat)(j:Nat)(v:Value)(w:World):Prop:=
 match j with
 | 0=>v=.pointer (some ⟨Bk,5,none⟩)
 | 1=>v=tv
 | 2=>v=.pointer (some ⟨g,0,none⟩)
 | 3=>∃ q:Bx3,v=.agg #[.string q.n,.string q.l,.string q.d]∧q.ok
 | 4=>∃ (b:Nat) (q:Bx3),v=.slice (some ⟨b,0,none⟩) 1 1∧B≤b∧w.heap[b]?=some (.cells #[.string q.n,.string q.l,.string q.d] 151)∧q.ok
 | _=>True
def enDst (j:Nat):Nat:=
 match j with
 | 0=>33
 | 1=>34
 | 2=>35
 | 3=>36
 | 4=>37
 | _=>999
theorem enFact.gr {tv:Value} {Bk g B:Nat} (hB:g<B)(j:Nat)(v:Value)(w w':World)(h:enFact tv Bk g B j v w)(hg:w.grownBy w' (some g)):enFact tv Bk g B j v w':=by
 unfold enFact at h ⊢
 split
 case h_5=>
  obtain⟨b,t,h1,h2,h3,h4⟩:=h
  exact⟨b,t,h1,h2,by rw[hg.block b (hp_lt h3) (by intro e;have:=Option.some.inj e;omega)];exact h3,h4⟩
 all_goals first
  | exact h
  | trivial
theorem srcEntries (g:Nat)(o:Option Addr)(c:List UInt8)(cp a z:Nat)(w:World)(h:Src w g o c.length cp a z)(hc:Code g w o c)(ha:a≤700000000000)(hl:c.length≤1048576)(hz:z≤12) :
  Calls Tryz.prog 87 #[.pointer (some ⟨g,0,none⟩)] w fun e w'=>∃ (v:Value) (E:List EnE) (a':Nat),e=.returned v∧E.length≤7∧(∀e ∈ E,e.1.ok)∧Ens w.heap.size v E w'∧a'≤a+15000∧Src w' g o c.length cp a' z∧w.grownBy w' (some g):=by
 have HC:Hid (Code g w o c):=hc
 have hgl:=h.lt
 have Hs:=mkHid h
 have Hg:Hid (w.grownBy w (some g)):=gr_refl _ _
 clear h hc
 go_enter Tryz.func87,Tryz.ntmps87
 obtain⟨W1,hW1⟩:∃W,w.alloc (.cells #[] 154)=W:=⟨_,rfl⟩
 have b1:Below w.heap.size w W1:=by rw[← hW1];exact(Below.refl _ _).alloc (Nat.le_refl _) _
 have O1:Ens w.heap.size (.slice (some ⟨w.heap.size,0,none⟩) 0 0) [] W1:=by rw[← hW1];exact Ens.made _ w (Nat.le_refl _)
 have Hs0:=mkHid (Hs.out.below b1)
 have Hg0:Hid (w.grownBy W1 (some g)):=gr_below b1
 have HO1:=mkHid O1
 have HW1:=mkHid hW1
 have c2:=Hs0.out.c2
 have hq3:(z:Int) / 3=((z / 3:Nat):Int):=rfl
 have hN:=srcN g o c cp a z (4+((z / 3:Nat):Int)) W1 Hs0.out (HC.out.grown Hg0.out (Nat.le_refl _)) (by omega) hl (by omega) (by omega)
 obtain⟨z3,hz3⟩:∃q,z / 3=q:=⟨_,rfl⟩
 rw[hz3] at hN hq3
 have hz4:z3≤4:=by omega
 rw[← HW1.out] at c2
 clear O1 b1 hW1 Hs Hg hz3
 go_wp2_with fail
 rw[HW1.out]
 refine hN.mono ?_
 rintro e w1 ⟨v,rfl,hv,hs1,hg1⟩
 have Hs1:=mkHid hs1
 have Hg1:=mkHid (gr_trans Hg0.out hg1)
 have HO2:=mkHid (HO1.out.gr hg1 hgl)
 clear hN hs1 hg1 Hs0 Hg0 HO1 HW1 c2 hq3
 go_wp2
 go_loopw [3,4] (fun ov iv wr=>∃ (k a':Nat) (E:List EnE),iv=.int .i64 k∧E.length+k≤7∧a'+2000*k≤a+14001∧Hid (∀e ∈ E,e.1.ok)∧Hid (Src wr g o c.length cp a' z)∧Hid (w.grownBy wr (some g))∧Hid (Ens w.heap.size ov E wr)) (fun _ iv _=>(Lib.intOf iv).toNat)
 case atStart=>exact⟨v,a+1,[],by go_num,by simp;omega,by omega,fun t ht=>by simp at ht,Hs1,Hg1,HO2⟩
 case round=>
  clear Hs1 Hg1 HO2
  obtain⟨k,a',E,rfl,hEk,hak,HT,Hs,Hg,HO⟩:=hrel
  by_cases hk:0<k
  ·obtain⟨V0,hV0⟩:∃V,V=wr:=⟨_,rfl⟩
   subst hV0
   have hgV:g<V0.heap.size:=Hs.out.lt
   have hwV:w.heap.size≤V0.heap.size:=Hg.out.size
   have HC0:Hid (Code g V0 o c):=HC.out.grown Hg.out (Nat.le_refl _)
   have hR2:=hp_alloc V0 (.cells #[.bool false,.string ⟨#[]⟩,.string ⟨#[]⟩,.string ⟨#[]⟩,.string ⟨#[]⟩,.slice none 0 0] 154)
   go_wp2_with (refine wpL_store_row rfl 154 _ _ rfl V0.heap.size _ rfl rfl 154 _ hR2 (by kernel_rfl) rfl (by simp[Value.oneCell']) ?_;refine Hid.out ?_)
   obtain⟨V5,hV5⟩:∃V,(V0.alloc (.cells #[.bool false,.string ⟨#[]⟩,.string ⟨#[]⟩,.string ⟨#[]⟩,.string ⟨#[]⟩,.slice none 0 0] 154)).setRow V0.heap.size #[.bool false,.string ⟨#[]⟩,.string ⟨#[]⟩,.string ⟨#[]⟩,.string ⟨#[]⟩,.slice none 0 0]=V:=⟨_,rfl⟩
   have hb5:=below_row hV5
   have HB5:Hid (V5.heap[V0.heap.size]?=some (.cells #[.bool false,.string ⟨#[]⟩,.string ⟨#[]⟩,.string ⟨#[]⟩,.string ⟨#[]⟩,.slice none 0 0] 154 (0,0))):=by rw[← hV5];exact setRow_heap _ _ _ _ _ _ hR2
   rw[hV5]
   obtain⟨Bk,hBk⟩:∃Bk,Bk=V0.heap.size:=⟨_,rfl⟩
   rw[← hBk] at HB5 ⊢
   have hBV:V0.heap.size≤Bk:=by omega
   have hBk5:Bk<V5.heap.size:=hp_lt HB5.out
   have Hs5:=mkHid (Hs.out.below hb5)
   have Hg5:Hid (V0.grownBy V5 (some g)):=gr_below hb5
   clear hR2 hV5 hBk hb5 Hs
   refine mkHid ?_
   have hN207:=srcOne g o c cp a' z 4 V5 Hs5.out (HC0.out.grown Hg5.out (Nat.le_refl _)) (by omega) hl (by omega) (by omega)
   go_wp2_with fail
   refine hN207.mono ?_
   rintro e w202 ⟨b201,rfl,hs205,hg206⟩
   have Hs203:=mkHid hs205
   have Hg204:=mkHid (gr_trans Hg5.out hg206)
   have HB208:Hid (w202.heap[Bk]?=some (.cells #[.bool false,.string ⟨#[]⟩,.string ⟨#[]⟩,.string ⟨#[]⟩,.string ⟨#[]⟩,.slice none 0 0] 154 (0,0))):=(hg206.block Bk (hp_lt HB5.out) (by intro e;have:=Option.some.inj e;omega)).trans HB5.out
   clear HB5
   clear hN207 hs205 hg206 Hs5 Hg5
   cases b201 with
   | true=>
    have hc0:w202.cell? ⟨Bk,0,none⟩=some (.bool false):=by simp[World.cell?,HB208.out]
    have hf0:w202.frozen? ⟨Bk,0,none⟩=false:=by simp[World.frozen?,HB208.out]
    obtain⟨Va,hVa⟩:∃V,w202.setCell ⟨Bk,0,none⟩ (.bool true)=V:=⟨_,rfl⟩
    have HBa:Hid (Va.heap[Bk]?=some (.cells #[.bool true,.string ⟨#[]⟩,.string ⟨#[]⟩,.string ⟨#[]⟩,.string ⟨#[]⟩,.slice none 0 0] 154 (0,0))):=by show _=_;rw[← hVa];simp[World.setCell,Array.getElem?_modify,HB208.out]
    have Hsa:Hid (Src Va g o c.length cp (a'+1) z):=by rw[← hVa];exact Hs203.out.setC (by omega)
    have Hga:Hid (V0.grownBy Va (some g)):=by rw[← hVa];exact gr_setC Hg204.out hBV
    have HVa:=mkHid hVa
    clear hVa HB208 Hs203 Hg204
    have hN216:=srcWord g o c cp (a'+1) z Va Hsa.out (HC0.out.grown Hga.out (Nat.le_refl _)) (by omega) hl
    go_wp2_with fail
    rw[HVa.out]
    clear hc0 hf0 HVa
    refine hN216.mono ?_
    rintro e w211 ⟨t209,a210,rfl,hzt209,ha210,hs214,hg215⟩
    have Hs212:=mkHid hs214
    have Hg213:=mkHid (gr_trans Hga.out hg215)
    have HB217:Hid (w211.heap[Bk]?=some (.cells #[.bool true,.string ⟨#[]⟩,.string ⟨#[]⟩,.string ⟨#[]⟩,.string ⟨#[]⟩,.slice none 0 0] 154 (0,0))):=(hg215.block Bk (hp_lt HBa.out) (by intro e;have:=Option.some.inj e;omega)).trans HBa.out
    clear HBa
    clear hN216 hs214 hg215 Hsa Hga
    have hc1:w211.cell? ⟨Bk,1,none⟩=some (.string ⟨#[]⟩):=by simp[World.cell?,HB217.out]
    have hf1:w211.frozen? ⟨Bk,1,none⟩=false:=by simp[World.frozen?,HB217.out]
    obtain⟨Vb,hVb⟩:∃V,w211.setCell ⟨Bk,1,none⟩ (.string t209)=V:=⟨_,rfl⟩
    have HBb:Hid (Vb.heap[Bk]?=some (.cells #[.bool true,.string t209,.string ⟨#[]⟩,.string ⟨#[]⟩,.string ⟨#[]⟩,.slice none 0 0] 154 (0,0))):=by show _=_;rw[← hVb];simp[World.setCell,Array.getElem?_modify,HB217.out]
    have Hsb:Hid (Src Vb g o c.length cp a210 z):=by rw[← hVb];exact Hs212.out.setC (by omega)
    have Hgb:Hid (V0.grownBy Vb (some g)):=by rw[← hVb];exact gr_setC Hg213.out hBV
    have HVb:=mkHid hVb
    clear hVb HB217 Hs212 Hg213
    have hN224:=srcN g o c cp a210 z 4 Vb Hsb.out (HC0.out.grown Hgb.out (Nat.le_refl _)) (by omega) hl (by omega) (by omega)
    go_wp2_with fail
    rw[HVb.out]
    clear hc1 hf1 HVb
    refine hN224.mono ?_
    rintro e w219 ⟨v218,rfl,hv218,hs222,hg223⟩
    have Hs220:=mkHid hs222
    have Hg221:=mkHid (gr_trans Hgb.out hg223)
    have HB225:Hid (w219.heap[Bk]?=some (.cells #[.bool true,.string t209,.string ⟨#[]⟩,.string ⟨#[]⟩,.string ⟨#[]⟩,.slice none 0 0] 154 (0,0))):=(hg223.block Bk (hp_lt HBb.out) (by intro e;have:=Option.some.inj e;omega)).trans HBb.out
    clear HBb
    clear hN224 hs222 hg223 Hsb Hgb
    go_wp2
    go_loopw [6] (fun jv wr=>∃ (j a1 ct:Nat) (P:List Bx3) (ot:Option Addr),jv=.int .i64 j∧P.length+j≤3∧a1+500*j≤a'+1700∧Hid (∀t ∈ P,t.ok)∧Hid (Src wr g o c.length cp a1 z)∧Hid (V0.grownBy wr (some g))∧Hid (wr.heap[Bk]?=some (.cells #[.bool true,.string t209,.string ⟨#[]⟩,.string ⟨#[]⟩,.string ⟨#[]⟩,.slice ot P.length ct] 154 (0,0)))∧Hid (OwnB (Bk+1) (.slice ot P.length ct) P wr)) (fun jv _=>(Lib.intOf jv).toNat)
    case atStart=>exact⟨v218,(a210+1),0,[],none,by go_num,by simp;omega,by omega,fun t ht=>by simp at ht,Hs220,Hg221,HB225,OwnB.nil _ _⟩
    case round=>
     clear Hs220 Hg221 HB225
     obtain⟨j,a1,ct,P,ot,rfl,hPj,haj,HP,Hs,Hgi,HB,HX⟩:=hrel
     by_cases hj:0<j
     ·have HCW:Hid (Code g wr o c):=HC0.out.grown Hgi.out (Nat.le_refl _)
      have hgr0:g<wr.heap.size:=Hs.out.lt
      have hBw:Bk<wr.heap.size:=hp_lt HB.out
      have HB1:Hid (wr.cell? ⟨Bk,5,none⟩=some (.slice ot P.length ct)):=by show _=_;simp[World.cell?,HB.out]
      have HG:Hid (GoneBy wr g o c.length cp a1 z (70*0) wr.drew):=⟨gr_below (Below.refl _ _).drew,a1,by omega,Hs.out.below (Below.refl _ _).drew⟩
      go_wp2
      obtain⟨W0,hW0⟩:∃V,V=wr:=⟨_,rfl⟩
      subst hW0
      refine wp_region_any (by kernel_rfl) ?_
      refine wpAny_phase 5 3 #[true,true,true,true,true,false,false,false] enDst (fun x=>rgAct [_,_,_,_,_,_,_,_,_,_,_,_,_,_,_,_,_,_,_,_,_,_,_,_,_,_,_,_,_,_,_,_,_] [x 33,x 34,x 35,x 36,x 37] [_,_,_,_,_,_,_,_,_,_]) (enFact (.slice ot P.length ct) Bk g W0.heap.size) (fun k w=>GoneBy W0 g o c.length cp a1 z (70*k) w) (fun w w'=>w.grownBy w' (some g)) rfl rfl (by decide) rfl (by kernel_rfl) (by kernel_rfl) ?_ (enFact.gr hgr0) ?hend ?hstep _ _ 0 (fun j=>match j with|33=>u33|34=>u34|35=>u35|36=>u36|37=>u37|_=>undef) _ rfl rfl rfl (by intro j hj;simp[Array.getD]) ?_ HG.out ?_
      ·intro i j hi hj hne
       have e1:∀q,q<5→∀r,r<5→q≠r→enDst q≠enDst r:=by decide
       exact e1 j hj i hi hne
      case hend=>
       intro x wq hG hf
       have f1:x 34=.slice ot P.length ct:=hf 1 (by decide)
       obtain⟨b,q,e4,hb,hbk,hft⟩:=hf 4 (by decide)
       have e4':x 37=.slice (some ⟨b,0,none⟩) 1 1:=e4
       obtain⟨hgq,a2,ha2,hs2⟩:=hG
       have HXq:OwnB (Bk+1) (.slice ot P.length ct) P wq:=HX.out.same (Same.gr hgq (by omega) (Nat.le_refl _))
       have hsq:Bk+1≤wq.heap.size:=Nat.le_trans hBw hgq.size
       have hcel:∀j u,(bxCells [q])[j]?=some u→wq.cell? ((⟨b,0,none⟩:Addr).add j)=some u:=by
        intro j u hj
        rw[Addr.add_lit,Nat.zero_add]
        match j,hj with
        | 0,hj=>cases hj;simp[World.cell?,hbk]
        | 1,hj=>cases hj;simp[World.cell?,hbk]
        | 2,hj=>cases hj;simp[World.cell?,hbk]
       have HBq:wq.heap[Bk]?=some (.cells #[.bool true,.string t209,.string ⟨#[]⟩,.string ⟨#[]⟩,.string ⟨#[]⟩,.slice ot P.length ct] 154 (0,0)):=by
        rw[hgq.block Bk hBw (by intro e;have:=Option.some.inj e;omega)]
        exact HB.out
       have hblk:∀q,(Value.slice ot P.length ct).ownBlock=some q→Bk+1≤q:=fun q hq=>(World.ownsRow.lt HX.out q hq).1
       have Hgq:=mkHid (gr_trans Hgi.out hgq)
       clear hf e4 hbk
       refine wpAny_ready (rs:=[5]) (by kernel_rfl) (by simp) ?_
       refine AllReady.cons rfl (fun K hK=>?_) AllReady.nil
       rw[if_pos (by rfl)]
       refine opAppB _ _ rfl (Bk+1) (.slice ot P.length ct) P f1 HXq [q] ⟨b,0,none⟩ 1 1 e4' rfl hcel (by simp;omega) hsq ?_
       intro v' w' hO' hG'
       refine hK _ _ ?_
       clear hK K
       have hs3:Src w' g o c.length cp a2 z:=hs2.row hG' (fun q hq=>by have:=hblk q hq;omega)
       have hg3:V0.grownBy w' (some g):=gr_row Hgq.out hG' (fun q hq=>by have:=hblk q hq;omega)
       have hB3:w'.heap[Bk]?=some (.cells #[.bool true,.string t209,.string ⟨#[]⟩,.string ⟨#[]⟩,.string ⟨#[]⟩,.slice ot P.length ct] 154 (0,0)):=by
        rw[hG'.block Bk (by omega) (fun e=>by have:=hblk Bk e.symm;omega)]
        exact HBq
       obtain⟨o2,c2,rfl⟩:=hO'.shape
       have hc3:w'.cell? ⟨Bk,5,none⟩=some (.slice ot P.length ct):=by simp[World.cell?,hB3]
       have hf3:w'.frozen? ⟨Bk,5,none⟩=false:=by simp[World.frozen?,hB3]
       have HP2:Hid (∀q0 ∈ P ++ [q],q0.ok):=by
        intro q0 hq
        rcases List.mem_append.1 hq with hq|hq
        ·exact HP.out q0 hq
        ·simp only[List.mem_cons,List.not_mem_nil,or_false] at hq
         subst hq
         exact hft
       have hP2:(P ++ [q]).length≤P.length+1:=by simp
       obtain⟨P2,hPe⟩:∃P2,P ++ [q]=P2:=⟨_,rfl⟩
       rw[hPe] at HP2 hP2 hO' ⊢
       clear hPe
       have HB4:Hid ((w'.setCell ⟨Bk,5,none⟩ (.slice o2 P2.length c2)).heap[Bk]?=some (.cells #[.bool true,.string t209,.string ⟨#[]⟩,.string ⟨#[]⟩,.string ⟨#[]⟩,.slice o2 P2.length c2] 154 (0,0))):=by show _=_;simp[World.setCell,Array.getElem?_modify,hB3]
       have HX4:Hid (OwnB (Bk+1) (.slice o2 P2.length c2) P2 (w'.setCell ⟨Bk,5,none⟩ (.slice o2 P2.length c2))):=row_stay hO' (fun q hq=>by
        have:=(World.ownsRow.lt hO' q hq).1
        simp[World.setCell,Array.getElem?_modify,show Bk≠q by omega])
       have Hs4:=mkHid (hs3.setC (b:=Bk) (j:=5) (v:=.slice o2 P2.length c2) (by omega))
       have Hg4:=mkHid (gr_setC (b:=Bk) (j:=5) (v:=.slice o2 P2.length c2) hg3 (by omega))
       clear hO' hG' HXq hcel hs2 hgq hs3 hg3 hB3 HBq HX HB HB1 HP Hgq HG
       show wpAny _ _ _ _ 2 _ (rgAct [_,_,_,_,_,_,_,_,_,_,_,_,_,_,_,_,_,_,_,_,_,_,_,_,_,_,_,_,_,_,_,_,_] [x 33,x 34,x 35,x 36,x 37] (.slice o2 P2.length c2 :: [_,_,_,_,_,_,_,_,_])) _
       generalize x 33=y33
       generalize x 34=y34
       generalize x 35=y35
       generalize x 36=y36
       generalize x 37=y37
       go_simp
       refine wpAny_ready (rs:=[6]) (by kernel_rfl) (by simp) ?_
       refine AllReady.cons rfl (fun K hK=>?_) AllReady.nil
       go_simp
       refine hK _ _ ?_
       clear hK K
       go_simp
       refine wpAny_ready (rs:=[7]) (by kernel_rfl) (by simp) ?_
       refine AllReady.cons rfl (fun K hK=>?_) AllReady.nil
       go_simp
       refine hK _ _ ?_
       clear hK K
       go_simp
       refine wpAny_done (by kernel_rfl) ?_ _
       go_simp
       go_wp2
       go_roundw
       case rel=>exact⟨j-1,a2,c2,P2,o2,by go_num,by omega,by omega,HP2,Hs4,Hg4,HB4,HX4⟩
       case measure=>simp[Lib.intOf];omega
      case hstep=>
       intro k2 x L wr i hil hkl hG hi hf
       rcases (show i=0∨i=1∨i=2∨i=3∨i=4 by omega) with rfl|rfl|rfl|rfl|rfl
       ·clear hi hf
        refine wpOp_step rfl (fun K hK=>?_)
        go_simp
        exact hK _ _ ⟨.pointer (some ⟨Bk,5,none⟩),by simp[put,enDst],rfl,gr_refl _ _,(hG.still (Below.refl _ _)).mono (by omega)⟩
       ·have e0:x 33=.pointer (some ⟨Bk,5,none⟩):=hf 0 (by omega) (ready_dep hi rfl 0 (by kernel_rfl))
        clear hi hf
        have hcel:wr.cell? ⟨Bk,5,none⟩=some (.slice ot P.length ct):=gr_cell hG.1 (show Bk≠g by omega) HB1.out
        refine wpOp_step rfl (fun K hK=>?_)
        go_simp
        exact hK _ _ ⟨.slice ot P.length ct,by simp[put,enDst,e0],rfl,gr_refl _ _,(hG.still (Below.refl _ _)).mono (by omega)⟩
       ·clear hi hf
        refine wpOp_step rfl (fun K hK=>?_)
        go_simp
        exact hK _ _ ⟨.pointer (some ⟨g,0,none⟩),by simp[put,enDst],rfl,gr_refl _ _,(hG.still (Below.refl _ _)).mono (by omega)⟩
       ·have e0:x 35=.pointer (some ⟨g,0,none⟩):=hf 2 (by omega) (ready_dep hi rfl 2 (by kernel_rfl))
        clear hi hf
        obtain⟨hgr,a1,ha1,hs1⟩:=hG
        have hN:=srcBox g o c cp a1 z wr hs1 (HCW.out.grown hgr (Nat.le_refl _)) (by omega) hl
        refine wpOp_step rfl (fun K hK=>?_)
        go_simp
        refine hN.mono ?_
        rintro e w2 ⟨n,l,d,a2,rfl,hz,ha2,hs2,hg2⟩
        go_simp
        exact hK _ _ ⟨.agg #[.string n,.string l,.string d],by simp[put,enDst,e0],⟨⟨n,l,d⟩,rfl,hz⟩,hg2,gr_trans hgr hg2,a2,by omega,hs2⟩
       ·have f3:=hf 3 (by omega) (ready_dep hi rfl 3 (by kernel_rfl))
        clear hi hf
        obtain⟨q,e0,hz⟩:=f3
        have e0':x 36=.agg #[.string q.n,.string q.l,.string q.d]:=e0
        clear e0
        refine wpOp_step rfl (fun K hK=>?_)
        go_simp
        have hbb:∀cs,Below wr.heap.size wr (wr.alloc (.cells cs 151)):=fun cs=>(Below.refl _ _).alloc (Nat.le_refl _) _
        exact hK _ _ ⟨.slice (some ⟨wr.heap.size,0,none⟩) 1 1,by simp[put,enDst,e0'],⟨wr.heap.size,q,rfl,hG.1.size,hp_alloc _ _,hz⟩,gr_below (hbb _),(hG.still (hbb _)).mono (by omega)⟩
      ·intro k2 j hk2
       simp[Array.getD] at hk2
      ·intro j hj hd
       simp[Array.getD] at hd
     ·skip
      have hAl:=HO.out.gr Hgi.out hgl
      obtain⟨VA,hVA⟩:∃V,wr.alloc (.cells #[.bool true,.string t209,.string ⟨#[]⟩,.string ⟨#[]⟩,.string ⟨#[]⟩,.slice ot P.length ct] 154)=V:=⟨_,rfl⟩
      have bA:Below wr.heap.size wr VA:=by rw[← hVA];exact(Below.refl _ _).alloc (Nat.le_refl _) _
      have HAl:=mkHid (hAl.below bA)
      have hx0:OwnB (Bk+1) (.slice ot P.length ct) P VA:=OwnB.below (w:=wr) HX.out bA
      obtain⟨q9,hq9⟩:∃q:EnE,q=(⟨true,t209,⟨#[]⟩,⟨#[]⟩,⟨#[]⟩,P⟩,.slice ot P.length ct):=⟨_,rfl⟩
      have HRo:Hid (∀e ∈ [q9],OwnB w.heap.size e.2 e.1.mem VA):=by
       intro e he
       simp only[List.mem_cons,List.not_mem_nil,or_false] at he
       subst he
       rw[hq9]
       exact hx0.base (by omega)
      have n2:VA.heap[wr.heap.size]?=some (.cells #[.bool true,.string t209,.string ⟨#[]⟩,.string ⟨#[]⟩,.string ⟨#[]⟩,.slice ot P.length ct] 154 (0,0)):=by have h9:=hp_alloc wr (.cells #[.bool true,.string t209,.string ⟨#[]⟩,.string ⟨#[]⟩,.string ⟨#[]⟩,.slice ot P.length ct] 154);rw[hVA] at h9;first|exact h9|simpa using h9
      have Hcs:Hid (∀j u,(enCells [q9])[j]?=some u→VA.cell? ((⟨wr.heap.size,0,none⟩:Addr).add j)=some u):=by
       intro j u hj
       rw[Addr.add_lit,Nat.zero_add]
       rw[hq9] at hj
       match j,hj with
       | 0,hj=>cases hj;simp[World.cell?,n2]
       | 1,hj=>cases hj;simp[World.cell?,n2]
       | 2,hj=>cases hj;simp[World.cell?,n2]
       | 3,hj=>cases hj;simp[World.cell?,n2]
       | 4,hj=>cases hj;simp[World.cell?,n2]
       | 5,hj=>cases hj;simp[World.cell?,n2]
      have hsA:w.heap.size≤VA.heap.size:=Nat.le_trans hwV (Nat.le_trans Hgi.out.size bA.size)
      have HVA:=mkHid hVA
      have HgA:=mkHid (gr_trans (gr_trans Hg.out Hgi.out) (gr_below bA))
      have HsA:=mkHid (Hs.out.below bA)
      have Hok:Hid (q9.1.ok):=by
       rw[hq9]
       exact⟨by show ByteArray.size t209≤20;omega,⟨by show ByteArray.size ⟨#[]⟩≤20;decide,by show ByteArray.size ⟨#[]⟩≤20;decide,by show ByteArray.size ⟨#[]⟩≤20;decide⟩,by show P.length≤3;omega,HP.out⟩
      have HBc:=mkHid HB.out
      clear hAl bA hx0 n2 hVA hq9 HO
      go_wp2_with (first|(refine wpL_load_row rfl 154 _ rfl Bk _ 154 (0,0) _ rfl HBc.out Tryz.underlying154 rfl (by kernel_rfl) ?_)|(at_builtin;go_must (rw[HVA.out];refine wp_appEn (w:=VA) rfl _ _ rfl w.heap.size u3 E rfl HAl.out [q9] ⟨wr.heap.size,0,none⟩ 1 1 rfl rfl Hcs.out HRo.out (by simp;omega) hsA ?_;intro v' w' hA' hG';refine Hid.out ?_)))
      have hblk:∀q,u3.ownBlock=some q→w.heap.size≤q:=fun q hq=>(World.ownsRow.lt HAl.out.row q hq).1
      have Hs2:=mkHid (HsA.out.row hG' (fun q hq=>by have:=hblk q hq;omega))
      have Hg2:=mkHid (gr_row HgA.out hG' hblk)
      have HA2:=mkHid hA'
      have HT2:Hid (∀e ∈ E ++ [q9],e.1.ok):=by
       intro e he
       rcases List.mem_append.1 he with he|he
       ·exact HT.out e he
       ·simp only[List.mem_cons,List.not_mem_nil,or_false] at he
        subst he
        exact Hok.out
      have hE2:(E ++ [q9]).length≤E.length+1:=by simp
      clear hA' hG' HAl HRo Hcs HVA HgA HsA Hok HBc HT
      generalize E ++ [q9]=E2 at *
      refine mkHid ?_
      go_wp2
      refine⟨⟨k-1,a1,E2,by go_num,by omega,by omega,HT2,Hs2,Hg2,HA2⟩,by simp[Lib.intOf];omega⟩
   | false=>
    have hN214:=srcBox g o c cp (a'+1) z w202 Hs203.out (HC0.out.grown Hg204.out (Nat.le_refl _)) (by omega) hl
    go_wp2_with fail
    refine hN214.mono ?_
    rintro e w209 ⟨bn,bl,bd,a9,rfl,hz9,ha9,hs212,hg213⟩
    have Hs210:=mkHid hs212
    have Hg211:=mkHid (gr_trans Hg204.out hg213)
    have HB215:Hid (w209.heap[Bk]?=some (.cells #[.bool false,.string ⟨#[]⟩,.string ⟨#[]⟩,.string ⟨#[]⟩,.string ⟨#[]⟩,.slice none 0 0] 154 (0,0))):=(hg213.block Bk (hp_lt HB208.out) (by intro e;have:=Option.some.inj e;omega)).trans HB208.out
    clear HB208
    clear hN214 hs212 hg213 Hs203 Hg204
    have hc2:w209.cell? ⟨Bk,2,none⟩=some (.string ⟨#[]⟩):=by simp[World.cell?,HB215.out]
    have hc3:w209.cell? ⟨Bk,3,none⟩=some (.string ⟨#[]⟩):=by simp[World.cell?,HB215.out]
    have hc4:w209.cell? ⟨Bk,4,none⟩=some (.string ⟨#[]⟩):=by simp[World.cell?,HB215.out]
    have hf2:w209.frozen? ⟨Bk,2,none⟩=false:=by simp[World.frozen?,HB215.out]
    have hf3:w209.frozen? ⟨Bk,3,none⟩=false:=by simp[World.frozen?,HB215.out]
    have hf4:w209.frozen? ⟨Bk,4,none⟩=false:=by simp[World.frozen?,HB215.out]
    have hbx:∃q:Bx3,q=⟨bn,bl,bd⟩:=⟨_,rfl⟩
    have HBz:Hid ((((w209.setCell ⟨Bk,2,none⟩ (.string bn)).setCell ⟨Bk,3,none⟩ (.string bl)).setCell ⟨Bk,4,none⟩ (.string bd)).heap[Bk]?=some (.cells #[.bool false,.string ⟨#[]⟩,.string bn,.string bl,.string bd,.slice none 0 0] 154 (0,0))):=by show _=_;simp[World.setCell,Array.getElem?_modify,HB215.out]
    have Hsz:Hid (Src (((w209.setCell ⟨Bk,2,none⟩ (.string bn)).setCell ⟨Bk,3,none⟩ (.string bl)).setCell ⟨Bk,4,none⟩ (.string bd)) g o c.length cp a9 z):=((Hs210.out.setC (by omega)).setC (by omega)).setC (by omega)
    have Hgz:Hid (V0.grownBy (((w209.setCell ⟨Bk,2,none⟩ (.string bn)).setCell ⟨Bk,3,none⟩ (.string bl)).setCell ⟨Bk,4,none⟩ (.string bd)) (some g)):=gr_setC (gr_setC (gr_setC Hg211.out hBV) hBV) hBV
    clear hbx
    have hAl:=HO.out.gr Hgz.out hgl
    obtain⟨VA,hVA⟩:∃V,(((w209.setCell ⟨Bk,2,none⟩ (.string bn)).setCell ⟨Bk,3,none⟩ (.string bl)).setCell ⟨Bk,4,none⟩ (.string bd)).alloc (.cells #[.bool false,.string ⟨#[]⟩,.string bn,.string bl,.string bd,.slice none 0 0] 154)=V:=⟨_,rfl⟩
    have bA:Below (((w209.setCell ⟨Bk,2,none⟩ (.string bn)).setCell ⟨Bk,3,none⟩ (.string bl)).setCell ⟨Bk,4,none⟩ (.string bd)).heap.size (((w209.setCell ⟨Bk,2,none⟩ (.string bn)).setCell ⟨Bk,3,none⟩ (.string bl)).setCell ⟨Bk,4,none⟩ (.string bd)) VA:=by rw[← hVA];exact(Below.refl _ _).alloc (Nat.le_refl _) _
    have HAl:=mkHid (hAl.below bA)
    have hx0:OwnB (Bk+1) (.slice none 0 0) [] VA:=OwnB.below (w:=(((w209.setCell ⟨Bk,2,none⟩ (.string bn)).setCell ⟨Bk,3,none⟩ (.string bl)).setCell ⟨Bk,4,none⟩ (.string bd))) (OwnB.nil _ _) bA
    obtain⟨q9,hq9⟩:∃q:EnE,q=(⟨false,⟨#[]⟩,bn,bl,bd,[]⟩,.slice none 0 0):=⟨_,rfl⟩
    have HRo:Hid (∀e ∈ [q9],OwnB w.heap.size e.2 e.1.mem VA):=by
     intro e he
     simp only[List.mem_cons,List.not_mem_nil,or_false] at he
     subst he
     rw[hq9]
     exact hx0.base (by omega)
    have n2:VA.heap[w209.heap.size]?=some (.cells #[.bool false,.string ⟨#[]⟩,.string bn,.string bl,.string bd,.slice none 0 0] 154 (0,0)):=by have h9:=hp_alloc (((w209.setCell ⟨Bk,2,none⟩ (.string bn)).setCell ⟨Bk,3,none⟩ (.string bl)).setCell ⟨Bk,4,none⟩ (.string bd)) (.cells #[.bool false,.string ⟨#[]⟩,.string bn,.string bl,.string bd,.slice none 0 0] 154);rw[hVA] at h9;first|exact h9|simpa using h9
    have Hcs:Hid (∀j u,(enCells [q9])[j]?=some u→VA.cell? ((⟨w209.heap.size,0,none⟩:Addr).add j)=some u):=by
     intro j u hj
     rw[Addr.add_lit,Nat.zero_add]
     rw[hq9] at hj
     match j,hj with
     | 0,hj=>cases hj;simp[World.cell?,n2]
     | 1,hj=>cases hj;simp[World.cell?,n2]
     | 2,hj=>cases hj;simp[World.cell?,n2]
     | 3,hj=>cases hj;simp[World.cell?,n2]
     | 4,hj=>cases hj;simp[World.cell?,n2]
     | 5,hj=>cases hj;simp[World.cell?,n2]
    have hsA:w.heap.size≤VA.heap.size:=Nat.le_trans hwV (Nat.le_trans Hgz.out.size bA.size)
    have HVA:=mkHid hVA
    have HgA:=mkHid (gr_trans (gr_trans Hg.out Hgz.out) (gr_below bA))
    have HsA:=mkHid (Hsz.out.below bA)
    have Hok:Hid (q9.1.ok):=by
     rw[hq9]
     exact⟨by show ByteArray.size ⟨#[]⟩≤20;decide,hz9,Nat.zero_le _,fun b hb=>by cases hb⟩
    have HBc:=mkHid HBz.out
    clear hAl bA hx0 n2 hVA hq9 HO
    go_wp2_with (first|(refine wpL_load_row rfl 154 _ rfl Bk _ 154 (0,0) _ rfl HBc.out Tryz.underlying154 rfl (by kernel_rfl) ?_)|(at_builtin;go_must (rw[HVA.out];refine wp_appEn (w:=VA) rfl _ _ rfl w.heap.size u3 E rfl HAl.out [q9] ⟨w209.heap.size,0,none⟩ 1 1 rfl rfl Hcs.out HRo.out (by simp;omega) hsA ?_;intro v' w' hA' hG';refine Hid.out ?_)))
    have hblk:∀q,u3.ownBlock=some q→w.heap.size≤q:=fun q hq=>(World.ownsRow.lt HAl.out.row q hq).1
    have Hs2:=mkHid (HsA.out.row hG' (fun q hq=>by have:=hblk q hq;omega))
    have Hg2:=mkHid (gr_row HgA.out hG' hblk)
    have HA2:=mkHid hA'
    have HT2:Hid (∀e ∈ E ++ [q9],e.1.ok):=by
     intro e he
     rcases List.mem_append.1 he with he|he
     ·exact HT.out e he
     ·simp only[List.mem_cons,List.not_mem_nil,or_false] at he
      subst he
      exact Hok.out
    have hE2:(E ++ [q9]).length≤E.length+1:=by simp
    clear hA' hG' HAl HRo Hcs HVA HgA HsA Hok HBc HT
    generalize E ++ [q9]=E2 at *
    refine mkHid ?_
    go_wp2
    refine⟨⟨k-1,a9,E2,by go_num,by omega,by omega,HT2,Hs2,Hg2,HA2⟩,by simp[Lib.intOf];omega⟩
  ·go_wp2
   go_ret
   exact⟨_,E,a',rfl,by omega,HT.out,HO.out,by omega,Hs.out,Hg.out⟩
open Go.RowKit Go.Lib
theorem Own.belowG {B:Nat} {v:Value} {p:List UInt8} {w w':World} (h:Own B v p w)(hb:Below w.heap.size w w'):Own B v p w':=row_stay h fun k hk=>hb.block k (World.ownsRow.lt h k hk).2
theorem wp_appG {P:Program} {w:World} {ops:Array Oper} {rest:List Oper} {o:Oper} {a:Act} {Q:Exit→Act→World→Prop} (hgd:o.guard=none)(s x:Operand)(t:TypeId)
  (ho:o.op=.call { callee:=.builtin .append,args:=#[s,x],argTypes:=#[t,t] })
  (i:TypeInfo) (ht:P.underlying t=some (.slice 5)) (hi:P.info? 5=some i) (hz:i.zero=some (.int .u8 0)) (hsize:i.size=1) (hby:i.bytes=1)
  (B:Nat) (v:Value) (p:List UInt8) (hs:a.eval s=v) (hown:Own B v p w) (cs:Array Value) (news:List UInt8) (hcs:cs.toList=byteCells news)
  (n c:Nat) (hn:n=news.length) (hx:a.eval x=.slice (some ⟨w.heap.size,0,none⟩) n c) (hlen:p.length+news.length≤140737488355328) (hB:B≤w.heap.size)
  (h:∀v' w',Own B v' (p++news) w'→(w.alloc (.cells cs 5)).grownBy w' v.ownBlock→wpList P ops Q rest (a.put o.dst v') w'):wpList P ops Q (o::rest) a (w.alloc (.cells cs 5)):=by
 subst hn
 refine wpList_append_own _ hgd s x t ho B 5 i (.int .u8 0) 1 1 ht hi hz hsize hby rfl (by decide) v p.length (byteCells p) hs (hown.alloc _) ⟨w.heap.size,0,none⟩ news.length c (byteCells news) hx
  (by rw[byteCells_length,Nat.mul_one]) ?_ ?_ (by unfold maxLen;omega) (by omega) (by simp;omega) ?_
 ·intro j u hj
  rw[add_off]
  rw[← hcs] at hj
  simp only[World.cell?,hp_alloc]
  rw[← Array.getElem?_toList]
  exact hj
 ·intro u hu
  simp only[byteCells,List.mem_map] at hu
  obtain⟨b,_,rfl⟩:=hu
  rfl
 ·intro v' w' h1 h2 _
  refine h v' w' ?_ h2
  unfold Own
  rw[byteCells_append,List.length_append]
  exact h1
theorem wp_appsG {P:Program} {w:World} {ops:Array Oper} {rest:List Oper} {o:Oper} {a:Act} {Q:Exit→Act→World→Prop} (hgd:o.guard=none)(s x:Operand)(t u:TypeId)
  (ho:o.op=.call { callee:=.builtin .append,args:=#[s,x],argTypes:=#[t,u] })
  (i:TypeInfo) (ht:P.underlying t=some (.slice 5)) (hu:P.underlying u=some .string) (hi:P.info? 5=some i) (hz:i.zero=some (.int .u8 0)) (hsize:i.size=1) (hby:i.bytes=1)
  (B:Nat) (v:Value) (p:List UInt8) (hs:a.eval s=v) (hown:Own B v p w) (news:ByteArray)
  (hx:a.eval x=.string news) (hlen:p.length+news.size≤140737488355328) (hB:B≤w.heap.size)
  (h:∀v' w',Own B v' (p++news.data.toList) w'→w.grownBy w' v.ownBlock→wpList P ops Q rest (a.put o.dst v') w'):wpList P ops Q (o::rest) a w:=by
 refine wpList_append_own_string _ hgd s x t u ho B 5 i ht hu hi hz hsize hby v p.length (byteCells p) hs hown news hx (by unfold maxLen;omega) hlen hB ?_
 intro v' w' h1 h2 _
 refine h v' w' ?_ h2
 unfold Own
 rw[byteCells_append,List.length_append]
 exact h1
namespace Bm
def DecOutW (w:World)(e:Ending)(w':World):Prop:=∃(b:Bool)(x y:Value),e=.returned (.agg #[.bool b,x,y])∧Below w.heap.size w w'
theorem wName4 (w:World):Calls Tryz.prog 240 #[.int .i64 4] w fun e w'=>e=.returned (.string ⟨#[117,116,102,45,56]⟩)∧w=w':=by
 go_enter Tryz.func240,Tryz.ntmps240
 go_wp2
 go_ret
 exact⟨rfl,rfl⟩
theorem retP (w wr:World)(tmps:Array Value)(b:Bool)(x y:Value)(p0:Nat)(hp0:Tryz.f239.results=#[.cell p0 218])(hp:tmps.getD p0 undef=.pointer (some ⟨w.heap.size,0,none⟩)) {old:Array Value} (hres:wr.heap[w.heap.size]?=some (.cells old 218 (0,0)))(hb:Below w.heap.size w wr) :
  bodyPost Tryz.prog Tryz.f239 (DecOutW w) Exit.ret { tmps:=tmps,defers:=[] } (wr.setRow w.heap.size #[.bool b,x,y]):=by
 refine bodyPost_ret (v:=.agg #[.bool b,x,y]) (results_cell_row hp0 _ _ w.heap.size 218 _ (0,0) _ hp (setRow_heap _ _ _ _ _ _ hres) Tryz.underlying218 rfl ?_) rfl ⟨b,x,y,rfl,hb.grown (grown_setRow _ _ _) hb.size (fun j hj=>by cases hj;exact Nat.le_refl _)⟩
 kernel_rfl
theorem wDecode (s:ByteArray)(w:World)(hs:s.size≤100000) :
  Calls Tryz.prog 239 #[.int .i64 4,.string s] w (DecOutW w):=by
 have hres0:(w.alloc (.cells #[.bool false,.int .i64 0,.slice none 0 0] 218)).heap[w.heap.size]?=some (.cells #[.bool false,.int .i64 0,.slice none 0 0] 218 (0,0)):=heap_alloc_at _ _
 have hbel0:Below w.heap.size w (w.alloc (.cells #[.bool false,.int .i64 0,.slice none 0 0] 218)):=(Below.refl _ _).alloc (Nat.le_refl _) _
 have hsz0:(w.alloc (.cells #[.bool false,.int .i64 0,.slice none 0 0] 218)).heap.size=w.heap.size+1:=by simp
 go_enter Tryz.func239,Tryz.ntmps239
 go_wp2_with fail
 refine(wName4 _).mono ?_
 rintro e w2 ⟨rfl,rfl⟩
 go_wp2
 obtain⟨W,hW⟩:∃W,W=w.alloc (.cells #[.bool false,.int .i64 0,.slice none 0 0] 218):=⟨_,rfl⟩
 rw[← hW] at hres0 hbel0 hsz0 ⊢
 have hown0:=OwnN.made W.heap.size W (Nat.le_refl _)
 rw[show(⟨W.heap.size,0,none⟩:Addr)=⟨w.heap.size+1,0,none⟩ by rw[hsz0]] at hown0
 have hbW0:Below W.heap.size W (W.alloc (.cells #[] 2)):=(Below.refl _ _).alloc (Nat.le_refl _) _
 go_loopw [5,6] (fun out at' wr=>∃ (k:Nat) (P:List Int),k≤s.size∧P.length≤k∧at'=.int .i64 k∧OwnN W.heap.size out P wr∧Below W.heap.size W wr) (fun _ i _=>s.size-(Lib.intOf i).toNat)
 case atStart=>exact⟨0,[],Nat.zero_le _,Nat.le_refl _,rfl,hown0,hbW0⟩
 case round=>
  obtain⟨k,P,hk,hPk,rfl,hown,hb⟩:=hrel
  have hres:=(hb.block w.heap.size (by omega)).trans hres0
  have hbw:=hbel0.trans (hb.mono hbel0.size)
  by_cases hlt:k<s.size
  ·have cT:=mkHid (wTake s k wr hlt hs)
   go_wp2_with fail
   refine cT.out.mono ?_
   rintro e w3 ⟨p,n,rfl,hn,hb3⟩
   clear cT
   have hbW3:=hb.trans (hb3.mono hb.size)
   have hown3:=hown.below hb3
   have hres3:=(hbW3.block w.heap.size (by omega)).trans hres0
   have hbw3:=hbel0.trans (hbW3.mono hbel0.size)
   by_cases h0:n=0
   ·have e0:((n:Int)==0)=true:=by rw[h0];rfl
    clear hown hown3
    go_wp2_with (first|(refine wpL_store_row rfl 218 _ _ rfl w.heap.size #[.bool false,.int .i64 k,.slice none 0 0] rfl rfl 218 _ hres3 (by kernel_rfl) rfl (by simp[Value.oneCell']) ?_)|go_in)
    exact retP _ _ _ _ _ _ 4 Tryz.results239 rfl hres3 hbw3
   ·have e0:((n:Int)==0)=false:=beq_eq_false_iff_ne.2 (by omega)
    have hPl:P.length≤1000000:=by omega
    have hszW:W.heap.size≤w3.heap.size:=hbW3.size
    have hblk:∀q,u5.ownBlock=some q→W.heap.size≤q:=fun q hq=>(World.ownsRow.lt hown3 q hq).1
    clear hown
    go_wp2_with (at_builtin;go_must (refine wp_appN (w:=w3) rfl _ _ rfl W.heap.size u5 P rfl hown3 p 1 rfl hPl hszW ?_;intro v' w' hO' hG';refine Hid.out ?_))
    have hB:=mkHid ((hbW3.alloc hszW (.cells #[.int .i64 p] 2)).grown hG' (by simp;omega) hblk)
    have HO:=mkHid hO'
    have hP2:(P ++ [p]).length≤k+n:=by simp;omega
    clear hO' hG' hown3 hb hb3 hbW3 hres hres3 hbw hbw3
    generalize P ++ [p]=P2 at *
    refine mkHid ?_
    go_wp2
    go_roundw
    case rel=>exact⟨k+n,P2,by omega,hP2,by go_num,HO.out,hB.out⟩
    case measure=>simp[Lib.intOf];omega
  ·obtain⟨o,c,rfl⟩:=hown.shape
   clear hown
   go_wp2_with (first|(refine wpL_store_row rfl 218 _ _ rfl w.heap.size #[.bool true,.int .i64 0,.slice o P.length c] rfl rfl 218 _ hres (by kernel_rfl) rfl (by simp[Value.oneCell']) ?_)|go_in)
   exact retP _ _ _ _ _ _ 4 Tryz.results239 rfl hres hbw
theorem fieldP (b:Bool)(x y:Value)(w:World):Sem.run Tryz.prog (Instr.field 218 (.agg #[.bool b,x,y]) 0) w=.ok (.bool b) w:=by kernel_rfl
theorem wGood (s:ByteArray)(w:World):Calls Tryz.prog 211 #[.string s] w (BoolOut w):=by
 by_cases h1:s.size≤1000
 ·have cD:=wDecode s w (by omega)
  have h2:(s.size:Int)≤1000:=by omega
  go_enter Tryz.func211,Tryz.ntmps211
  go_wp2_with fail
  refine cD.mono ?_
  rintro e w2 ⟨b,x,y,rfl,hb⟩
  go_wp2_with fail
  rw[fieldP]
  go_wp2
  go_ret
  exact⟨_,rfl,hb⟩
 ·have h2:¬(s.size:Int)≤1000:=by omega
  go_enter Tryz.func211,Tryz.ntmps211
  go_wp2
  go_ret
  exact⟨_,rfl,Below.refl _ _⟩
theorem wp_appo {P:Program} {W w:World} {ops:Array Oper} {rest:List Oper} {o:Oper} {a:Act} {Q:Exit→Act→World→Prop} (hgd:o.guard=none)(s x:Operand)(t:TypeId)
  (ho:o.op=.call { callee:=.builtin .append,args:=#[s,x],argTypes:=#[t,t] })
  (i:TypeInfo) (ht:P.underlying t=some (.slice 5)) (hi:P.info? 5=some i) (hz:i.zero=some (.int .u8 0)) (hsize:i.size=1) (hby:i.bytes=1)
  (B:Nat) (v:Value) (p:List UInt8) (hs:a.eval s=v) (hown:Own B v p w) (B2:Nat) (v2:Value) (news:List UInt8) (hx:a.eval x=v2) (hown2:Own B2 v2 news w) (hne:news ≠ [])
  (hlen:p.length+news.length≤140737488355328) (hB:B≤W.heap.size) (hb:Below B W w)
  (h:∀v' w',Own B v' (p++news) w'→Below B W w'→wpList P ops Q rest (a.put o.dst v') w'):wpList P ops Q (o::rest) a w:=by
 have hsz:=hb.size
 rcases hown2.form with ⟨-,h0⟩|⟨g,cap,rfl⟩
 ·exact absurd h0 hne
 refine wpList_append_own _ hgd s x t ho B 5 i (.int .u8 0) 1 1 ht hi hz hsize hby rfl (by decide) v p.length (byteCells p) hs hown ⟨g,0,none⟩ news.length cap (byteCells news) hx
  (by rw[byteCells_length,Nat.mul_one]) ?_ ?_ (by unfold maxLen;omega) (by omega) (by omega) ?_
 ·intro j u hj
  have hj2:j<news.length:=by
   have:=(List.getElem?_eq_some_iff.1 hj).1
   simpa [byteCells_length] using this
  rw[add_off,hown2.cell j hj2]
  simpa [byteCells,hj2] using hj
 ·intro u hu
  simp only[byteCells,List.mem_map] at hu
  obtain⟨b,-,rfl⟩:=hu
  rfl
 ·intro v' w' h1 h2 _
  refine h v' w' ?_ ?_
  ·unfold Own
   rw[byteCells_append,List.length_append]
   exact h1
  ·exact hb.grown h2 (by omega) (fun k hk=>(World.ownsRow.lt hown k hk).1)
theorem nAt {B:Nat} {o:Option Addr} {P:List Int} {cap:Nat} {w:World} (h:OwnN B (.slice o P.length cap) P w)(i:Nat)(hi:i<P.length):∃a:Addr,o=some a∧a.block<w.heap.size∧w.cell? (a.add i)=some (.int .i64 P[i]):=by
 obtain⟨a,h1,-,h2,h3⟩:=h.inL i hi
 exact⟨a,h1,h2,h3⟩
end Bm
namespace Bm
theorem fieldE (b:Bool)(x:Value)(w:World):Sem.run Tryz.prog (Instr.field 147 (.agg #[.bool b,x]) 1) w=.ok x w:=by kernel_rfl
theorem wp_appN2 {w:World} {ops:Array Oper} {rest:List Oper} {o:Oper} {a:Act} {Q:Exit→Act→World→Prop} (hgd:o.guard=none)(s x:Operand)
  (ho:o.op=.call { callee:=.builtin .append,args:=#[s,x],argTypes:=#[115,115] })
  (B:Nat) (v:Value) (C:List Int) (hs:a.eval s=v) (hown:OwnN B v C w) (u t:Int)
  (c:Nat) (hx:a.eval x=.slice (some ⟨w.heap.size,0,none⟩) 2 c) (hlen:C.length≤1000000) (hB:B≤w.heap.size)
  (h:∀v' w',OwnN B v' (C ++ [u,t]) w'→(w.alloc (.cells #[.int .i64 u,.int .i64 t] 2)).grownBy w' v.ownBlock→wpList Tryz.prog ops Q rest (a.put o.dst v') w'):wpList Tryz.prog ops Q (o::rest) a (w.alloc (.cells #[.int .i64 u,.int .i64 t] 2)):=by
 obtain⟨i0,hi0,hz0,hz1,hz2⟩:=info_parts Tryz.info2
 unfold OwnN at hown
 refine wpList_append_own _ hgd s x 115 ho B 2 i0 (.int .i64 0) 1 8 Tryz.underlying115 hi0 hz0 hz1 hz2 rfl (by decide) v C.length (numCells C) hs (World.ownsRow.alloc hown _) ⟨w.heap.size,0,none⟩ 2 c [.int .i64 u,.int .i64 t] hx
  rfl ?_ ?_ (by unfold maxLen;omega) (by omega) (by simp;omega) ?_
 ·intro j y hj
  rw[add_off]
  match j,hj with
  | 0,hj=>simp at hj;subst hj;simp
  | 1,hj=>simp at hj;subst hj;simp
 ·intro y hy
  simp at hy
  rcases hy with rfl|rfl<;>rfl
 ·intro v' w' h1 h2 _
  refine h v' w' ?_ h2
  unfold OwnN numCells
  rw[List.map_append,List.length_append]
  exact h1
end Bm
namespace Bm
def EncOutB (n:Nat)(w:World)(e:Ending)(w':World):Prop:=∃(b:Bool)(t:ByteArray),e=.returned (.agg #[.bool b,.string t])∧t.size≤n∧Below w.heap.size w w'
theorem retEB (n:Nat)(w wr:World)(tmps:Array Value)(b:Bool)(t:ByteArray)(ht:t.size≤n)(p0:Nat)(hp0:Tryz.f217.results=#[.cell p0 147])(hp:tmps.getD p0 undef=.pointer (some ⟨w.heap.size,0,none⟩)) {old:Array Value} (hres:wr.heap[w.heap.size]?=some (.cells old 147 (0,0)))(hb:Below w.heap.size w wr) :
  bodyPost Tryz.prog Tryz.f217 (EncOutB n w) Exit.ret { tmps:=tmps,defers:=[] } (wr.setRow w.heap.size #[.bool b,.string t]):=by
 refine bodyPost_ret (v:=.agg #[.bool b,.string t]) (results_cell_row hp0 _ _ w.heap.size 147 _ (0,0) _ hp (setRow_heap _ _ _ _ _ _ hres) Tryz.underlying147 rfl ?_) rfl ⟨b,t,rfl,ht,hb.grown (grown_setRow _ _ _) hb.size (fun j hj=>by cases hj;exact Nat.le_refl _)⟩
 kernel_rfl
theorem wEncodeB (B:Nat)(v:Value)(P:List Int)(w:World)(hP:OwnN B v P w)(hl:P.length≤200):Calls Tryz.prog 217 #[.int .i64 4,v] w (EncOutB (4*P.length) w):=by
 obtain⟨o,cap,rfl⟩:=hP.shape
 have hres0:(w.alloc (.cells #[.bool false,.string ⟨#[]⟩] 147)).heap[w.heap.size]?=some (.cells #[.bool false,.string ⟨#[]⟩] 147 (0,0)):=heap_alloc_at _ _
 have hbel0:Below w.heap.size w (w.alloc (.cells #[.bool false,.string ⟨#[]⟩] 147)):=(Below.refl _ _).alloc (Nat.le_refl _) _
 have hsz0:(w.alloc (.cells #[.bool false,.string ⟨#[]⟩] 147)).heap.size=w.heap.size+1:=by simp
 have HW:=mkHid (hP.below hbel0)
 obtain⟨i0,hi,hy0,hy1,hy2⟩:=info_parts Tryz.info5
 clear hP
 go_enter Tryz.func217,Tryz.ntmps217
 go_wp2_with fail
 refine(wName4 _).mono ?_
 rintro e w2 ⟨rfl,rfl⟩
 go_wp2
 obtain⟨W,hW⟩:∃W,W=w.alloc (.cells #[.bool false,.string ⟨#[]⟩] 147):=⟨_,rfl⟩
 rw[← hW] at hres0 hbel0 hsz0 HW ⊢
 have hown0:=Own.made W.heap.size W (Nat.le_refl _)
 rw[show(⟨W.heap.size,0,none⟩:Addr)=⟨w.heap.size+1,0,none⟩ by rw[hsz0]] at hown0
 have hbW0:Below W.heap.size W (W.alloc (.cells #[] 5)):=(Below.refl _ _).alloc (Nat.le_refl _) _
 go_loopw [5,6] (fun v i wr=>∃ (k:Nat) (p:List UInt8),k≤P.length∧i=.int .i64 k∧p.length≤4*k∧Own W.heap.size v p wr∧Below W.heap.size W wr) (fun _ i _=>P.length-(Lib.intOf i).toNat)
 case atStart=>exact⟨0,[],Nat.zero_le _,rfl,by simp,hown0,hbW0⟩
 case round=>
  obtain⟨k,p,hk,rfl,hpl,hown,hb⟩:=hrel
  have hres:=(hb.block w.heap.size (by omega)).trans hres0
  have hbw:=hbel0.trans (hb.mono hbel0.size)
  by_cases hlt:k<P.length
  ·obtain⟨a,rfl,ha,hc0⟩:=nAt (HW.out.below hb) k hlt
   generalize P[k]=pt at hc0
   have hfo:=mkHid (wForm pt wr)
   go_wp2_with fail
   refine hfo.out.mono ?_
   rintro e w3 ⟨v3,F,rfl,hF,hown3,hb3⟩
   clear hfo
   have hbW3:=hb.trans (hb3.mono hb.size)
   have hown':=hown.belowG hb3
   have hres3:=(hbW3.block w.heap.size (by omega)).trans hres0
   have hbw3:=hbel0.trans (hbW3.mono hbel0.size)
   have Hown3:=mkHid hown3
   obtain⟨o3,c3,rfl⟩:=oflat hown3
   by_cases hnil:F=[]
   ·subst hnil
    clear hown hown' hown3 Hown3
    go_wp2_with (first|(refine wpL_store_row rfl 147 _ _ rfl w.heap.size #[.bool false,.string ⟨#[]⟩] rfl rfl 147 _ hres3 (by kernel_rfl) rfl (by simp[Value.oneCell']) ?_)|go_in)
    exact retEB _ _ _ _ _ _ (Nat.zero_le _) 4 Tryz.results217 rfl hres3 hbw3
   ·have hl1:0<F.length:=List.length_pos_iff.2 hnil
    have hne:¬((F.length:Int)=0):=by omega
    clear hown3 hown
    go_wp2_with (at_builtin;go_must (refine wp_appo (W:=W) rfl _ _ 22 rfl i0 Tryz.underlying22 hi hy0 hy1 hy2 W.heap.size _ p rfl hown' wr.heap.size _ F rfl Hown3.out hnil (by omega) (Nat.le_refl _) hbW3 ?_;intro v4 w4 hown4 hb4))
    go_roundw
    case rel=>exact⟨k+1,_,by omega,by go_num,by rw[List.length_append];omega,hown4,hb4⟩
    case measure=>simp[Lib.intOf];omega
  ·have hbk:=hown.back (P:=Tryz.prog) 22 9 Tryz.underlying22 Tryz.underlying5 Tryz.underlying9
   have hpz:(⟨p.toArray⟩:ByteArray).size≤4*P.length:=by show p.toArray.size≤_;simp;omega
   go_wp2_with (first|(refine wpL_store_row rfl 147 _ _ rfl w.heap.size #[.bool true,.string ⟨p.toArray⟩] rfl rfl 147 _ hres (by kernel_rfl) rfl (by simp[Value.oneCell']) ?_)|go_in)
   exact retEB _ _ _ _ _ _ hpz 4 Tryz.results217 rfl hres hbw
set_option maxRecDepth 40000 in
theorem srcValueB (g:Nat)(o:Option Addr)(c:List UInt8)(cp a z:Nat)(w:World)(h:Src w g o c.length cp a z)(hc:Code g w o c)(ha:a≤700000000000)(hl:c.length≤1048576) :
  Calls Tryz.prog 185 #[.pointer (some ⟨g,0,none⟩)] w fun e w'=>∃ (t:ByteArray) (a':Nat),e=.returned (.string t)∧t.size≤160∧a'≤a+200∧Src w' g o c.length cp a' z∧w.grownBy w' (some g):=by
 have HC:Hid (Code g w o c):=hc
 have hgl:=h.lt
 have Hs:=mkHid h
 have Hg:Hid (w.grownBy w (some g)):=gr_refl _ _
 clear h hc
 go_enter Tryz.func185,Tryz.ntmps185
 have hN7:=srcN g o c cp a z 6 w Hs.out (HC.out.grown Hg.out (Nat.le_refl _)) (by omega) hl (by omega) (by omega)
 go_wp2_with fail
 refine hN7.mono ?_
 rintro e w2 ⟨v1,rfl,hv1,hs5,hg6⟩
 have Hs3:=mkHid hs5
 have Hg4:=mkHid (gr_trans Hg.out hg6)
 clear hN7 hs5 hg6 Hs Hg
 rcases (show v1=0∨v1=1∨v1=2∨v1=3∨4≤v1 by omega) with hv|hv|hv|hv|hv
 ·have b0:((v1:Int)==0)=true:=by rw[hv];rfl
  clear hv
  have hb14:∀cs,Below w2.heap.size w2 (w2.alloc (.cells cs 9)):=fun cs=>(Below.refl _ _).alloc (Nat.le_refl _) _
  have hN13:=fun cs=>srcN g o c cp (a+1) z 9 (w2.alloc (.cells cs 9)) (Hs3.out.below (hb14 cs)) (HC.out.grown (gr_trans Hg4.out (gr_below (hb14 cs))) (Nat.le_refl _)) (by omega) hl (by omega) (by omega)
  have hl17:g<w2.heap.size:=Hs3.out.lt
  go_wp2_with fail
  refine(hN13 _).mono ?_
  rintro e w8 ⟨v11,rfl,hv11,hs15,hg16⟩
  obtain⟨t12,hct12,hzt12⟩:=table_at (M:=20) hg16 hl17 (show v11<9 by omega) (by decide)
  have hlv11:v11<9:=by omega
  have hgg18:=gr_trans (gr_below (hb14 _)) hg16
  have Hs9:=mkHid hs15
  have Hg10:=mkHid (gr_trans Hg4.out hgg18)
  clear hN13 hs15 hg16 hb14 hl17 hgg18 Hs3 Hg4
  go_wp2
  go_ret
  exact⟨_,((a+1)+1),rfl,by omega,by omega,Hs9.out,Hg10.out⟩
 ·have b0:((v1:Int)==0)=false:=beq_eq_false_iff_ne.2 (by omega)
  have b1:((v1:Int)==1)=true:=by rw[hv];rfl
  clear hv
  have hN14:=srcN g o c cp (a+1) z 40 w2 Hs3.out (HC.out.grown Hg4.out (Nat.le_refl _)) (by omega) hl (by omega) (by omega)
  go_wp2_with fail
  refine hN14.mono ?_
  rintro e w9 ⟨v8,rfl,hv8,hs12,hg13⟩
  have Hs10:=mkHid hs12
  have Hg11:=mkHid (gr_trans Hg4.out hg13)
  clear hN14 hs12 hg13 Hs3 Hg4
  have hP:=srcPoints g o c cp ((a+1)+1) z v8 w9 Hs10.out (HC.out.grown Hg11.out (Nat.le_refl _)) (by omega) hl (by omega)
  go_wp2_with fail
  refine hP.mono ?_
  rintro e wP ⟨vP,P,aP,rfl,hPl,hPo,haP,hsP,hgP⟩
  have HsP:=mkHid hsP
  have HgP:=mkHid (gr_trans Hg11.out hgP)
  have HP:=mkHid hPo
  clear hP hsP hgP hPo Hs10 Hg11
  have hE:=wEncodeB _ _ _ _ HP.out (by omega)
  go_wp2_with fail
  refine hE.mono ?_
  rintro e wE ⟨bE,tE,rfl,hzE,hbE⟩
  have HsE:=mkHid (HsP.out.below hbE)
  have HgE:=mkHid (gr_trans HgP.out (gr_below hbE))
  clear hE hbE HsP HgP
  go_wp2_with fail
  try (rw[fieldE];go_wp2)
  go_ret
  exact⟨_,aP,rfl,by omega,by omega,HsE.out,HgE.out⟩
 ·have b0:((v1:Int)==0)=false:=beq_eq_false_iff_ne.2 (by omega)
  have b1:((v1:Int)==1)=false:=beq_eq_false_iff_ne.2 (by omega)
  have b2:((v1:Int)==2)=true:=by rw[hv];rfl
  clear hv
  have hN14:=srcN g o c cp (a+1) z 8 w2 Hs3.out (HC.out.grown Hg4.out (Nat.le_refl _)) (by omega) hl (by omega) (by omega)
  go_wp2_with fail
  refine hN14.mono ?_
  rintro e w9 ⟨v8,rfl,hv8,hs12,hg13⟩
  have Hs10:=mkHid hs12
  have Hg11:=mkHid (gr_trans Hg4.out hg13)
  clear hN14 hs12 hg13 Hs3 Hg4
  have hP:=srcPoints g o c cp ((a+1)+1) z v8 w9 Hs10.out (HC.out.grown Hg11.out (Nat.le_refl _)) (by omega) hl (by omega)
  go_wp2_with fail
  refine hP.mono ?_
  rintro e wP ⟨vP,P,aP,rfl,hPl,hPo,haP,hsP,hgP⟩
  have HsP:=mkHid hsP
  have HgP:=mkHid (gr_trans Hg11.out hgP)
  have HP:=mkHid hPo
  have hszQ:=hgP.size
  have hglQ:g<w9.heap.size:=Hs10.out.lt
  have hszw:w.heap.size≤w9.heap.size:=Hg11.out.size
  clear hP hsP hgP hPo Hs10 Hg11
  have hszP:w9.heap.size≤wP.heap.size:=hszQ
  go_wp2_with (at_builtin;go_must (refine wp_appN2 (w:=wP) rfl _ _ rfl w9.heap.size vP P rfl HP.out 233 10 2 rfl (by omega) hszP ?_;intro v' w' hO' hG';refine Hid.out ?_))
  have hblk:∀q,vP.ownBlock=some q→w9.heap.size≤q:=fun q hq=>(World.ownsRow.lt HP.out q hq).1
  have bA:Below wP.heap.size wP (wP.alloc (.cells #[.int .i64 233,.int .i64 10] 2)):=(Below.refl _ _).alloc (Nat.le_refl _) _
  have HsN:=mkHid ((HsP.out.below bA).row hG' (fun q hq=>by have:=hblk q hq;omega))
  have HgN:=mkHid (gr_row (gr_trans HgP.out (gr_below bA)) hG' (fun q hq=>by have:=hblk q hq;omega))
  have HON:=mkHid hO'
  have hPl2:(P ++ [233,10]:List Int).length≤40:=by simp;omega
  clear hO' hG' bA HP HsP HgP
  generalize P ++ [233,10]=P2 at *
  refine mkHid ?_
  have hE:=wEncodeB _ _ _ _ HON.out (by omega)
  go_wp2_with fail
  refine hE.mono ?_
  rintro e wE ⟨bE,tE,rfl,hzE,hbE⟩
  have HsE:=mkHid (HsN.out.below hbE)
  have HgE:=mkHid (gr_trans HgN.out (gr_below hbE))
  clear hE hbE HsN HgN
  go_wp2_with fail
  try (rw[fieldE];go_wp2)
  go_ret
  exact⟨_,aP,rfl,by omega,by omega,HsE.out,HgE.out⟩
 ·have b0:((v1:Int)==0)=false:=beq_eq_false_iff_ne.2 (by omega)
  have b1:((v1:Int)==1)=false:=beq_eq_false_iff_ne.2 (by omega)
  have b2:((v1:Int)==2)=false:=beq_eq_false_iff_ne.2 (by omega)
  have b3:((v1:Int)==3)=true:=by rw[hv];rfl
  clear hv
  have hN15:=srcWord g o c cp (a+1) z w2 Hs3.out (HC.out.grown Hg4.out (Nat.le_refl _)) (by omega) hl
  go_wp2_with fail
  refine hN15.mono ?_
  rintro e w10 ⟨t8,a9,rfl,hzt8,ha9,hs13,hg14⟩
  have Hs11:=mkHid hs13
  have Hg12:=mkHid (gr_trans Hg4.out hg14)
  clear hN15 hs13 hg14 Hs3 Hg4
  have n1:¬9223372036854775807<48+t8.size:=by omega
  have hN23:=srcWord g o c cp a9 z w10 Hs11.out (HC.out.grown Hg12.out (Nat.le_refl _)) (by omega) hl
  go_wp2_with fail
  refine hN23.mono ?_
  rintro e w18 ⟨t16,a17,rfl,hzt16,ha17,hs21,hg22⟩
  have Hs19:=mkHid hs21
  have Hg20:=mkHid (gr_trans Hg12.out hg22)
  clear hN23 hs21 hg22 Hs11 Hg12
  have hN31:=srcWord g o c cp a17 z w18 Hs19.out (HC.out.grown Hg20.out (Nat.le_refl _)) (by omega) hl
  go_wp2_with fail
  refine hN31.mono ?_
  rintro e w26 ⟨t24,a25,rfl,hzt24,ha25,hs29,hg30⟩
  have Hs27:=mkHid hs29
  have Hg28:=mkHid (gr_trans Hg20.out hg30)
  clear hN31 hs29 hg30 Hs19 Hg20
  have n1:¬9223372036854775807<48+t8.size:=by omega
  have n2:¬9223372036854775807<48+t8.size+t16.size:=by omega
  have n3:¬9223372036854775807<48+t8.size+t16.size+t24.size:=by omega
  have n4:¬9223372036854775807<48+t8.size+t16.size+t24.size+8:=by omega
  go_wp2
  go_ret
  exact⟨_,a25,rfl,by simp only[ByteArray.size_append];show 48+t8.size+t16.size+t24.size+8≤_;omega,by omega,Hs27.out,Hg28.out⟩
 ·have b0:((v1:Int)==0)=false:=beq_eq_false_iff_ne.2 (by omega)
  have b1:((v1:Int)==1)=false:=beq_eq_false_iff_ne.2 (by omega)
  have b2:((v1:Int)==2)=false:=beq_eq_false_iff_ne.2 (by omega)
  have b3:((v1:Int)==3)=false:=beq_eq_false_iff_ne.2 (by omega)
  clear hv
  have hN15:=srcWord g o c cp (a+1) z w2 Hs3.out (HC.out.grown Hg4.out (Nat.le_refl _)) (by omega) hl
  go_wp2_with fail
  refine hN15.mono ?_
  rintro e w10 ⟨t8,a9,rfl,hzt8,ha9,hs13,hg14⟩
  have Hs11:=mkHid hs13
  have Hg12:=mkHid (gr_trans Hg4.out hg14)
  clear hN15 hs13 hg14 Hs3 Hg4
  go_wp2
  go_ret
  exact⟨_,a9,rfl,by omega,by omega,Hs11.out,Hg12.out⟩
end Bm
end Go.Proofs.YtacaoiedcfelcaaGreatDoor
