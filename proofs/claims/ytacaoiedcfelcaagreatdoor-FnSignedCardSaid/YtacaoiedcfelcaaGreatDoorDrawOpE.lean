import Derived.Test.YtacaoiedcfelcaaGreatDoorBmMem
import Derived.Test.YtacaoiedcfelcaaGreatDoorDatePlain
import Derived.Test.YtacaoiedcfelcaaGreatDoorDateSpecB
set_option maxRecDepth 20000
namespace Go.Proofs.YtacaoiedcfelcaaGreatDoor
open Go.RowKit Go.Lib Go.Maps
def m1Fact (u3:Value)(g B:Nat)(j:Nat)(v:Value)(w:World):Prop:=
 match j with
 | 0=>v=u3
 | 1=>tabM 8 B 4 v w
 | 2=>v=.pointer (some ⟨g,0,none⟩)
 | 3=>numM 0 4 v
 | 4=>ptrM 8 B v w
 | 5=>txtM 8 v
 | 6=>v=.pointer (some ⟨g,0,none⟩)
 | 7=>∃ E:List EnE,E.length≤7∧(∀e ∈ E,e.1.ok)∧∃B0,B≤B0∧Ens B0 v E w
 | 8=>txtM 6000 v
 | 9=>txtM 6001 v
 | 10=>∃ (n9 v9:ByteArray),v=.agg #[.string n9,.string v9]∧n9.size≤100∧v9.size≤6100
 | 11=>∃ (b:Nat) (n9 v9:ByteArray),v=.slice (some ⟨b,0,none⟩) 1 1∧B≤b∧w.heap[b]?=some (.cells #[.string n9,.string v9] 38 (0,0))∧n9.size≤100∧v9.size≤6100
 | _=>True
def m1Dst (j:Nat):Nat:=
 match j with
 | 0=>34
 | 1=>35
 | 2=>36
 | 3=>37
 | 4=>38
 | 5=>39
 | 6=>40
 | 7=>41
 | 8=>42
 | 9=>43
 | 10=>44
 | 11=>45
 | _=>999
theorem m1Fact.gr {u3:Value} {g B:Nat} (hB:g<B)(j:Nat)(v:Value)(w w':World)(h:m1Fact u3 g B j v w)(hg:w.grownBy w' (some g)):m1Fact u3 g B j v w':=by
 unfold m1Fact at h ⊢
 split
 case h_8=>
  obtain⟨E,h1,h2,B0,h3,h4⟩:=h
  exact⟨E,h1,h2,B0,h3,h4.gr hg (by omega)⟩
 case h_12=>
  obtain⟨b,n9,v9,h1,h2,h3,h4⟩:=h
  exact⟨b,n9,v9,h1,h2,by rw[hg.block b (hp_lt h3) (by intro e;have:=Option.some.inj e;omega)];exact h3,h4⟩
 all_goals first
  | exact tabM.gr h hg hB
  | exact ptrM.gr h hg hB
  | exact h
  | trivial
def m2Fact (u3:Value)(g B:Nat)(j:Nat)(v:Value)(w:World):Prop:=
 match j with
 | 0=>v=u3
 | 1=>tabM 9 B 4 v w
 | 2=>v=.pointer (some ⟨g,0,none⟩)
 | 3=>numM 0 4 v
 | 4=>ptrM 9 B v w
 | 5=>txtM 9 v
 | 6=>txtM 10 v
 | 7=>v=.pointer (some ⟨g,0,none⟩)
 | 8=>txtM 6 v
 | 9=>txtM 16 v
 | 10=>tabM 20 B 3 v w
 | 11=>v=.pointer (some ⟨g,0,none⟩)
 | 12=>numM 0 3 v
 | 13=>ptrM 20 B v w
 | 14=>txtM 20 v
 | 15=>txtM 36 v
 | 16=>∃ (n9 v9:ByteArray),v=.agg #[.string n9,.string v9]∧n9.size≤100∧v9.size≤6100
 | 17=>∃ (b:Nat) (n9 v9:ByteArray),v=.slice (some ⟨b,0,none⟩) 1 1∧B≤b∧w.heap[b]?=some (.cells #[.string n9,.string v9] 38 (0,0))∧n9.size≤100∧v9.size≤6100
 | _=>True
def m2Dst (j:Nat):Nat:=
 match j with
 | 0=>49
 | 1=>50
 | 2=>51
 | 3=>52
 | 4=>53
 | 5=>54
 | 6=>55
 | 7=>56
 | 8=>57
 | 9=>58
 | 10=>59
 | 11=>60
 | 12=>61
 | 13=>62
 | 14=>63
 | 15=>64
 | 16=>65
 | 17=>66
 | _=>999
theorem m2Fact.gr {u3:Value} {g B:Nat} (hB:g<B)(j:Nat)(v:Value)(w w':World)(h:m2Fact u3 g B j v w)(hg:w.grownBy w' (some g)):m2Fact u3 g B j v w':=by
 unfold m2Fact at h ⊢
 split
 case h_18=>
  obtain⟨b,n9,v9,h1,h2,h3,h4⟩:=h
  exact⟨b,n9,v9,h1,h2,by rw[hg.block b (hp_lt h3) (by intro e;have:=Option.some.inj e;omega)];exact h3,h4⟩
 all_goals first
  | exact tabM.gr h hg hB
  | exact ptrM.gr h hg hB
  | exact h
  | trivial
def m5Fact (u3:Value)(g B:Nat)(j:Nat)(v:Value)(w:World):Prop:=
 match j with
 | 0=>v=u3
 | 1=>tabM 11 B 2 v w
 | 2=>v=.pointer (some ⟨g,0,none⟩)
 | 3=>numM 0 2 v
 | 4=>ptrM 11 B v w
 | 5=>txtM 11 v
 | 6=>v=.pointer (some ⟨g,0,none⟩)
 | 7=>txtM 6 v
 | 8=>txtM 8 v
 | 9=>txtM 19 v
 | 10=>∃ (n9 v9:ByteArray),v=.agg #[.string n9,.string v9]∧n9.size≤100∧v9.size≤6100
 | 11=>∃ (b:Nat) (n9 v9:ByteArray),v=.slice (some ⟨b,0,none⟩) 1 1∧B≤b∧w.heap[b]?=some (.cells #[.string n9,.string v9] 38 (0,0))∧n9.size≤100∧v9.size≤6100
 | _=>True
def m5Dst (j:Nat):Nat:=
 match j with
 | 0=>91
 | 1=>92
 | 2=>93
 | 3=>94
 | 4=>95
 | 5=>96
 | 6=>97
 | 7=>98
 | 8=>99
 | 9=>100
 | 10=>101
 | 11=>102
 | _=>999
theorem m5Fact.gr {u3:Value} {g B:Nat} (hB:g<B)(j:Nat)(v:Value)(w w':World)(h:m5Fact u3 g B j v w)(hg:w.grownBy w' (some g)):m5Fact u3 g B j v w':=by
 unfold m5Fact at h ⊢
 split
 case h_12=>
  obtain⟨b,n9,v9,h1,h2,h3,h4⟩:=h
  exact⟨b,n9,v9,h1,h2,by rw[hg.block b (hp_lt h3) (by intro e;have:=Option.some.inj e;omega)];exact h3,h4⟩
 all_goals first
  | exact tabM.gr h hg hB
  | exact ptrM.gr h hg hB
  | exact h
  | trivial
theorem fullT_size (x:Int)(h0:0≤x)(h1:x≤253402300799):(fullT x 0).size≤200:=by
 unfold fullT
 split
 ·have h2:=date_size (x+60*0) 0 ⟨#[32]⟩ rfl (by omega) (by omega)
  have h3:=Pl.day_size ((3+(x+60*0) / 86400) % 7).toNat (by omega)
  have h4:(⟨#[44,32]⟩:ByteArray).size=2:=rfl
  rw[ByteArray.size_append,ByteArray.size_append,h2,h3,h4]
  omega
 ·decide
set_option maxRecDepth 40000 in
set_option maxHeartbeats 16000000 in
theorem srcMail (g:Nat)(o:Option Addr)(c:List UInt8)(cp a z:Nat)(w:World)(h:Src w g o c.length cp a z)(hc:Code g w o c)(ha:a≤500000000000)(hl:c.length≤1048576)(hz:z≤12) :
  Calls Tryz.prog 41 #[.pointer (some ⟨g,0,none⟩)] w fun e w'=>∃ (v:Value) (F:List Fd) (a':Nat),e=.returned v∧F.length≤5∧(∀f ∈ F,f.1.size≤100∧f.2.size≤6100)∧OwnFd w.heap.size v F w'∧a'≤a+1600000∧Src w' g o c.length cp a' z∧w.grownBy w' (some g):=by
 have HC:Hid (Code g w o c):=hc
 have hgl:=h.lt
 have Hs:=mkHid h
 have Hg:Hid (w.grownBy w (some g)):=gr_refl _ _
 clear h hc
 go_enter Tryz.func41,Tryz.ntmps41
 obtain⟨W1,hW1⟩:∃W,w.alloc (.cells #[] 38)=W:=⟨_,rfl⟩
 have b1:Below w.heap.size w W1:=by rw[← hW1];exact(Below.refl _ _).alloc (Nat.le_refl _) _
 have O1:OwnFd w.heap.size (.slice (some ⟨w.heap.size,0,none⟩) 0 0) [] W1:=by rw[← hW1];exact OwnFd.made _ w (Nat.le_refl _)
 have Hs0:=mkHid (Hs.out.below b1)
 have Hg0:Hid (w.grownBy W1 (some g)):=gr_below b1
 have HO1:=mkHid O1
 have HW1:=mkHid hW1
 have hN:=srcN g o c cp a z 6 W1 Hs0.out (HC.out.grown Hg0.out (Nat.le_refl _)) (by omega) hl (by omega) (by omega)
 clear O1 b1 hW1 Hs Hg
 go_wp2_with fail
 rw[HW1.out]
 refine hN.mono ?_
 rintro e w1 ⟨v,rfl,hv,hs1,hg1⟩
 have Hs1:=mkHid hs1
 have Hg1:=mkHid (gr_trans Hg0.out hg1)
 have HO2:=mkHid (HO1.out.gr hg1 hgl)
 clear hN hs1 hg1 Hs0 Hg0 HO1 HW1
 go_wp2
 go_loopw [3,4] (fun ov iv wr=>∃ (k a':Nat) (F:List Fd),iv=.int .i64 k∧F.length+k≤5∧a'+300000*k≤a+1500001∧Hid (∀f ∈ F,f.1.size≤100∧f.2.size≤6100)∧Hid (Src wr g o c.length cp a' z)∧Hid (w.grownBy wr (some g))∧Hid (OwnFd w.heap.size ov F wr)) (fun _ iv _=>(Lib.intOf iv).toNat)
 case atStart=>exact⟨v,a+1,[],by go_num,by simp;omega,by omega,fun t ht=>by simp at ht,Hs1,Hg1,HO2⟩
 case round=>
  clear Hs1 Hg1 HO2
  obtain⟨k,a',F,rfl,hFk,hak,HT,Hs0,Hg0,HO0⟩:=hrel
  by_cases hk:0<k
  ·have hN:=srcN g o c cp a' z 7 wr Hs0.out (HC.out.grown Hg0.out (Nat.le_refl _)) (by omega) hl (by omega) (by omega)
   go_wp2_with fail
   refine hN.mono ?_
   rintro e wN ⟨kd,rfl,hkd,hs2,hg2⟩
   have Hs:=mkHid hs2
   have Hg:=mkHid (gr_trans Hg0.out hg2)
   have HO:=mkHid (HO0.out.gr hg2 hgl)
   clear hN hs2 hg2 Hs0 Hg0 HO0
   obtain⟨wr,hwr⟩:∃V,V=wN:=⟨_,rfl⟩
   subst hwr
   obtain⟨a2,ha2⟩:∃q,q=a'+1:=⟨_,rfl⟩
   rw[← ha2] at Hs
   replace ha2:a2≤a'+1:=by omega
   by_cases hkj:kd=0
   ·have e0:((kd:Int)==0)=true:=by rw[hkj];rfl
    clear hkj
    have hN306:=srcEntries g o c cp a2 z wr Hs.out (HC.out.grown Hg.out (Nat.le_refl _)) (by omega) hl hz
    go_wp2_with fail
    refine hN306.mono ?_
    rintro e w301 ⟨vE,E,aE,rfl,hE7,hok,hEn,haE,hs304,hg305⟩
    have Hs302:=mkHid hs304
    have Hg303:=mkHid (gr_trans Hg.out hg305)
    have HR307:=mkHid (HO.out.gr hg305 hgl)
    clear HO
    clear hN306 hs304 hg305 Hs Hg
    obtain⟨oE,cE,rfl⟩:=hEn.shape
    have hN312:=specAddrs oE E cE _ w301 hEn hE7 hok
    go_wp2_with fail
    refine hN312.mono ?_
    rintro e w308 ⟨tA,rfl,hzA,hb311⟩
    have Hs309:=mkHid (Hs302.out.below hb311)
    have Hg310:=mkHid (gr_trans Hg303.out (gr_below hb311))
    have HR313:=mkHid (HR307.out.below hb311)
    clear hN312 hb311 Hs302 Hg303 HR307
    have n0:¬9223372036854775807<1+tA.size:=by omega
    clear hEn hok
    have hsq:w.heap.size≤w308.heap.size:=Hg310.out.size
    have HFit:Hid (((⟨#[70,114,111,109]⟩:ByteArray):ByteArray).size≤100∧(((⟨#[32]⟩:ByteArray)++tA):ByteArray).size≤6100):=⟨by decide,by rw[ByteArray.size_append];show 1+tA.size≤6100;omega⟩
    go_wp2_with (at_builtin;go_must (refine wp_appFd (w:=w308) rfl _ _ rfl w.heap.size u3 F rfl HR313.out (⟨#[70,114,111,109]⟩:ByteArray) ((⟨#[32]⟩:ByteArray)++tA) 1 rfl (by omega) hsq ?_;intro v' w' hO' hG';refine Hid.out ?_))
    have bA:Below w308.heap.size w308 (w308.alloc (.cells #[.string (⟨#[70,114,111,109]⟩:ByteArray),.string ((⟨#[32]⟩:ByteArray)++tA)] 38)):=(Below.refl _ _).alloc (Nat.le_refl _) _
    have HOA:=mkHid (HR313.out.below bA)
    have HsA:=mkHid (Hs309.out.below bA)
    have HgA:=mkHid (gr_trans Hg310.out (gr_below bA))
    clear bA Hs309 Hg310 HR313
    have hblk:∀q,u3.ownBlock=some q→w.heap.size≤q:=fun q hq=>(World.ownsRow.lt HOA.out q hq).1
    have Hs9:=mkHid (HsA.out.row hG' (fun q hq=>by have:=hblk q hq;omega))
    have Hg9:=mkHid (gr_row HgA.out hG' hblk)
    have HO9:=mkHid hO'
    have HT9:Hid (∀f ∈ F ++ [((⟨#[70,114,111,109]⟩:ByteArray),((⟨#[32]⟩:ByteArray)++tA))],f.1.size≤100∧f.2.size≤6100):=by
     intro f hf
     rcases List.mem_append.1 hf with hf|hf
     ·exact HT.out f hf
     ·simp only[List.mem_cons,List.not_mem_nil,or_false] at hf
      subst hf
      exact HFit.out
    have hF9:(F ++ [(((⟨#[70,114,111,109]⟩:ByteArray):ByteArray),(((⟨#[32]⟩:ByteArray)++tA):ByteArray))]).length≤F.length+1:=by simp
    clear hO' hG' HOA HsA HgA HFit HT
    generalize F ++ [(((⟨#[70,114,111,109]⟩:ByteArray):ByteArray),(((⟨#[32]⟩:ByteArray)++tA):ByteArray))]=F2 at *
    refine mkHid ?_
    go_wp2
    refine⟨⟨k-1,aE,F2,by go_num,by omega,by omega,HT9,Hs9,Hg9,HO9⟩,by simp[Lib.intOf];omega⟩
   by_cases hkj:kd=1
   ·have e0:((kd:Int)==0)=false:=beq_eq_false_iff_ne.2 (by omega)
    have e1:((kd:Int)==1)=true:=by rw[hkj];rfl
    clear hkj
    have HCW:Hid (Code g wr o c):=HC.out.grown Hg.out (Nat.le_refl _)
    have hgr0:g<wr.heap.size:=Hs.out.lt
    have hwr0:w.heap.size≤wr.heap.size:=Hg.out.size
    have HG:Hid (GoneBy wr g o c.length cp a2 z (15000*0) wr.drew):=⟨gr_below (Below.refl _ _).drew,a2,by omega,Hs.out.below (Below.refl _ _).drew⟩
    go_wp2
    obtain⟨W0,hW0⟩:∃V,V=wr:=⟨_,rfl⟩
    subst hW0
    refine wp_region_any (by kernel_rfl) ?_
    refine wpAny_phase 12 2 #[true,true,true,true,true,true,true,true,true,true,true,true,false,false] m1Dst (fun x=>rgAct [_,_,_,_,_,_,_,_,_,_,_,_,_,_,_,_,_,_,_,_,_,_,_,_,_,_,_,_,_,_,_,_,_,_] [x 34,x 35,x 36,x 37,x 38,x 39,x 40,x 41,x 42,x 43,x 44,x 45] [_,_,_,_,_,_,_,_,_,_,_,_,_,_,_,_,_,_,_,_,_,_,_,_,_,_,_,_,_,_,_,_,_,_,_,_,_,_,_,_,_,_,_,_,_,_,_,_,_,_,_,_,_,_,_,_,_,_,_]) (m1Fact u3 g W0.heap.size) (fun q w=>GoneBy W0 g o c.length cp a2 z (15000*q) w) (fun w w'=>w.grownBy w' (some g)) rfl rfl (by decide) rfl (by kernel_rfl) (by kernel_rfl) ?_ (m1Fact.gr hgr0) ?hend ?hstep _ _ 0 (fun j=>match j with|34=>u34|35=>u35|36=>u36|37=>u37|38=>u38|39=>u39|40=>u40|41=>u41|42=>u42|43=>u43|44=>u44|45=>u45|_=>undef) _ rfl rfl rfl (by intro j hj;simp[Array.getD]) ?_ HG.out ?_
    ·intro i j hi hj hne
     have e1:∀q,q<12→∀r,r<12→q≠r→m1Dst q≠m1Dst r:=by decide
     exact e1 j hj i hi hne
    case hend=>
     intro x wq hG hf
     have f0:x 34=u3:=hf 0 (by decide)
     obtain⟨b,n9,v9,e4,hb,hbk,hzn,hzv⟩:=hf 11 (by decide)
     have e4':x 45=.slice (some ⟨b,0,none⟩) 1 1:=e4
     obtain⟨hgq,a3,ha3,hs3⟩:=hG
     have HOA:=mkHid (HO.out.gr hgq hgl)
     have HsA:=mkHid hs3
     have HgA:=mkHid (gr_trans Hg.out hgq)
     have HFit:Hid (n9.size≤100∧v9.size≤6100):=⟨hzn,hzv⟩
     have hsq:w.heap.size≤wq.heap.size:=HgA.out.size
     clear hf e4 hs3 hgq hzn hzv
     refine wpAny_ready (rs:=[12]) (by kernel_rfl) (by simp) ?_
     refine AllReady.cons rfl (fun K hK=>?_) AllReady.nil
     rw[if_pos (by rfl)]
     refine opAppFd _ _ rfl w.heap.size u3 F f0 HOA.out n9 v9 b 1 e4' hbk (by omega) hsq ?_
     intro v' w' hO' hG'
     refine hK _ _ ?_
     clear hK K
     have hblk:∀q,u3.ownBlock=some q→w.heap.size≤q:=fun q hq=>(World.ownsRow.lt HOA.out q hq).1
     have Hs9:=mkHid (HsA.out.row hG' (fun q hq=>by have:=hblk q hq;omega))
     have Hg9:=mkHid (gr_row HgA.out hG' hblk)
     have HO9:=mkHid hO'
     have HT9:Hid (∀f ∈ F ++ [(n9,v9)],f.1.size≤100∧f.2.size≤6100):=by
      intro f hf
      rcases List.mem_append.1 hf with hf|hf
      ·exact HT.out f hf
      ·simp only[List.mem_cons,List.not_mem_nil,or_false] at hf
       subst hf
       exact HFit.out
     have hF9:(F ++ [((n9:ByteArray),(v9:ByteArray))]).length≤F.length+1:=by simp
     clear hO' hG' HOA HsA HgA HFit HT
     generalize F ++ [((n9:ByteArray),(v9:ByteArray))]=F2 at *
     clear HO Hs Hg HG hbk
     show wpAny _ _ _ _ 1 _ (rgAct [_,_,_,_,_,_,_,_,_,_,_,_,_,_,_,_,_,_,_,_,_,_,_,_,_,_,_,_,_,_,_,_,_,_] [x 34,x 35,x 36,x 37,x 38,x 39,x 40,x 41,x 42,x 43,x 44,x 45] (v' :: [_,_,_,_,_,_,_,_,_,_,_,_,_,_,_,_,_,_,_,_,_,_,_,_,_,_,_,_,_,_,_,_,_,_,_,_,_,_,_,_,_,_,_,_,_,_,_,_,_,_,_,_,_,_,_,_,_,_])) _
     generalize x 34=y34
     generalize x 35=y35
     generalize x 36=y36
     generalize x 37=y37
     generalize x 38=y38
     generalize x 39=y39
     generalize x 40=y40
     generalize x 41=y41
     generalize x 42=y42
     generalize x 43=y43
     generalize x 44=y44
     generalize x 45=y45
     go_simp
     refine wpAny_ready (rs:=[13]) (by kernel_rfl) (by simp) ?_
     refine AllReady.cons rfl (fun K hK=>?_) AllReady.nil
     go_simp
     refine hK _ _ ?_
     clear hK K
     go_simp
     refine wpAny_done (by kernel_rfl) ?_ _
     go_simp
     go_wp2
     refine⟨⟨k-1,a3,F2,by go_num,by omega,by omega,HT9,Hs9,Hg9,HO9⟩,by simp[Lib.intOf];omega⟩
    case hstep=>
     clear HO HT
     intro k2 x L wr i hil hkl hG hi hf
     rcases (show i=0∨i=1∨i=2∨i=3∨i=4∨i=5∨i=6∨i=7∨i=8∨i=9∨i=10∨i=11 by omega) with rfl|rfl|rfl|rfl|rfl|rfl|rfl|rfl|rfl|rfl|rfl|rfl
     ·clear hi hf
      refine wpOp_step rfl (fun K hK=>?_)
      go_simp
      exact hK _ _ ⟨u3,by simp[put,m1Dst],rfl,gr_refl _ _,(hG.still (Below.refl _ _)).mono (by omega)⟩
     ·clear hi hf
      refine wpOp_step rfl (fun K hK=>?_)
      go_simp
      have hbb:∀cs,Below wr.heap.size wr (wr.alloc (.cells cs 9)):=fun cs=>(Below.refl _ _).alloc (Nat.le_refl _) _
      refine hK _ _ ⟨.slice (some ⟨wr.heap.size,0,none⟩) 4 4,by simp[put,m1Dst],⟨_,rfl,hG.1.size,?_⟩,gr_below (hbb _),(hG.still (hbb _)).mono (by omega)⟩
      intro k hk
      exact tabM_get (by simpa using hk) (by decide)
     ·clear hi hf
      refine wpOp_step rfl (fun K hK=>?_)
      go_simp
      exact hK _ _ ⟨.pointer (some ⟨g,0,none⟩),by simp[put,m1Dst],rfl,gr_refl _ _,(hG.still (Below.refl _ _)).mono (by omega)⟩
     ·have e0:x 36=.pointer (some ⟨g,0,none⟩):=hf 2 (by omega) (ready_dep hi rfl 2 (by kernel_rfl))
      clear hi hf
      obtain⟨hgr,a1,ha1,hs1⟩:=hG
      have hN:=srcN g o c cp a1 z 4 wr hs1 (HCW.out.grown hgr (Nat.le_refl _)) (by omega) hl (by omega) (by omega)
      refine wpOp_step rfl (fun K hK=>?_)
      go_simp
      refine hN.mono ?_
      rintro e w2 ⟨v,rfl,hv,hs2,hg2⟩
      go_simp
      exact hK _ _ ⟨.int .i64 (v:Int),by simp[put,m1Dst,e0],⟨v,rfl,Nat.zero_le _,by omega⟩,hg2,gr_trans hgr hg2,a1+1,by omega,hs2⟩
     ·have f0:=hf 1 (by omega) (ready_dep hi rfl 1 (by kernel_rfl))
      have f2:=hf 3 (by omega) (ready_dep hi rfl 3 (by kernel_rfl))
      clear hi hf
      obtain⟨b,e0,hb,ht⟩:=f0
      obtain⟨k2,e1,-,hk⟩:=f2
      obtain⟨t,hc,hts⟩:=ht k2 hk
      have hk3:(k2:Int)<4:=by omega
      have e0':x 35=.slice (some ⟨b,0,none⟩) 4 4:=e0
      have e1':x 37=.int .i64 k2:=e1
      clear e0 e1 ht
      refine wpOp_step rfl (fun K hK=>?_)
      go_simp
      exact hK _ _ ⟨.pointer (some ⟨b,k2,none⟩),by simp[put,m1Dst,e0',e1'],⟨b,k2,t,rfl,hb,hc,hts⟩,gr_refl _ _,(hG.still (Below.refl _ _)).mono (by omega)⟩
     ·have f3:=hf 4 (by omega) (ready_dep hi rfl 4 (by kernel_rfl))
      clear hi hf
      obtain⟨b,k2,t,e0,hb,hc,hts⟩:=f3
      have e0':x 38=.pointer (some ⟨b,k2,none⟩):=e0
      clear e0
      refine wpOp_step rfl (fun K hK=>?_)
      go_simp
      exact hK _ _ ⟨.string t,by simp[put,m1Dst,e0'],⟨t,rfl,hts⟩,gr_refl _ _,(hG.still (Below.refl _ _)).mono (by omega)⟩
     ·clear hi hf
      refine wpOp_step rfl (fun K hK=>?_)
      go_simp
      exact hK _ _ ⟨.pointer (some ⟨g,0,none⟩),by simp[put,m1Dst],rfl,gr_refl _ _,(hG.still (Below.refl _ _)).mono (by omega)⟩
     ·have e0:x 40=.pointer (some ⟨g,0,none⟩):=hf 6 (by omega) (ready_dep hi rfl 6 (by kernel_rfl))
      clear hi hf
      obtain⟨hgr,a1,ha1,hs1⟩:=hG
      have hN:=srcEntries g o c cp a1 z wr hs1 (HCW.out.grown hgr (Nat.le_refl _)) (by omega) hl hz
      refine wpOp_step rfl (fun K hK=>?_)
      go_simp
      refine hN.mono ?_
      rintro e w2 ⟨v,E,a2,rfl,hE,hok,hEn,ha2,hs2,hg2⟩
      go_simp
      exact hK _ _ ⟨v,by simp[put,m1Dst,e0],⟨E,hE,hok,⟨wr.heap.size,hgr.size,hEn⟩⟩,hg2,gr_trans hgr hg2,a2,by omega,hs2⟩
     ·have f7:=hf 7 (by omega) (ready_dep hi rfl 7 (by kernel_rfl))
      clear hi hf
      obtain⟨E,hE,hok,B0,hB0,hEn⟩:=f7
      obtain⟨oE,cE,hsh⟩:=hEn.shape
      have e7':x 41=.slice oE E.length cE:=hsh
      have hEn2:Ens B0 (.slice oE E.length cE) E wr:=by rw[← hsh];exact hEn
      have hN:=specAddrs oE E cE B0 wr hEn2 hE hok
      clear hEn hEn2 hsh
      refine wpOp_step rfl (fun K hK=>?_)
      go_simp
      refine hN.mono ?_
      rintro e w2 ⟨t,rfl,ht,hb2⟩
      go_simp
      exact hK _ _ ⟨.string t,by simp[put,m1Dst,e7'],⟨t,rfl,ht⟩,gr_below hb2,(hG.still hb2).mono (by omega)⟩
     ·have f3:=hf 8 (by omega) (ready_dep hi rfl 8 (by kernel_rfl))
      clear hi hf
      obtain⟨t,e0,hts⟩:=f3
      have e0':x 42=.string t:=e0
      have n0:¬9223372036854775807<1+t.size:=by omega
      clear e0
      refine wpOp_step rfl (fun K hK=>?_)
      go_simp
      exact hK _ _ ⟨.string (⟨#[32]⟩++t),by simp[put,m1Dst,e0'],⟨_,rfl,by rw[ByteArray.size_append];exact Nat.le_trans (Nat.add_le_add_left hts _) (by show 1+6000≤_;omega)⟩,gr_refl _ _,(hG.still (Below.refl _ _)).mono (by omega)⟩
     ·have f1:=hf 5 (by omega) (ready_dep hi rfl 5 (by kernel_rfl))
      have f2:=hf 9 (by omega) (ready_dep hi rfl 9 (by kernel_rfl))
      clear hi hf
      obtain⟨t1,e1,hz1⟩:=f1
      have e1':x 39=.string t1:=e1
      clear e1
      obtain⟨t2,e2,hz2⟩:=f2
      have e2':x 43=.string t2:=e2
      clear e2
      refine wpOp_step rfl (fun K hK=>?_)
      go_simp
      exact hK _ _ ⟨.agg #[.string t1,.string t2],by simp[put,m1Dst,e1',e2'],⟨t1,t2,rfl,by omega,by omega⟩,gr_refl _ _,(hG.still (Below.refl _ _)).mono (by omega)⟩
     ·have f3:=hf 10 (by omega) (ready_dep hi rfl 10 (by kernel_rfl))
      clear hi hf
      obtain⟨n9,v9,e0,hzn,hzv⟩:=f3
      have e0':x 44=.agg #[.string n9,.string v9]:=e0
      clear e0
      refine wpOp_step rfl (fun K hK=>?_)
      go_simp
      have hbb:∀cs,Below wr.heap.size wr (wr.alloc (.cells cs 38)):=fun cs=>(Below.refl _ _).alloc (Nat.le_refl _) _
      exact hK _ _ ⟨.slice (some ⟨wr.heap.size,0,none⟩) 1 1,by simp[put,m1Dst,e0'],⟨wr.heap.size,n9,v9,rfl,hG.1.size,hp_alloc _ _,hzn,hzv⟩,gr_below (hbb _),(hG.still (hbb _)).mono (by omega)⟩
    ·intro k2 j hk2
     simp[Array.getD] at hk2
    ·intro j hj hd
     simp[Array.getD] at hd
   by_cases hkj:kd=2
   ·have e0:((kd:Int)==0)=false:=beq_eq_false_iff_ne.2 (by omega)
    have e1:((kd:Int)==1)=false:=beq_eq_false_iff_ne.2 (by omega)
    have e2:((kd:Int)==2)=true:=by rw[hkj];rfl
    clear hkj
    have HCW:Hid (Code g wr o c):=HC.out.grown Hg.out (Nat.le_refl _)
    have hgr0:g<wr.heap.size:=Hs.out.lt
    have hwr0:w.heap.size≤wr.heap.size:=Hg.out.size
    have HG:Hid (GoneBy wr g o c.length cp a2 z (15000*0) wr.drew):=⟨gr_below (Below.refl _ _).drew,a2,by omega,Hs.out.below (Below.refl _ _).drew⟩
    go_wp2
    obtain⟨W0,hW0⟩:∃V,V=wr:=⟨_,rfl⟩
    subst hW0
    refine wp_region_any (by kernel_rfl) ?_
    refine wpAny_phase 18 2 #[true,true,true,true,true,true,true,true,true,true,true,true,true,true,true,true,true,true,false,false] m2Dst (fun x=>rgAct [_,_,_,_,_,_,_,_,_,_,_,_,_,_,_,_,_,_,_,_,_,_,_,_,_,_,_,_,_,_,_,_,_,_,_,_,_,_,_,_,_,_,_,_,_,_,_,_,_] [x 49,x 50,x 51,x 52,x 53,x 54,x 55,x 56,x 57,x 58,x 59,x 60,x 61,x 62,x 63,x 64,x 65,x 66] [_,_,_,_,_,_,_,_,_,_,_,_,_,_,_,_,_,_,_,_,_,_,_,_,_,_,_,_,_,_,_,_,_,_,_,_,_,_]) (m2Fact u3 g W0.heap.size) (fun q w=>GoneBy W0 g o c.length cp a2 z (15000*q) w) (fun w w'=>w.grownBy w' (some g)) rfl rfl (by decide) rfl (by kernel_rfl) (by kernel_rfl) ?_ (m2Fact.gr hgr0) ?hend ?hstep _ _ 0 (fun j=>match j with|49=>u49|50=>u50|51=>u51|52=>u52|53=>u53|54=>u54|55=>u55|56=>u56|57=>u57|58=>u58|59=>u59|60=>u60|61=>u61|62=>u62|63=>u63|64=>u64|65=>u65|66=>u66|_=>undef) _ rfl rfl rfl (by intro j hj;simp[Array.getD]) ?_ HG.out ?_
    ·intro i j hi hj hne
     have e1:∀q,q<18→∀r,r<18→q≠r→m2Dst q≠m2Dst r:=by decide
     exact e1 j hj i hi hne
    case hend=>
     intro x wq hG hf
     have f0:x 49=u3:=hf 0 (by decide)
     obtain⟨b,n9,v9,e4,hb,hbk,hzn,hzv⟩:=hf 17 (by decide)
     have e4':x 66=.slice (some ⟨b,0,none⟩) 1 1:=e4
     obtain⟨hgq,a3,ha3,hs3⟩:=hG
     have HOA:=mkHid (HO.out.gr hgq hgl)
     have HsA:=mkHid hs3
     have HgA:=mkHid (gr_trans Hg.out hgq)
     have HFit:Hid (n9.size≤100∧v9.size≤6100):=⟨hzn,hzv⟩
     have hsq:w.heap.size≤wq.heap.size:=HgA.out.size
     clear hf e4 hs3 hgq hzn hzv
     refine wpAny_ready (rs:=[18]) (by kernel_rfl) (by simp) ?_
     refine AllReady.cons rfl (fun K hK=>?_) AllReady.nil
     rw[if_pos (by rfl)]
     refine opAppFd _ _ rfl w.heap.size u3 F f0 HOA.out n9 v9 b 1 e4' hbk (by omega) hsq ?_
     intro v' w' hO' hG'
     refine hK _ _ ?_
     clear hK K
     have hblk:∀q,u3.ownBlock=some q→w.heap.size≤q:=fun q hq=>(World.ownsRow.lt HOA.out q hq).1
     have Hs9:=mkHid (HsA.out.row hG' (fun q hq=>by have:=hblk q hq;omega))
     have Hg9:=mkHid (gr_row HgA.out hG' hblk)
     have HO9:=mkHid hO'
     have HT9:Hid (∀f ∈ F ++ [(n9,v9)],f.1.size≤100∧f.2.size≤6100):=by
      intro f hf
      rcases List.mem_append.1 hf with hf|hf
      ·exact HT.out f hf
      ·simp only[List.mem_cons,List.not_mem_nil,or_false] at hf
       subst hf
       exact HFit.out
     have hF9:(F ++ [((n9:ByteArray),(v9:ByteArray))]).length≤F.length+1:=by simp
     clear hO' hG' HOA HsA HgA HFit HT
     generalize F ++ [((n9:ByteArray),(v9:ByteArray))]=F2 at *
     clear HO Hs Hg HG hbk
     show wpAny _ _ _ _ 1 _ (rgAct [_,_,_,_,_,_,_,_,_,_,_,_,_,_,_,_,_,_,_,_,_,_,_,_,_,_,_,_,_,_,_,_,_,_,_,_,_,_,_,_,_,_,_,_,_,_,_,_,_] [x 49,x 50,x 51,x 52,x 53,x 54,x 55,x 56,x 57,x 58,x 59,x 60,x 61,x 62,x 63,x 64,x 65,x 66] (v' :: [_,_,_,_,_,_,_,_,_,_,_,_,_,_,_,_,_,_,_,_,_,_,_,_,_,_,_,_,_,_,_,_,_,_,_,_,_])) _
     generalize x 49=y49
     generalize x 50=y50
     generalize x 51=y51
     generalize x 52=y52
     generalize x 53=y53
     generalize x 54=y54
     generalize x 55=y55
     generalize x 56=y56
     generalize x 57=y57
     generalize x 58=y58
     generalize x 59=y59
     generalize x 60=y60
     generalize x 61=y61
     generalize x 62=y62
     generalize x 63=y63
     generalize x 64=y64
     generalize x 65=y65
     generalize x 66=y66
     go_simp
     refine wpAny_ready (rs:=[19]) (by kernel_rfl) (by simp) ?_
     refine AllReady.cons rfl (fun K hK=>?_) AllReady.nil
     go_simp
     refine hK _ _ ?_
     clear hK K
     go_simp
     refine wpAny_done (by kernel_rfl) ?_ _
     go_simp
     go_wp2
     refine⟨⟨k-1,a3,F2,by go_num,by omega,by omega,HT9,Hs9,Hg9,HO9⟩,by simp[Lib.intOf];omega⟩
    case hstep=>
     clear HO HT
     intro k2 x L wr i hil hkl hG hi hf
     rcases (show i=0∨i=1∨i=2∨i=3∨i=4∨i=5∨i=6∨i=7∨i=8∨i=9∨i=10∨i=11∨i=12∨i=13∨i=14∨i=15∨i=16∨i=17 by omega) with rfl|rfl|rfl|rfl|rfl|rfl|rfl|rfl|rfl|rfl|rfl|rfl|rfl|rfl|rfl|rfl|rfl|rfl
     ·clear hi hf
      refine wpOp_step rfl (fun K hK=>?_)
      go_simp
      exact hK _ _ ⟨u3,by simp[put,m2Dst],rfl,gr_refl _ _,(hG.still (Below.refl _ _)).mono (by omega)⟩
     ·clear hi hf
      refine wpOp_step rfl (fun K hK=>?_)
      go_simp
      have hbb:∀cs,Below wr.heap.size wr (wr.alloc (.cells cs 9)):=fun cs=>(Below.refl _ _).alloc (Nat.le_refl _) _
      refine hK _ _ ⟨.slice (some ⟨wr.heap.size,0,none⟩) 4 4,by simp[put,m2Dst],⟨_,rfl,hG.1.size,?_⟩,gr_below (hbb _),(hG.still (hbb _)).mono (by omega)⟩
      intro k hk
      exact tabM_get (by simpa using hk) (by decide)
     ·clear hi hf
      refine wpOp_step rfl (fun K hK=>?_)
      go_simp
      exact hK _ _ ⟨.pointer (some ⟨g,0,none⟩),by simp[put,m2Dst],rfl,gr_refl _ _,(hG.still (Below.refl _ _)).mono (by omega)⟩
     ·have e0:x 51=.pointer (some ⟨g,0,none⟩):=hf 2 (by omega) (ready_dep hi rfl 2 (by kernel_rfl))
      clear hi hf
      obtain⟨hgr,a1,ha1,hs1⟩:=hG
      have hN:=srcN g o c cp a1 z 4 wr hs1 (HCW.out.grown hgr (Nat.le_refl _)) (by omega) hl (by omega) (by omega)
      refine wpOp_step rfl (fun K hK=>?_)
      go_simp
      refine hN.mono ?_
      rintro e w2 ⟨v,rfl,hv,hs2,hg2⟩
      go_simp
      exact hK _ _ ⟨.int .i64 (v:Int),by simp[put,m2Dst,e0],⟨v,rfl,Nat.zero_le _,by omega⟩,hg2,gr_trans hgr hg2,a1+1,by omega,hs2⟩
     ·have f0:=hf 1 (by omega) (ready_dep hi rfl 1 (by kernel_rfl))
      have f2:=hf 3 (by omega) (ready_dep hi rfl 3 (by kernel_rfl))
      clear hi hf
      obtain⟨b,e0,hb,ht⟩:=f0
      obtain⟨k2,e1,-,hk⟩:=f2
      obtain⟨t,hc,hts⟩:=ht k2 hk
      have hk3:(k2:Int)<4:=by omega
      have e0':x 50=.slice (some ⟨b,0,none⟩) 4 4:=e0
      have e1':x 52=.int .i64 k2:=e1
      clear e0 e1 ht
      refine wpOp_step rfl (fun K hK=>?_)
      go_simp
      exact hK _ _ ⟨.pointer (some ⟨b,k2,none⟩),by simp[put,m2Dst,e0',e1'],⟨b,k2,t,rfl,hb,hc,hts⟩,gr_refl _ _,(hG.still (Below.refl _ _)).mono (by omega)⟩
     ·have f3:=hf 4 (by omega) (ready_dep hi rfl 4 (by kernel_rfl))
      clear hi hf
      obtain⟨b,k2,t,e0,hb,hc,hts⟩:=f3
      have e0':x 53=.pointer (some ⟨b,k2,none⟩):=e0
      clear e0
      refine wpOp_step rfl (fun K hK=>?_)
      go_simp
      exact hK _ _ ⟨.string t,by simp[put,m2Dst,e0'],⟨t,rfl,hts⟩,gr_refl _ _,(hG.still (Below.refl _ _)).mono (by omega)⟩
     ·have f3:=hf 5 (by omega) (ready_dep hi rfl 5 (by kernel_rfl))
      clear hi hf
      obtain⟨t,e0,hts⟩:=f3
      have e0':x 54=.string t:=e0
      have n0:¬9223372036854775807<1+t.size:=by omega
      clear e0
      refine wpOp_step rfl (fun K hK=>?_)
      go_simp
      exact hK _ _ ⟨.string (⟨#[32]⟩++t),by simp[put,m2Dst,e0'],⟨_,rfl,by rw[ByteArray.size_append];exact Nat.le_trans (Nat.add_le_add_left hts _) (by show 1+9≤_;omega)⟩,gr_refl _ _,(hG.still (Below.refl _ _)).mono (by omega)⟩
     ·clear hi hf
      refine wpOp_step rfl (fun K hK=>?_)
      go_simp
      exact hK _ _ ⟨.pointer (some ⟨g,0,none⟩),by simp[put,m2Dst],rfl,gr_refl _ _,(hG.still (Below.refl _ _)).mono (by omega)⟩
     ·have e0:x 56=.pointer (some ⟨g,0,none⟩):=hf 7 (by omega) (ready_dep hi rfl 7 (by kernel_rfl))
      clear hi hf
      obtain⟨hgr,a1,ha1,hs1⟩:=hG
      have hN:=srcWord g o c cp a1 z wr hs1 (HCW.out.grown hgr (Nat.le_refl _)) (by omega) hl
      refine wpOp_step rfl (fun K hK=>?_)
      go_simp
      refine hN.mono ?_
      rintro e w2 ⟨t,a2,rfl,ht,ha2,hs2,hg2⟩
      go_simp
      exact hK _ _ ⟨.string t,by simp[put,m2Dst,e0],⟨t,rfl,by omega⟩,hg2,gr_trans hgr hg2,a2,by omega,hs2⟩
     ·have f3:=hf 6 (by omega) (ready_dep hi rfl 6 (by kernel_rfl))
      have f4:=hf 8 (by omega) (ready_dep hi rfl 8 (by kernel_rfl))
      clear hi hf
      obtain⟨t,e0,hts⟩:=f3
      obtain⟨t2,e1,hts2⟩:=f4
      have e0':x 55=.string t:=e0
      have e1':x 57=.string t2:=e1
      have n0:¬9223372036854775807<t.size+t2.size:=by omega
      clear e0 e1
      refine wpOp_step rfl (fun K hK=>?_)
      go_simp
      exact hK _ _ ⟨.string (t++t2),by simp[put,m2Dst,e0',e1'],⟨_,rfl,by rw[ByteArray.size_append];omega⟩,gr_refl _ _,(hG.still (Below.refl _ _)).mono (by omega)⟩
     ·clear hi hf
      refine wpOp_step rfl (fun K hK=>?_)
      go_simp
      have hbb:∀cs,Below wr.heap.size wr (wr.alloc (.cells cs 9)):=fun cs=>(Below.refl _ _).alloc (Nat.le_refl _) _
      refine hK _ _ ⟨.slice (some ⟨wr.heap.size,0,none⟩) 3 3,by simp[put,m2Dst],⟨_,rfl,hG.1.size,?_⟩,gr_below (hbb _),(hG.still (hbb _)).mono (by omega)⟩
      intro k hk
      exact tabM_get (by simpa using hk) (by decide)
     ·clear hi hf
      refine wpOp_step rfl (fun K hK=>?_)
      go_simp
      exact hK _ _ ⟨.pointer (some ⟨g,0,none⟩),by simp[put,m2Dst],rfl,gr_refl _ _,(hG.still (Below.refl _ _)).mono (by omega)⟩
     ·have e0:x 60=.pointer (some ⟨g,0,none⟩):=hf 11 (by omega) (ready_dep hi rfl 11 (by kernel_rfl))
      clear hi hf
      obtain⟨hgr,a1,ha1,hs1⟩:=hG
      have hN:=srcN g o c cp a1 z 3 wr hs1 (HCW.out.grown hgr (Nat.le_refl _)) (by omega) hl (by omega) (by omega)
      refine wpOp_step rfl (fun K hK=>?_)
      go_simp
      refine hN.mono ?_
      rintro e w2 ⟨v,rfl,hv,hs2,hg2⟩
      go_simp
      exact hK _ _ ⟨.int .i64 (v:Int),by simp[put,m2Dst,e0],⟨v,rfl,Nat.zero_le _,by omega⟩,hg2,gr_trans hgr hg2,a1+1,by omega,hs2⟩
     ·have f0:=hf 10 (by omega) (ready_dep hi rfl 10 (by kernel_rfl))
      have f2:=hf 12 (by omega) (ready_dep hi rfl 12 (by kernel_rfl))
      clear hi hf
      obtain⟨b,e0,hb,ht⟩:=f0
      obtain⟨k2,e1,-,hk⟩:=f2
      obtain⟨t,hc,hts⟩:=ht k2 hk
      have hk3:(k2:Int)<3:=by omega
      have e0':x 59=.slice (some ⟨b,0,none⟩) 3 3:=e0
      have e1':x 61=.int .i64 k2:=e1
      clear e0 e1 ht
      refine wpOp_step rfl (fun K hK=>?_)
      go_simp
      exact hK _ _ ⟨.pointer (some ⟨b,k2,none⟩),by simp[put,m2Dst,e0',e1'],⟨b,k2,t,rfl,hb,hc,hts⟩,gr_refl _ _,(hG.still (Below.refl _ _)).mono (by omega)⟩
     ·have f3:=hf 13 (by omega) (ready_dep hi rfl 13 (by kernel_rfl))
      clear hi hf
      obtain⟨b,k2,t,e0,hb,hc,hts⟩:=f3
      have e0':x 62=.pointer (some ⟨b,k2,none⟩):=e0
      clear e0
      refine wpOp_step rfl (fun K hK=>?_)
      go_simp
      exact hK _ _ ⟨.string t,by simp[put,m2Dst,e0'],⟨t,rfl,hts⟩,gr_refl _ _,(hG.still (Below.refl _ _)).mono (by omega)⟩
     ·have f3:=hf 9 (by omega) (ready_dep hi rfl 9 (by kernel_rfl))
      have f4:=hf 14 (by omega) (ready_dep hi rfl 14 (by kernel_rfl))
      clear hi hf
      obtain⟨t,e0,hts⟩:=f3
      obtain⟨t2,e1,hts2⟩:=f4
      have e0':x 58=.string t:=e0
      have e1':x 63=.string t2:=e1
      have n0:¬9223372036854775807<t.size+t2.size:=by omega
      clear e0 e1
      refine wpOp_step rfl (fun K hK=>?_)
      go_simp
      exact hK _ _ ⟨.string (t++t2),by simp[put,m2Dst,e0',e1'],⟨_,rfl,by rw[ByteArray.size_append];omega⟩,gr_refl _ _,(hG.still (Below.refl _ _)).mono (by omega)⟩
     ·have f2:=hf 15 (by omega) (ready_dep hi rfl 15 (by kernel_rfl))
      clear hi hf
      obtain⟨t2,e2,hz2⟩:=f2
      have e2':x 64=.string t2:=e2
      clear e2
      refine wpOp_step rfl (fun K hK=>?_)
      go_simp
      exact hK _ _ ⟨.agg #[.string (⟨#[83,117,98,106,101,99,116]⟩:ByteArray),.string t2],by simp[put,m2Dst,e2'],⟨(⟨#[83,117,98,106,101,99,116]⟩:ByteArray),t2,rfl,by decide,by omega⟩,gr_refl _ _,(hG.still (Below.refl _ _)).mono (by omega)⟩
     ·have f3:=hf 16 (by omega) (ready_dep hi rfl 16 (by kernel_rfl))
      clear hi hf
      obtain⟨n9,v9,e0,hzn,hzv⟩:=f3
      have e0':x 65=.agg #[.string n9,.string v9]:=e0
      clear e0
      refine wpOp_step rfl (fun K hK=>?_)
      go_simp
      have hbb:∀cs,Below wr.heap.size wr (wr.alloc (.cells cs 38)):=fun cs=>(Below.refl _ _).alloc (Nat.le_refl _) _
      exact hK _ _ ⟨.slice (some ⟨wr.heap.size,0,none⟩) 1 1,by simp[put,m2Dst,e0'],⟨wr.heap.size,n9,v9,rfl,hG.1.size,hp_alloc _ _,hzn,hzv⟩,gr_below (hbb _),(hG.still (hbb _)).mono (by omega)⟩
    ·intro k2 j hk2
     simp[Array.getD] at hk2
    ·intro j hj hd
     simp[Array.getD] at hd
   by_cases hkj:kd=3
   ·have e0:((kd:Int)==0)=false:=beq_eq_false_iff_ne.2 (by omega)
    have e1:((kd:Int)==1)=false:=beq_eq_false_iff_ne.2 (by omega)
    have e2:((kd:Int)==2)=false:=beq_eq_false_iff_ne.2 (by omega)
    have e3:((kd:Int)==3)=true:=by rw[hkj];rfl
    clear hkj
    have hN307:=srcN g o c cp a2 z 900000000 wr Hs.out (HC.out.grown Hg.out (Nat.le_refl _)) (by omega) hl (by omega) (by omega)
    go_wp2_with fail
    refine hN307.mono ?_
    rintro e w302 ⟨v301,rfl,hv301,hs305,hg306⟩
    have Hs303:=mkHid hs305
    have Hg304:=mkHid (gr_trans Hg.out hg306)
    have HR308:=mkHid (HO.out.gr hg306 hgl)
    clear HO
    clear hN307 hs305 hg306 Hs Hg
    have hfz:=fullT_size (1000000000+(v301:Int)) (by omega) (by omega)
    have hN313:=specDate (1000000000+(v301:Int)) 0 w302
    go_wp2_with fail
    refine hN313.mono ?_
    rintro e w309 ⟨rfl,hb312⟩
    have Hs310:=mkHid (Hs303.out.below hb312)
    have Hg311:=mkHid (gr_trans Hg304.out (gr_below hb312))
    have HR314:=mkHid (HR308.out.below hb312)
    clear hN313 hb312 Hs303 Hg304 HR308
    generalize fullT (1000000000+(v301:Int)) 0=tD at hfz ⊢
    have n0:¬9223372036854775807<1+tD.size:=by omega
    have hsq:w.heap.size≤w309.heap.size:=Hg311.out.size
    have HFit:Hid (((⟨#[68,97,116,101]⟩:ByteArray):ByteArray).size≤100∧(((⟨#[32]⟩:ByteArray)++tD):ByteArray).size≤6100):=⟨by decide,by rw[ByteArray.size_append];show 1+tD.size≤6100;omega⟩
    go_wp2_with (at_builtin;go_must (refine wp_appFd (w:=w309) rfl _ _ rfl w.heap.size u3 F rfl HR314.out (⟨#[68,97,116,101]⟩:ByteArray) ((⟨#[32]⟩:ByteArray)++tD) 1 rfl (by omega) hsq ?_;intro v' w' hO' hG';refine Hid.out ?_))
    have bA:Below w309.heap.size w309 (w309.alloc (.cells #[.string (⟨#[68,97,116,101]⟩:ByteArray),.string ((⟨#[32]⟩:ByteArray)++tD)] 38)):=(Below.refl _ _).alloc (Nat.le_refl _) _
    have HOA:=mkHid (HR314.out.below bA)
    have HsA:=mkHid (Hs310.out.below bA)
    have HgA:=mkHid (gr_trans Hg311.out (gr_below bA))
    clear bA Hs310 Hg311 HR314
    have hblk:∀q,u3.ownBlock=some q→w.heap.size≤q:=fun q hq=>(World.ownsRow.lt HOA.out q hq).1
    have Hs9:=mkHid (HsA.out.row hG' (fun q hq=>by have:=hblk q hq;omega))
    have Hg9:=mkHid (gr_row HgA.out hG' hblk)
    have HO9:=mkHid hO'
    have HT9:Hid (∀f ∈ F ++ [((⟨#[68,97,116,101]⟩:ByteArray),((⟨#[32]⟩:ByteArray)++tD))],f.1.size≤100∧f.2.size≤6100):=by
     intro f hf
     rcases List.mem_append.1 hf with hf|hf
     ·exact HT.out f hf
     ·simp only[List.mem_cons,List.not_mem_nil,or_false] at hf
      subst hf
      exact HFit.out
    have hF9:(F ++ [(((⟨#[68,97,116,101]⟩:ByteArray):ByteArray),(((⟨#[32]⟩:ByteArray)++tD):ByteArray))]).length≤F.length+1:=by simp
    clear hO' hG' HOA HsA HgA HFit HT
    generalize F ++ [(((⟨#[68,97,116,101]⟩:ByteArray):ByteArray),(((⟨#[32]⟩:ByteArray)++tD):ByteArray))]=F2 at *
    refine mkHid ?_
    go_wp2
    refine⟨⟨k-1,(a2+1),F2,by go_num,by omega,by omega,HT9,Hs9,Hg9,HO9⟩,by simp[Lib.intOf];omega⟩
   by_cases hkj:kd=4
   ·have e0:((kd:Int)==0)=false:=beq_eq_false_iff_ne.2 (by omega)
    have e1:((kd:Int)==1)=false:=beq_eq_false_iff_ne.2 (by omega)
    have e2:((kd:Int)==2)=false:=beq_eq_false_iff_ne.2 (by omega)
    have e3:((kd:Int)==3)=false:=beq_eq_false_iff_ne.2 (by omega)
    have e4:((kd:Int)==4)=true:=by rw[hkj];rfl
    clear hkj
    have hN308:=srcWord g o c cp a2 z wr Hs.out (HC.out.grown Hg.out (Nat.le_refl _)) (by omega) hl
    go_wp2_with fail
    refine hN308.mono ?_
    rintro e w303 ⟨t301,a302,rfl,hzt301,ha302,hs306,hg307⟩
    have Hs304:=mkHid hs306
    have Hg305:=mkHid (gr_trans Hg.out hg307)
    have HR309:=mkHid (HO.out.gr hg307 hgl)
    clear HO
    clear hN308 hs306 hg307 Hs Hg
    have n0:¬9223372036854775807<2+t301.size:=by omega
    have n1:¬9223372036854775807<2+t301.size+11:=by omega
    have hsq:w.heap.size≤w303.heap.size:=Hg305.out.size
    have HFit:Hid (((⟨#[77,101,115,115,97,103,101,45,73,68]⟩:ByteArray):ByteArray).size≤100∧(((⟨#[32,60]⟩:ByteArray)++t301++(⟨#[64,97,46,101,120,97,109,112,108,101,62]⟩:ByteArray)):ByteArray).size≤6100):=⟨by decide,by rw[ByteArray.size_append,ByteArray.size_append];show 2+t301.size+11≤6100;omega⟩
    go_wp2_with (at_builtin;go_must (refine wp_appFd (w:=w303) rfl _ _ rfl w.heap.size u3 F rfl HR309.out (⟨#[77,101,115,115,97,103,101,45,73,68]⟩:ByteArray) ((⟨#[32,60]⟩:ByteArray)++t301++(⟨#[64,97,46,101,120,97,109,112,108,101,62]⟩:ByteArray)) 1 rfl (by omega) hsq ?_;intro v' w' hO' hG';refine Hid.out ?_))
    have bA:Below w303.heap.size w303 (w303.alloc (.cells #[.string (⟨#[77,101,115,115,97,103,101,45,73,68]⟩:ByteArray),.string ((⟨#[32,60]⟩:ByteArray)++t301++(⟨#[64,97,46,101,120,97,109,112,108,101,62]⟩:ByteArray))] 38)):=(Below.refl _ _).alloc (Nat.le_refl _) _
    have HOA:=mkHid (HR309.out.below bA)
    have HsA:=mkHid (Hs304.out.below bA)
    have HgA:=mkHid (gr_trans Hg305.out (gr_below bA))
    clear bA Hs304 Hg305 HR309
    have hblk:∀q,u3.ownBlock=some q→w.heap.size≤q:=fun q hq=>(World.ownsRow.lt HOA.out q hq).1
    have Hs9:=mkHid (HsA.out.row hG' (fun q hq=>by have:=hblk q hq;omega))
    have Hg9:=mkHid (gr_row HgA.out hG' hblk)
    have HO9:=mkHid hO'
    have HT9:Hid (∀f ∈ F ++ [((⟨#[77,101,115,115,97,103,101,45,73,68]⟩:ByteArray),((⟨#[32,60]⟩:ByteArray)++t301++(⟨#[64,97,46,101,120,97,109,112,108,101,62]⟩:ByteArray)))],f.1.size≤100∧f.2.size≤6100):=by
     intro f hf
     rcases List.mem_append.1 hf with hf|hf
     ·exact HT.out f hf
     ·simp only[List.mem_cons,List.not_mem_nil,or_false] at hf
      subst hf
      exact HFit.out
    have hF9:(F ++ [(((⟨#[77,101,115,115,97,103,101,45,73,68]⟩:ByteArray):ByteArray),(((⟨#[32,60]⟩:ByteArray)++t301++(⟨#[64,97,46,101,120,97,109,112,108,101,62]⟩:ByteArray)):ByteArray))]).length≤F.length+1:=by simp
    clear hO' hG' HOA HsA HgA HFit HT
    generalize F ++ [(((⟨#[77,101,115,115,97,103,101,45,73,68]⟩:ByteArray):ByteArray),(((⟨#[32,60]⟩:ByteArray)++t301++(⟨#[64,97,46,101,120,97,109,112,108,101,62]⟩:ByteArray)):ByteArray))]=F2 at *
    refine mkHid ?_
    go_wp2
    refine⟨⟨k-1,a302,F2,by go_num,by omega,by omega,HT9,Hs9,Hg9,HO9⟩,by simp[Lib.intOf];omega⟩
   by_cases hkj:kd=5
   ·have e0:((kd:Int)==0)=false:=beq_eq_false_iff_ne.2 (by omega)
    have e1:((kd:Int)==1)=false:=beq_eq_false_iff_ne.2 (by omega)
    have e2:((kd:Int)==2)=false:=beq_eq_false_iff_ne.2 (by omega)
    have e3:((kd:Int)==3)=false:=beq_eq_false_iff_ne.2 (by omega)
    have e4:((kd:Int)==4)=false:=beq_eq_false_iff_ne.2 (by omega)
    have e5:((kd:Int)==5)=true:=by rw[hkj];rfl
    clear hkj
    have HCW:Hid (Code g wr o c):=HC.out.grown Hg.out (Nat.le_refl _)
    have hgr0:g<wr.heap.size:=Hs.out.lt
    have hwr0:w.heap.size≤wr.heap.size:=Hg.out.size
    have HG:Hid (GoneBy wr g o c.length cp a2 z (15000*0) wr.drew):=⟨gr_below (Below.refl _ _).drew,a2,by omega,Hs.out.below (Below.refl _ _).drew⟩
    go_wp2
    obtain⟨W0,hW0⟩:∃V,V=wr:=⟨_,rfl⟩
    subst hW0
    refine wp_region_any (by kernel_rfl) ?_
    refine wpAny_phase 12 2 #[true,true,true,true,true,true,true,true,true,true,true,true,false,false] m5Dst (fun x=>rgAct [_,_,_,_,_,_,_,_,_,_,_,_,_,_,_,_,_,_,_,_,_,_,_,_,_,_,_,_,_,_,_,_,_,_,_,_,_,_,_,_,_,_,_,_,_,_,_,_,_,_,_,_,_,_,_,_,_,_,_,_,_,_,_,_,_,_,_,_,_,_,_,_,_,_,_,_,_,_,_,_,_,_,_,_,_,_,_,_,_,_,_] [x 91,x 92,x 93,x 94,x 95,x 96,x 97,x 98,x 99,x 100,x 101,x 102] [_,_]) (m5Fact u3 g W0.heap.size) (fun q w=>GoneBy W0 g o c.length cp a2 z (15000*q) w) (fun w w'=>w.grownBy w' (some g)) rfl rfl (by decide) rfl (by kernel_rfl) (by kernel_rfl) ?_ (m5Fact.gr hgr0) ?hend ?hstep _ _ 0 (fun j=>match j with|91=>u91|92=>u92|93=>u93|94=>u94|95=>u95|96=>u96|97=>u97|98=>u98|99=>u99|100=>u100|101=>u101|102=>u102|_=>undef) _ rfl rfl rfl (by intro j hj;simp[Array.getD]) ?_ HG.out ?_
    ·intro i j hi hj hne
     have e1:∀q,q<12→∀r,r<12→q≠r→m5Dst q≠m5Dst r:=by decide
     exact e1 j hj i hi hne
    case hend=>
     intro x wq hG hf
     have f0:x 91=u3:=hf 0 (by decide)
     obtain⟨b,n9,v9,e4,hb,hbk,hzn,hzv⟩:=hf 11 (by decide)
     have e4':x 102=.slice (some ⟨b,0,none⟩) 1 1:=e4
     obtain⟨hgq,a3,ha3,hs3⟩:=hG
     have HOA:=mkHid (HO.out.gr hgq hgl)
     have HsA:=mkHid hs3
     have HgA:=mkHid (gr_trans Hg.out hgq)
     have HFit:Hid (n9.size≤100∧v9.size≤6100):=⟨hzn,hzv⟩
     have hsq:w.heap.size≤wq.heap.size:=HgA.out.size
     clear hf e4 hs3 hgq hzn hzv
     refine wpAny_ready (rs:=[12]) (by kernel_rfl) (by simp) ?_
     refine AllReady.cons rfl (fun K hK=>?_) AllReady.nil
     rw[if_pos (by rfl)]
     refine opAppFd _ _ rfl w.heap.size u3 F f0 HOA.out n9 v9 b 1 e4' hbk (by omega) hsq ?_
     intro v' w' hO' hG'
     refine hK _ _ ?_
     clear hK K
     have hblk:∀q,u3.ownBlock=some q→w.heap.size≤q:=fun q hq=>(World.ownsRow.lt HOA.out q hq).1
     have Hs9:=mkHid (HsA.out.row hG' (fun q hq=>by have:=hblk q hq;omega))
     have Hg9:=mkHid (gr_row HgA.out hG' hblk)
     have HO9:=mkHid hO'
     have HT9:Hid (∀f ∈ F ++ [(n9,v9)],f.1.size≤100∧f.2.size≤6100):=by
      intro f hf
      rcases List.mem_append.1 hf with hf|hf
      ·exact HT.out f hf
      ·simp only[List.mem_cons,List.not_mem_nil,or_false] at hf
       subst hf
       exact HFit.out
     have hF9:(F ++ [((n9:ByteArray),(v9:ByteArray))]).length≤F.length+1:=by simp
     clear hO' hG' HOA HsA HgA HFit HT
     generalize F ++ [((n9:ByteArray),(v9:ByteArray))]=F2 at *
     clear HO Hs Hg HG hbk
     show wpAny _ _ _ _ 1 _ (rgAct [_,_,_,_,_,_,_,_,_,_,_,_,_,_,_,_,_,_,_,_,_,_,_,_,_,_,_,_,_,_,_,_,_,_,_,_,_,_,_,_,_,_,_,_,_,_,_,_,_,_,_,_,_,_,_,_,_,_,_,_,_,_,_,_,_,_,_,_,_,_,_,_,_,_,_,_,_,_,_,_,_,_,_,_,_,_,_,_,_,_,_] [x 91,x 92,x 93,x 94,x 95,x 96,x 97,x 98,x 99,x 100,x 101,x 102] (v' :: [_])) _
     generalize x 91=y91
     generalize x 92=y92
     generalize x 93=y93
     generalize x 94=y94
     generalize x 95=y95
     generalize x 96=y96
     generalize x 97=y97
     generalize x 98=y98
     generalize x 99=y99
     generalize x 100=y100
     generalize x 101=y101
     generalize x 102=y102
     go_simp
     refine wpAny_ready (rs:=[13]) (by kernel_rfl) (by simp) ?_
     refine AllReady.cons rfl (fun K hK=>?_) AllReady.nil
     go_simp
     refine hK _ _ ?_
     clear hK K
     go_simp
     refine wpAny_done (by kernel_rfl) ?_ _
     go_simp
     go_wp2
     refine⟨⟨k-1,a3,F2,by go_num,by omega,by omega,HT9,Hs9,Hg9,HO9⟩,by simp[Lib.intOf];omega⟩
    case hstep=>
     clear HO HT
     intro k2 x L wr i hil hkl hG hi hf
     rcases (show i=0∨i=1∨i=2∨i=3∨i=4∨i=5∨i=6∨i=7∨i=8∨i=9∨i=10∨i=11 by omega) with rfl|rfl|rfl|rfl|rfl|rfl|rfl|rfl|rfl|rfl|rfl|rfl
     ·clear hi hf
      refine wpOp_step rfl (fun K hK=>?_)
      go_simp
      exact hK _ _ ⟨u3,by simp[put,m5Dst],rfl,gr_refl _ _,(hG.still (Below.refl _ _)).mono (by omega)⟩
     ·clear hi hf
      refine wpOp_step rfl (fun K hK=>?_)
      go_simp
      have hbb:∀cs,Below wr.heap.size wr (wr.alloc (.cells cs 9)):=fun cs=>(Below.refl _ _).alloc (Nat.le_refl _) _
      refine hK _ _ ⟨.slice (some ⟨wr.heap.size,0,none⟩) 2 2,by simp[put,m5Dst],⟨_,rfl,hG.1.size,?_⟩,gr_below (hbb _),(hG.still (hbb _)).mono (by omega)⟩
      intro k hk
      exact tabM_get (by simpa using hk) (by decide)
     ·clear hi hf
      refine wpOp_step rfl (fun K hK=>?_)
      go_simp
      exact hK _ _ ⟨.pointer (some ⟨g,0,none⟩),by simp[put,m5Dst],rfl,gr_refl _ _,(hG.still (Below.refl _ _)).mono (by omega)⟩
     ·have e0:x 93=.pointer (some ⟨g,0,none⟩):=hf 2 (by omega) (ready_dep hi rfl 2 (by kernel_rfl))
      clear hi hf
      obtain⟨hgr,a1,ha1,hs1⟩:=hG
      have hN:=srcN g o c cp a1 z 2 wr hs1 (HCW.out.grown hgr (Nat.le_refl _)) (by omega) hl (by omega) (by omega)
      refine wpOp_step rfl (fun K hK=>?_)
      go_simp
      refine hN.mono ?_
      rintro e w2 ⟨v,rfl,hv,hs2,hg2⟩
      go_simp
      exact hK _ _ ⟨.int .i64 (v:Int),by simp[put,m5Dst,e0],⟨v,rfl,Nat.zero_le _,by omega⟩,hg2,gr_trans hgr hg2,a1+1,by omega,hs2⟩
     ·have f0:=hf 1 (by omega) (ready_dep hi rfl 1 (by kernel_rfl))
      have f2:=hf 3 (by omega) (ready_dep hi rfl 3 (by kernel_rfl))
      clear hi hf
      obtain⟨b,e0,hb,ht⟩:=f0
      obtain⟨k2,e1,-,hk⟩:=f2
      obtain⟨t,hc,hts⟩:=ht k2 hk
      have hk3:(k2:Int)<2:=by omega
      have e0':x 92=.slice (some ⟨b,0,none⟩) 2 2:=e0
      have e1':x 94=.int .i64 k2:=e1
      clear e0 e1 ht
      refine wpOp_step rfl (fun K hK=>?_)
      go_simp
      exact hK _ _ ⟨.pointer (some ⟨b,k2,none⟩),by simp[put,m5Dst,e0',e1'],⟨b,k2,t,rfl,hb,hc,hts⟩,gr_refl _ _,(hG.still (Below.refl _ _)).mono (by omega)⟩
     ·have f3:=hf 4 (by omega) (ready_dep hi rfl 4 (by kernel_rfl))
      clear hi hf
      obtain⟨b,k2,t,e0,hb,hc,hts⟩:=f3
      have e0':x 95=.pointer (some ⟨b,k2,none⟩):=e0
      clear e0
      refine wpOp_step rfl (fun K hK=>?_)
      go_simp
      exact hK _ _ ⟨.string t,by simp[put,m5Dst,e0'],⟨t,rfl,hts⟩,gr_refl _ _,(hG.still (Below.refl _ _)).mono (by omega)⟩
     ·clear hi hf
      refine wpOp_step rfl (fun K hK=>?_)
      go_simp
      exact hK _ _ ⟨.pointer (some ⟨g,0,none⟩),by simp[put,m5Dst],rfl,gr_refl _ _,(hG.still (Below.refl _ _)).mono (by omega)⟩
     ·have e0:x 97=.pointer (some ⟨g,0,none⟩):=hf 6 (by omega) (ready_dep hi rfl 6 (by kernel_rfl))
      clear hi hf
      obtain⟨hgr,a1,ha1,hs1⟩:=hG
      have hN:=srcWord g o c cp a1 z wr hs1 (HCW.out.grown hgr (Nat.le_refl _)) (by omega) hl
      refine wpOp_step rfl (fun K hK=>?_)
      go_simp
      refine hN.mono ?_
      rintro e w2 ⟨t,a2,rfl,ht,ha2,hs2,hg2⟩
      go_simp
      exact hK _ _ ⟨.string t,by simp[put,m5Dst,e0],⟨t,rfl,by omega⟩,hg2,gr_trans hgr hg2,a2,by omega,hs2⟩
     ·have f3:=hf 7 (by omega) (ready_dep hi rfl 7 (by kernel_rfl))
      clear hi hf
      obtain⟨t,e0,hts⟩:=f3
      have e0':x 98=.string t:=e0
      have n0:¬9223372036854775807<2+t.size:=by omega
      clear e0
      refine wpOp_step rfl (fun K hK=>?_)
      go_simp
      exact hK _ _ ⟨.string (⟨#[32,60]⟩++t),by simp[put,m5Dst,e0'],⟨_,rfl,by rw[ByteArray.size_append];exact Nat.le_trans (Nat.add_le_add_left hts _) (by show 2+6≤_;omega)⟩,gr_refl _ _,(hG.still (Below.refl _ _)).mono (by omega)⟩
     ·have f3:=hf 8 (by omega) (ready_dep hi rfl 8 (by kernel_rfl))
      clear hi hf
      obtain⟨t,e0,hts⟩:=f3
      have e0':x 99=.string t:=e0
      have n0:¬9223372036854775807<t.size+11:=by omega
      clear e0
      refine wpOp_step rfl (fun K hK=>?_)
      go_simp
      exact hK _ _ ⟨.string (t++⟨#[64,97,46,101,120,97,109,112,108,101,62]⟩),by simp[put,m5Dst,e0'],⟨_,rfl,by rw[ByteArray.size_append];exact Nat.add_le_add_right hts _⟩,gr_refl _ _,(hG.still (Below.refl _ _)).mono (by omega)⟩
     ·have f1:=hf 5 (by omega) (ready_dep hi rfl 5 (by kernel_rfl))
      have f2:=hf 9 (by omega) (ready_dep hi rfl 9 (by kernel_rfl))
      clear hi hf
      obtain⟨t1,e1,hz1⟩:=f1
      have e1':x 96=.string t1:=e1
      clear e1
      obtain⟨t2,e2,hz2⟩:=f2
      have e2':x 100=.string t2:=e2
      clear e2
      refine wpOp_step rfl (fun K hK=>?_)
      go_simp
      exact hK _ _ ⟨.agg #[.string t1,.string t2],by simp[put,m5Dst,e1',e2'],⟨t1,t2,rfl,by omega,by omega⟩,gr_refl _ _,(hG.still (Below.refl _ _)).mono (by omega)⟩
     ·have f3:=hf 10 (by omega) (ready_dep hi rfl 10 (by kernel_rfl))
      clear hi hf
      obtain⟨n9,v9,e0,hzn,hzv⟩:=f3
      have e0':x 101=.agg #[.string n9,.string v9]:=e0
      clear e0
      refine wpOp_step rfl (fun K hK=>?_)
      go_simp
      have hbb:∀cs,Below wr.heap.size wr (wr.alloc (.cells cs 38)):=fun cs=>(Below.refl _ _).alloc (Nat.le_refl _) _
      exact hK _ _ ⟨.slice (some ⟨wr.heap.size,0,none⟩) 1 1,by simp[put,m5Dst,e0'],⟨wr.heap.size,n9,v9,rfl,hG.1.size,hp_alloc _ _,hzn,hzv⟩,gr_below (hbb _),(hG.still (hbb _)).mono (by omega)⟩
    ·intro k2 j hk2
     simp[Array.getD] at hk2
    ·intro j hj hd
     simp[Array.getD] at hd
   have e0:((kd:Int)==0)=false:=beq_eq_false_iff_ne.2 (by omega)
   have e1:((kd:Int)==1)=false:=beq_eq_false_iff_ne.2 (by omega)
   have e2:((kd:Int)==2)=false:=beq_eq_false_iff_ne.2 (by omega)
   have e3:((kd:Int)==3)=false:=beq_eq_false_iff_ne.2 (by omega)
   have e4:((kd:Int)==4)=false:=beq_eq_false_iff_ne.2 (by omega)
   have e5:((kd:Int)==5)=false:=beq_eq_false_iff_ne.2 (by omega)
   have hN308:=srcName g o c cp a2 z wr Hs.out (HC.out.grown Hg.out (Nat.le_refl _)) (by omega) hl
   go_wp2_with fail
   refine hN308.mono ?_
   rintro e w303 ⟨t301,a302,rfl,hzt301,ha302,hs306,hg307⟩
   have Hs304:=mkHid hs306
   have Hg305:=mkHid (gr_trans Hg.out hg307)
   have HR309:=mkHid (HO.out.gr hg307 hgl)
   clear HO
   clear hN308 hs306 hg307 Hs Hg
   have hN317:=srcValue g o c cp a302 z w303 Hs304.out (HC.out.grown Hg305.out (Nat.le_refl _)) (by omega) hl hz
   go_wp2_with fail
   refine hN317.mono ?_
   rintro e w312 ⟨t310,a311,rfl,hzt310,ha311,hs315,hg316⟩
   have Hs313:=mkHid hs315
   have Hg314:=mkHid (gr_trans Hg305.out hg316)
   have HR318:=mkHid (HR309.out.gr hg316 hgl)
   clear HR309
   clear hN317 hs315 hg316 Hs304 Hg305
   have hsq:w.heap.size≤w312.heap.size:=Hg314.out.size
   have HFit:Hid ((t301:ByteArray).size≤100∧(t310:ByteArray).size≤6100):=⟨by omega,by omega⟩
   go_wp2_with (at_builtin;go_must (refine wp_appFd (w:=w312) rfl _ _ rfl w.heap.size u3 F rfl HR318.out t301 t310 1 rfl (by omega) hsq ?_;intro v' w' hO' hG';refine Hid.out ?_))
   have bA:Below w312.heap.size w312 (w312.alloc (.cells #[.string t301,.string t310] 38)):=(Below.refl _ _).alloc (Nat.le_refl _) _
   have HOA:=mkHid (HR318.out.below bA)
   have HsA:=mkHid (Hs313.out.below bA)
   have HgA:=mkHid (gr_trans Hg314.out (gr_below bA))
   clear bA Hs313 Hg314 HR318
   have hblk:∀q,u3.ownBlock=some q→w.heap.size≤q:=fun q hq=>(World.ownsRow.lt HOA.out q hq).1
   have Hs9:=mkHid (HsA.out.row hG' (fun q hq=>by have:=hblk q hq;omega))
   have Hg9:=mkHid (gr_row HgA.out hG' hblk)
   have HO9:=mkHid hO'
   have HT9:Hid (∀f ∈ F ++ [(t301,t310)],f.1.size≤100∧f.2.size≤6100):=by
    intro f hf
    rcases List.mem_append.1 hf with hf|hf
    ·exact HT.out f hf
    ·simp only[List.mem_cons,List.not_mem_nil,or_false] at hf
     subst hf
     exact HFit.out
   have hF9:(F ++ [((t301:ByteArray),(t310:ByteArray))]).length≤F.length+1:=by simp
   clear hO' hG' HOA HsA HgA HFit HT
   generalize F ++ [((t301:ByteArray),(t310:ByteArray))]=F2 at *
   refine mkHid ?_
   go_wp2
   refine⟨⟨k-1,a311,F2,by go_num,by omega,by omega,HT9,Hs9,Hg9,HO9⟩,by simp[Lib.intOf];omega⟩
  ·go_wp2
   go_ret
   exact⟨_,F,a',rfl,by omega,HT.out,HO0.out,by omega,Hs0.out,Hg0.out⟩
end Go.Proofs.YtacaoiedcfelcaaGreatDoor
