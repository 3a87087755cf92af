import Derived.Test.YtacaoiedcfelcaaGreatDoorOwnF
import Derived.Test.YtacaoiedcfelcaaGreatDoorSgSpec
import Derived.Test.YtacaoiedcfelcaaGreatDoorOneImpl
import Derived.Test.YtacaoiedcfelcaaGreatDoorCkTurn
set_option maxRecDepth 20000
set_option maxHeartbeats 4000000
namespace Go.Proofs.YtacaoiedcfelcaaGreatDoor
open Go.RowKit Go.Lib Go.Maps
theorem trim_own (p:ByteArray):(⟨(trimSuffix (p++(⟨#[13,10]⟩:ByteArray)).data.toList (⟨#[13,10]⟩:ByteArray).data.toList).toArray⟩:ByteArray)=p:=by
 rw[ByteArray.data_append,Array.toList_append]
 show(⟨(trimSuffix (p.data.toList ++ [13,10]) [13,10]).toArray⟩:ByteArray)=p
 unfold trimSuffix hasSuffix
 rw[if_pos (by rw[List.isSuffixOf_iff_suffix];exact List.suffix_append _ _)]
 simp
theorem libTrimOwn (p:ByteArray)(w:World)(hp:p.size≤5000):Calls Tryz.prog 59 #[.string (p++(⟨#[13,10]⟩:ByteArray)),.string (⟨#[13,10]⟩:ByteArray)] w fun e w'=>e=.returned (.string p)∧w=w':=by
 have hz:(p++(⟨#[13,10]⟩:ByteArray)).size≤9223372036854775807:=by rw[ByteArray.size_append];show p.size+2≤_;omega
 refine(Tryz.strings_TrimSuffix (p++(⟨#[13,10]⟩:ByteArray)) (⟨#[13,10]⟩:ByteArray) w hz).mono ?_
 rintro e w' ⟨he,hw⟩
 rw[trim_own] at he
 exact⟨he,hw.symm⟩
abbrev bxSi (d s:ByteArray)(A B:Int)(v:Value)(h b:Int):Obj:=.cells #[.string d,.string s,.int .i64 A,.int .i64 B,v,.int .i64 h,.int .i64 b] 27
theorem implSignedN (n:ByteArray)(hn:n.size≤1000)(d s:ByteArray)(A B h b:Int)(on:Option Addr)(M:List ByteArray)(capn Bf:Nat)(vf:Value)(F:List Fl)(v p:ByteArray)(w:World)
  (hM:Tx w.heap.size w on M) (hml:M.length≤30) (hmz:∀t ∈ M,t.size≤70) (hF:OwnF Bf vf F w) (hfl:F.length≤200) (hfz:∀f ∈ F,f.1.length≤100000∧f.2.length≤100000)
  (hfs:fsum (toBA F)≤100002) (hv:v.size≤4000) (hp:canonF n v h=p++⟨#[13,10]⟩) (hps:p.size≤5000) :
  Calls Tryz.prog 19 #[sgV d s A B (.slice on M.length capn) h b,vf,.agg #[.string n,.string v]] w fun e w'=>e=.returned (.string (⟨(tkL h M (toBA F)).toArray⟩++p))∧Below w.heap.size w w':=by
 obtain⟨i5,hi5,hz50,hz51,hz52⟩:=info_parts Tryz.info5
 obtain⟨R,hR⟩:∃R,tkL h M (toBA F)=R:=⟨_,rfl⟩
 have hRl:R.length≤100002:=by rw[← hR];exact Nat.le_trans (tkL_len h M _) hfs
 have HR0:Hid ([]++tkL h (M.drop 0) (toBA F)=R):=hR
 have cO:=mkHid (fun w'=>implCanonField n v h w' (by omega) (by omega))
 rw[hp] at cO
 rw[hR]
 have HRl:=mkHid hRl
 have HM:=mkHid hM
 have Hmz:=mkHid hmz
 have Hfz:=mkHid hfz
 clear hR hRl hp hM hmz hfz hfs
 obtain⟨W0,hW0⟩:∃W0,W0=(w.alloc (bxSi d s A B (.slice on M.length capn) h b)).alloc (.cells #[.string n,.string v] 38):=⟨_,rfl⟩
 have hs0:W0.heap.size=w.heap.size+2:=by rw[hW0];simp
 have hbW0:Below w.heap.size w W0:=by rw[hW0];exact((Below.refl _ _).alloc (Nat.le_refl _) _).alloc (by simp) _
 have e4:W0.cell? ⟨w.heap.size,4,none⟩=some (.slice on M.length capn):=by rw[hW0];simp
 have e5:W0.cell? ⟨w.heap.size,5,none⟩=some (.int .i64 h):=by rw[hW0];simp
 have o0:W0.cell? ⟨w.heap.size+1,0,none⟩=some (.string n):=by rw[hW0];simp
 have o1:W0.cell? ⟨w.heap.size+1,1,none⟩=some (.string v):=by rw[hW0];simp
 have hF0:OwnF Bf vf F W0:=by rw[hW0];exact(hF.alloc _).alloc _
 have cK:=mkHid (implClone Bf vf F W0 hF0 (by omega))
 have HW0:=mkHid hW0
 clear hF hF0 hW0
 go_enter Tryz.func19,Tryz.ntmps19
 go_wp2_with fail
 rw[← HW0.out]
 refine cK.out.mono ?_
 rintro e w1 ⟨vl,rfl,hvl,hb1⟩
 clear cK
 have c4:=(hb1.cell (p:=⟨w.heap.size,4,none⟩) (show w.heap.size<_ from by omega)).trans e4
 go_wp2
 clear c4
 have Hb1:=mkHid hb1
 have Hvl:=mkHid hvl
 have HbW0:=mkHid hbW0
 clear hb1 hvl hbW0
 generalize hg:w.heap.size=g at *
 have Hg:=mkHid hg
 clear hg
 rw[hs0] at Hb1 Hvl
 go_loopw [7,8,17] (fun ov lv iv wr=>∃ (i:Nat) (L:List Fl) (O:List UInt8),i≤M.length∧L.length≤200∧iv=.int .i64 i∧Hid (Own (g+2) ov O wr)∧Hid (OwnF (g+2) lv L wr)∧Hid (O++tkL h (M.drop i) (toBA L)=R)∧Hid (∀f ∈ L,f.1.length≤100000∧f.2.length≤100000)∧Hid (Below (g+2) W0 wr)) (fun _ _ iv _=>M.length-(Lib.intOf iv).toNat)
 case atStart=>exact⟨0,F,[],Nat.zero_le _,hfl,rfl,Own.nil _ _,Hvl,HR0,Hfz,Hb1⟩
 case round=>
  clear HR0 Hb1 Hvl Hfz
  obtain⟨i,L,O,hi,hLl,rfl,hO,hL,hp,hLz,hB⟩:=hrel
  have hbr:=mkHid (HbW0.out.trans (hB.out.mono (Nat.le_add_right g 2)))
  have hsz:=hB.out.size
  rw[hs0] at hsz
  have hOl:O.length≤100002:=by
   have:=congrArg List.length hp.out
   rw[List.length_append] at this
   have:=HRl.out
   omega
  by_cases hlt:i<M.length
  ·obtain⟨a,rfl,ha,hn0⟩:=(HM.out.below hbr.out) i hlt
   obtain⟨m,hm⟩:∃m,M[i]=m:=⟨_,rfl⟩
   have hms:m.size≤70:=hm ▸ Hmz.out _ (List.getElem_mem hlt)
   have hpm:Hid (O++tkL h (m::M.drop (i+1)) (toBA L)=R):=by
    show _=_
    rw[← hp.out,List.drop_eq_getElem_cons hlt,hm]
   rw[hm] at hn0
   obtain⟨lo,lcap,rfl,hfld⟩:=hL.out.fld
   have cL:=mkHid (implLast lo (toBA L) lcap m wr hfld (by rw[toBA_len];omega) (by
    intro f hf
    unfold toBA at hf
    obtain⟨f',h1,rfl⟩:=List.mem_map.1 hf
    have:=(hLz.out f' h1).1
    show f'.1.toArray.size≤100000
    rw[List.size_toArray]
    exact this) (by omega))
   rw[nm_mt,toBA_len] at cL
   have hlt2:Hid (∀k,lastTo (mtAt (nmF m) (toBA L)) L.length=some k→k<L.length):=fun k hk=>lastTo_lt _ _ hk
   clear hm hp hfld
   go_wp2_with fail
   refine cL.out.mono ?_
   rintro e w2 ⟨rfl,hb2⟩
   have hO2:=mkHid (World.ownsRow.kept hO.out (grown_below (r:=none) hb2) (Classical.em _))
   have hL2:=mkHid (World.ownsRow.kept hL.out (grown_below (r:=none) hb2) (Classical.em _))
   have hB2:=mkHid (hB.out.trans (hb2.mono (by omega)))
   have hs2:=hb2.size
   clear cL hO hL hB hb2 hbr hn0
   cases hf:lastTo (mtAt (nmF m) (toBA L)) L.length with
   | none=>
    have hnx:Hid (O++tkL h (M.drop (i+1)) (toBA L)=R):=by
     show _=_
     rw[← hpm.out,tkL_none _ _ _ _ (by rw[toBA_len];exact hf)]
    clear hf hpm hlt2
    unfold atV
    go_wp2
    go_roundw
    case rel=>exact⟨i+1,L,O,by omega,hLl,by go_num,hO2,hL2,hnx,hLz,hB2⟩
    case measure=>simp[Lib.intOf];omega
   | some k=>
    have hkL:=hlt2.out k hf
    obtain⟨gl,rfl,hgl⟩:∃gl,lo=some ⟨gl,0,none⟩∧g+2≤gl:=by
     rcases hL2.out.2 with ⟨h1,h0⟩|⟨q,cap',cur,h1,h2,-⟩
     ·omega
     ·simp only[Value.slice.injEq] at h1
      exact⟨q,h1.1,h2⟩
    obtain⟨t0,t1⟩:=cellsF_get L k hkL
    have y0:=World.ownsRow.cells hL2.out (g:=gl) rfl (k*2) _ t0
    have y1:=World.ownsRow.cells hL2.out (g:=gl) rfl (k*2+1) _ t1
    rw[add_off] at y0 y1
    have z5:=(hB2.out.cell (p:=⟨g,5,none⟩) (show g<g+2 by omega)).trans e5
    have hfk:=hLz.out L[k] (List.getElem_mem hkL)
    obtain⟨fn,hfn⟩:∃fn:ByteArray,(⟨L[k].1.toArray⟩:ByteArray)=fn:=⟨_,rfl⟩
    obtain⟨fv,hfv⟩:∃fv:ByteArray,(⟨L[k].2.toArray⟩:ByteArray)=fv:=⟨_,rfl⟩
    have hz1:fn.size≤100000:=by rw[← hfn];show L[k].1.toArray.size≤_;rw[List.size_toArray];exact hfk.1
    have hz2:fv.size≤100000:=by rw[← hfv];show L[k].2.toArray.size≤_;rw[List.size_toArray];exact hfk.2
    unfold txt at y0 y1
    rw[hfn] at y0
    rw[hfv] at y1
    have cC:=mkHid (fun w'=>implCanonField fn fv h w' (by omega) (by omega))
    have hcs:=canonF_size fn fv h
    unfold fsz at hcs
    simp only at hcs
    have hnx:Hid ((O++(canonF fn fv h).data.toList)++tkL h (M.drop (i+1)) (toBA (L.eraseIdx k))=R):=by
     show _=_
     rw[← hpm.out,tkL_some _ _ _ _ k (fn,fv) (by rw[toBA_len];exact hf) (by rw[toBA_at L k hkL,hfn,hfv]),toBA_erase,List.append_assoc]
    obtain⟨cf,hcf⟩:∃cf,canonF fn fv h=cf:=⟨_,rfl⟩
    rw[hcf] at cC hnx hcs
    have hS:w2.cell? ⟨gl,k*2,none⟩=some (.string fn)∧w2.cell? ⟨gl,k*2+1,none⟩=some (.string fv)∧w2.cell? ⟨g,5,none⟩=some (.int .i64 h):=⟨y0,y1,z5⟩
    clear hf hpm hlt2 hfn hfv hcf y0 y1 z5 t0 t1 hfk
    unfold atV
    go_wp2
    refine wp_region_held (S:=fun w=>w.cell? ⟨gl,k*2,none⟩=some (.string fn)∧w.cell? ⟨gl,k*2+1,none⟩=some (.string fv)∧w.cell? ⟨g,5,none⟩=some (.int .i64 h)) (by kernel_rfl) ?_
    refine tk 0 u7 hS ?_ ?_
    ·rintro w ⟨s1,s2,s3⟩
     go_simp
     all_goals first|done|(intro h;exfalso;omega)|omega
    go_simp
    refine tk 1 (.slice (some ⟨gl,0,none⟩) L.length lcap) hS ?_ ?_
    ·rintro w ⟨s1,s2,s3⟩
     go_simp
     all_goals first|done|(intro h;exfalso;omega)|omega
    go_simp
    refine tk 2 (.int .i64 (k:Int)) hS ?_ ?_
    ·rintro w ⟨s1,s2,s3⟩
     go_simp
     all_goals first|done|(intro h;exfalso;omega)|omega
    go_simp
    refine tk 3 (.pointer (some ⟨gl,k*2,none⟩)) hS ?_ ?_
    ·rintro w ⟨s1,s2,s3⟩
     go_simp
     all_goals first|done|(intro h;exfalso;omega)|omega
    go_simp
    refine tk 4 (.agg #[.string fn,.string fv]) hS ?_ ?_
    ·rintro w ⟨s1,s2,s3⟩
     go_simp
     all_goals first|done|(intro h;exfalso;omega)|omega
    go_simp
    refine tk 5 (.pointer (some ⟨g,5,none⟩)) hS ?_ ?_
    ·rintro w ⟨s1,s2,s3⟩
     go_simp
     all_goals first|done|(intro h;exfalso;omega)|omega
    go_simp
    refine tk 6 (.int .i64 h) hS ?_ ?_
    ·rintro w ⟨s1,s2,s3⟩
     go_simp
     all_goals first|done|(intro h;exfalso;omega)|omega
    go_simp
    refine wpAnyH_all (rs:=[7]) (by kernel_rfl) (by simp) ?_
    intro q hq
    simp only[List.mem_cons,List.not_mem_nil,or_false] at hq
    subst hq
    refine wpOp_step rfl (fun K hK=>?_)
    go_simp
    refine(cC.out _).mono ?_
    rintro e w3 ⟨rfl,hb3'⟩
    have hb3:Below w2.heap.size w2 w3:=⟨hb3'.os,hb3'.tape,hb3'.output,hb3'.size,hb3'.block⟩
    clear hb3'
    refine hK _ _ ⟨⟨(hb3.cell (p:=⟨gl,k*2,none⟩) (World.ownsRow.lt hL2.out gl rfl).2).trans hS.1,(hb3.cell (p:=⟨gl,k*2+1,none⟩) (World.ownsRow.lt hL2.out gl rfl).2).trans hS.2.1,(hb3.cell (p:=⟨g,5,none⟩) (show g<w2.heap.size by omega)).trans hS.2.2⟩,?_⟩
    clear hK K
    have hO3:=mkHid (World.ownsRow.kept hO2.out (grown_below (r:=none) hb3) (Classical.em _))
    have hL3:=mkHid (World.ownsRow.kept hL2.out (grown_below (r:=none) hb3) (Classical.em _))
    have hB3:=mkHid (hB2.out.trans (hb3.mono (by omega)))
    have hs3:=hb3.size
    have hS3:w3.cell? ⟨gl,k*2,none⟩=some (.string fn)∧w3.cell? ⟨gl,k*2+1,none⟩=some (.string fv)∧w3.cell? ⟨g,5,none⟩=some (.int .i64 h):=⟨(hb3.cell (p:=⟨gl,k*2,none⟩) (World.ownsRow.lt hL2.out gl rfl).2).trans hS.1,(hb3.cell (p:=⟨gl,k*2+1,none⟩) (World.ownsRow.lt hL2.out gl rfl).2).trans hS.2.1,(hb3.cell (p:=⟨g,5,none⟩) (show g<w2.heap.size by omega)).trans hS.2.2⟩
    clear hO2 hL2 hB2 hS cC
    go_simp
    refine wpAnyH_all (rs:=[8]) (by kernel_rfl) (by simp) ?_
    intro q hq
    simp only[List.mem_cons,List.not_mem_nil,or_false] at hq
    subst hq
    refine wpOp_step rfl (fun K hK=>?_)
    rw[if_pos (by rfl)]
    have hap:=own_apartF hO3.out hL3.out
    have hgk:=(World.ownsRow.lt hL3.out gl rfl).2
    have hne:some gl≠u7.ownBlock:=by
     rcases hap with e|e
     ·rw[e];simp
     ·exact fun x=>e x.symm
    have hlow:∀k,u7.ownBlock=some k→g+2≤k:=fun k hk=>(World.ownsRow.lt hO3.out k hk).1
    refine opAppS (.tmp 26) (.tmp 33) 22 9 rfl i5 Tryz.underlying22 Tryz.underlying9 hi5 hz50 hz51 hz52 (g+2) u7 O rfl hO3.out cf rfl (by omega) (by omega) ?_
    intro v4 w4 hO4' hg4
    have hO4:=mkHid hO4'
    have hL4:=mkHid (World.ownsRow.kept hL3.out hg4 (.inr hne))
    have hB4:=mkHid (hB3.out.grown hg4 (by omega) hlow)
    have hs4:=hg4.size
    have hc:∀j,w4.cell? ⟨gl,j,none⟩=w3.cell? ⟨gl,j,none⟩:=fun j=>World.cell?_of_block (hg4.block gl hgk hne)
    have hc5:w4.cell? ⟨g,5,none⟩=w3.cell? ⟨g,5,none⟩:=World.cell?_of_block (a:=⟨g,5,none⟩) (hg4.block g (by omega) (fun e=>by have:=hlow g e.symm;omega))
    refine hK _ _ ⟨⟨(hc _).trans hS3.1,(hc _).trans hS3.2.1,hc5.trans hS3.2.2⟩,?_⟩
    have hS4:w4.cell? ⟨gl,k*2,none⟩=some (.string fn)∧w4.cell? ⟨gl,k*2+1,none⟩=some (.string fv)∧w4.cell? ⟨g,5,none⟩=some (.int .i64 h):=⟨(hc _).trans hS3.1,(hc _).trans hS3.2.1,hc5.trans hS3.2.2⟩
    clear hK K hc hc5 hO4' hg4 hO3 hL3 hB3 hS3 hap hgk hne hlow hb3
    go_simp
    refine tk 9 v4 hS4 ?_ ?_
    ·rintro w ⟨s1,s2,s3⟩
     go_simp
    go_simp
    refine wpAnyH_done (by kernel_rfl) ?_ _
    have cD:=mkHid (implDelete (g+2) _ L k w4 hL4.out hkL (by omega))
    clear hS4
    go_wp2_with fail
    refine cD.out.mono ?_
    rintro e w5 ⟨v5,rfl,hL5,hv5,hg5⟩
    clear cD
    have hO5:=mkHid (World.ownsRow.kept hO4.out hg5 (own_apartF hO4.out hL4.out))
    have hB5:=mkHid (hB4.out.grown hg5 (by omega) (fun k hk=>(World.ownsRow.lt hL4.out k hk).1))
    have hLz5:Hid (∀f ∈ L.eraseIdx k,f.1.length≤100000∧f.2.length≤100000):=fun f hf=>hLz.out f (List.mem_of_mem_eraseIdx hf)
    have hl5:(L.eraseIdx k).length≤200:=by rw[List.length_eraseIdx_of_lt hkL];omega
    have HL5:=mkHid hL5
    clear hL5 hv5 hg5 hO4 hL4 hB4
    go_wp2
    go_roundw
    case rel=>exact⟨i+1,L.eraseIdx k,_,by omega,hl5,by go_num,hO5,HL5,hnx,hLz5,hB5⟩
    case measure=>simp[Lib.intOf];omega
  ·have z5:=(hB.out.cell (p:=⟨g,5,none⟩) (show g<g+2 by omega)).trans e5
   have z0:=(hB.out.cell (p:=⟨g+1,0,none⟩) (show g+1<g+2 by omega)).trans o0
   have z1:=(hB.out.cell (p:=⟨g+1,1,none⟩) (show g+1<g+2 by omega)).trans o1
   go_wp2_with fail
   refine(cO.out wr).mono ?_
   rintro e w2 ⟨rfl,hb2⟩
   have hre:Hid (R=O):=by
    show _=_
    rw[← hp.out,List.drop_eq_nil_of_le (by omega)]
    simp[tkL]
   have hO2:=mkHid (World.ownsRow.kept hO.out (grown_below (r:=none) hb2) (Classical.em _))
   have hB2:=mkHid (hB.out.trans (hb2.mono (by omega)))
   have hs2:=hb2.size
   have cT:=mkHid (libTrimOwn p w2 hps)
   clear hb2 hB hO hL cO hp z5 z0 z1
   go_wp2_with (go_at_call 59;fail)
   refine cT.out.mono ?_
   rintro e w3 ⟨rfl,rfl⟩
   clear cT
   go_wp2_with (at_builtin;refine wp_apps rfl _ _ 22 9 rfl i5 Tryz.underlying22 Tryz.underlying9 hi5 hz50 hz51 hz52 (g+2) u7 O rfl hO2.out p rfl (by omega) (Nat.le_of_eq hs0.symm) hB2.out ?_;intro v4 w4 hO4 hB4;have hbk:=hO4.back (P:=Tryz.prog) 22 9 Tryz.underlying22 Tryz.underlying5 Tryz.underlying9)
   go_ret
   refine⟨?_,by rw[Hg.out];exact HbW0.out.trans (hB4.mono (Nat.le_add_right g 2))⟩
   rw[hre.out]
   refine congrArg (fun x=>Ending.returned (.string x)) ?_
   apply ByteArray.ext
   apply Array.toList_inj.1
   rw[ByteArray.data_append,Array.toList_append]
theorem implSigned (d s:ByteArray)(A B h b:Int)(on:Option Addr)(M:List ByteArray)(capn Bf:Nat)(vf:Value)(F:List Fl)(v p:ByteArray)(w:World)
  (hM:Tx w.heap.size w on M) (hml:M.length≤30) (hmz:∀t ∈ M,t.size≤70) (hF:OwnF Bf vf F w) (hfl:F.length≤200) (hfz:∀f ∈ F,f.1.length≤100000∧f.2.length≤100000)
  (hfs:fsum (toBA F)≤100002) (hv:v.size≤4000) (hp:canonF sgName v h=p++⟨#[13,10]⟩) (hps:p.size≤5000) :
  Calls Tryz.prog 19 #[sgV d s A B (.slice on M.length capn) h b,vf,.agg #[.string sgName,.string v]] w fun e w'=>e=.returned (.string (⟨(tkL h M (toBA F)).toArray⟩++p))∧Below w.heap.size w w':=
 implSignedN sgName (by show 9≤1000;omega) d s A B h b on M capn Bf vf F v p w hM hml hmz hF hfl hfz hfs hv hp hps
open Go.RowKit Go.Lib
def lenOf:Value→Nat
 | .slice _ n _=>n
 | _=>0
def isForm (x:Int):Bool:=x==0 || x==1
theorem implIsFormB (x:Int)(w:World):Calls Tryz.prog 57 #[.int .i64 x] w fun e w'=>e=.returned (.bool (isForm x))∧w=w':=by
 unfold isForm
 cases h0:(x==0)
 ·cases h1:(x==1)
  ·go_enter Tryz.func57,Tryz.ntmps57
   go_wp2
   go_ret
   exact⟨rfl,rfl⟩
  ·go_enter Tryz.func57,Tryz.ntmps57
   go_wp2
   go_ret
   exact⟨rfl,rfl⟩
 ·go_enter Tryz.func57,Tryz.ntmps57
  go_wp2
  go_ret
  exact⟨rfl,rfl⟩
theorem trim_bare (l:List UInt8):Lib.trimSuffix l [32]=Pl.bareEnd l:=by
 unfold Lib.trimSuffix Pl.bareEnd Pl.lastSp
 rcases List.eq_nil_or_concat l with rfl|⟨p,c,rfl⟩
 ·rfl
 ·have h:hasSuffix (p ++ [c]) [32]=(c==32):=by
   unfold hasSuffix List.isSuffixOf
   rw[List.reverse_append,List.reverse_singleton,List.reverse_singleton,List.singleton_append,List.isPrefixOf,List.isPrefixOf,Bool.and_true,Bool.beq_comm]
  simp[h]
theorem implCanonNo (s:ByteArray)(x:Int)(w:World)(hs:s.size≤1100000)(h:100000<s.size∨(¬x=0∧¬x=1)) :
  Calls Tryz.prog 17 #[.string s,.int .i64 x] w fun e w'=>e=.returned (.string ⟨#[]⟩)∧Below w.heap.size w w':=by
 have hT:=fun w=>implTooLong s w hs
 have hF:=fun w=>implIsFormB x w
 by_cases hl:100000<s.size
 ·have hd:decide ((100000:Int)<(s.size:Int))=true:=decide_eq_true (by omega)
  rw[hd] at hT
  go_enter Tryz.func17,Tryz.ntmps17
  go_wp2_with fail
  refine(hT _).mono ?_
  rintro e w1 ⟨rfl,rfl⟩
  go_wp2
  go_ret
  exact⟨rfl,Below.refl _ _⟩
 ·have hd:decide ((100000:Int)<(s.size:Int))=false:=decide_eq_false (by omega)
  rw[hd] at hT
  have hi:isForm x=false:=by unfold isForm;rcases h with h|h;omega;simp;omega
  rw[hi] at hF
  clear h
  go_enter Tryz.func17,Tryz.ntmps17
  go_wp2_with fail
  refine(hT _).mono ?_
  rintro e w1 ⟨rfl,rfl⟩
  go_wp2_with fail
  refine(hF _).mono ?_
  rintro e w1 ⟨rfl,rfl⟩
  go_wp2
  go_ret
  exact⟨rfl,Below.refl _ _⟩
set_option maxRecDepth 10000 in
theorem implCanonBody0 (s:ByteArray)(m:Int)(w:World)(hs:s.size≤100000)(hm:w.cell? ⟨0,0,none⟩=some (.int .i64 m)) :
  Calls Tryz.prog 17 #[.string s,.int .i64 0] w fun e w'=>e=.returned (.string ⟨(canonB s 0).toArray⟩)∧Below w.heap.size w w':=by
 obtain⟨i0,hi,hy0,hy1,hy2⟩:=info_parts Tryz.info5
 have hT:=fun w=>implTooLong s w (by omega)
 have hd:decide ((100000:Int)<(s.size:Int))=false:=decide_eq_false (by omega)
 rw[hd] at hT
 have hF:=fun w=>implIsFormB 0 w
 rw[show isForm 0=true from rfl] at hF
 have hL:=implLines s m w (by omega) hm
 obtain⟨R,hR⟩:∃R,canonB s 0=R:=⟨_,rfl⟩
 obtain⟨hcount,hmem⟩:=Pl.lines_count 100000 s.data.toList (by rw[Pl.len_list];exact hs)
 rw[Pl.len_list] at hcount
 obtain⟨ls,hls⟩:∃ls,Pl.lines s.data.toList=ls:=⟨_,rfl⟩
 obtain⟨D,hD⟩:∃D,Pl.dt ls=D:=⟨_,rfl⟩
 have hB:bodyL s 0=D:=by unfold bodyL;rw[if_neg (by decide),hls,hD]
 have HRne:Hid (¬D=[]→Pl.ends D=R):=show _→_ from fun h=>by rw[← hR,canonB,hB,if_neg (fun e=>h e.1)]
 have HRnil:Hid (D=[]→([13,10]:List UInt8)=R):=show _→_ from fun h=>by rw[← hR,canonB,hB,if_pos ⟨h,rfl⟩]
 rw[hR]
 rw[hls] at hL hcount hmem
 have Hmem:Hid (∀x ∈ ls,x.length≤100000):=hmem
 have Hd:Hid (Pl.dt ls=D):=hD
 clear hls hmem hR hB hD
 obtain⟨L,hLen⟩:∃L,ls.length=L:=⟨_,rfl⟩
 rw[hLen] at hcount
 go_enter Tryz.func17,Tryz.ntmps17
 go_wp2_with fail
 refine(hT _).mono ?_
 rintro e w1 ⟨rfl,rfl⟩
 go_wp2_with fail
 refine(hF _).mono ?_
 rintro e w1 ⟨rfl,rfl⟩
 go_wp2_with fail
 refine hL.mono ?_
 rintro e w1 ⟨v1,rfl,hown1,hb1⟩
 clear hT hF hm
 rcases hown1.form with ⟨rfl,hnil⟩|⟨g,cap,rfl,hg,hg2,hgl⟩
 ·skip
  have hDn:D=[]:=by rw[← Hd.out,hnil];rfl
  have HRz2:Hid (([13,10]:List UInt8)=R):=HRnil.out hDn
  have Hb1:Hid (Below w.heap.size w w1):=hb1
  clear hDn hL hown1 hb1 hnil HRnil HRne
  go_wp2
  go_loopw [5] (fun v wr=>v=.slice none 0 0∧wr=w1) (fun _ _=>0)
  case atStart=>exact⟨rfl,rfl⟩
  case round=>
   obtain⟨rfl,rfl⟩:=hrel
   go_wp2
   go_ret
   exact⟨by rw[← HRz2.out];rfl,Hb1.out⟩
 ·rw[hLen] at hown1 hgl ⊢
  obtain⟨V0,hV0⟩:∃V0,V0=w1:=⟨_,rfl⟩
  subst hV0
  have Hown:Hid (OwnS w.heap.size (.slice (some ⟨g,0,none⟩) L cap) ls V0):=hown1
  have Hb1:Hid (Below w.heap.size w V0):=hb1
  clear hL hown1 hb1
  go_wp2
  go_loopw [5] (fun v wr=>∃ k:Nat,k≤L∧v=.slice (some ⟨g,0,none⟩) k cap∧Hid (Pl.dt (ls.take k)=D)∧wr=V0) (fun v _=>lenOf v)
  case atStart=>exact⟨L,Nat.le_refl _,rfl,(by show _=_;rw[List.take_of_length_le (by omega)];exact Hd.out),rfl⟩
  case round=>
   obtain⟨k,hk,rfl,hp,rfl⟩:=hrel
   by_cases h0:0<k
   ·obtain⟨j,hkj⟩:∃j,k=j+1:=⟨k-1,by omega⟩
    have hj:j<ls.length:=by omega
    have hc:wr.cell? ⟨g,j,none⟩=some (.string ⟨ls[j].toArray⟩):=OwnS.cell Hown.out j hj
    have hidx:(k:Int)-1=(j:Int):=by omega
    have hjL:j<L:=by omega
    have hjk:j<k∧k≤j+1:=by omega
    have hjc:j≤cap:=by omega
    rw[hkj] at hp
    have HKJ:Hid (k=j+1):=hkj
    clear hkj
    cases he:ls[j].isEmpty
    ·have HD:Hid (ls.take (j+1)=D):=by
      show _=_
      rw[← hp.out,Pl.dt_stop ls j hj he]
     rw[← HKJ.out] at HD
     have HX:Hid (([]:List UInt8)++Pl.ends ((ls.take k).drop 0)=R):=by
      show _=_
      have hne:¬(D=[]):=by
       rw[← HD.out]
       intro e
       have hl:=congrArg List.length e
       rw[List.length_take,List.length_nil] at hl
       omega
      rw[List.drop_zero,HD.out,List.nil_append]
      exact HRne.out hne
     have het:(⟨ls[j].toArray⟩:ByteArray).toList.isEmpty=false:=by rw[ByteArray.toList_eq];exact he
     have hn0:((k:Int)==0)=false:=beq_eq_false_iff_ne.2 (by omega)
     clear hp he HD
     generalize (⟨ls[j].toArray⟩:ByteArray)=tj at hc het
     obtain⟨V,hV⟩:∃V,V=wr:=⟨_,rfl⟩
     subst hV
     go_wp2
     go_loopw [8,10,62] (fun u _ i wr=>∃ (m:Nat) (p:List UInt8),m≤k∧i=.int .i64 m∧p.length≤100002*m∧Hid (p++Pl.ends ((ls.take k).drop m)=R)∧Hid (Own V.heap.size u p wr)∧Hid (Below V.heap.size V wr)) (fun _ _ i _=>k-(Lib.intOf i).toNat)
     case atStart=>exact⟨0,[],Nat.zero_le _,rfl,by simp,HX,Own.nil _ _,Below.refl _ _⟩
     case round=>
      clear HX
      obtain⟨m,p,hm,rfl,hpl,HX,HO,HB⟩:=hrel
      by_cases hmj:m<k
      ·have hml:m<(ls.take k).length:=by rw[List.length_take];omega
       have hel:(ls.take k)[m]=ls[m]'(by omega):=List.getElem_take
       have HX2:=Pl.ends_step (ls.take k) p R m hml HX
       rw[hel] at HX2
       have hcm:wr.cell? ⟨g,m,none⟩=some (.string ⟨(ls[m]'(by omega)).toArray⟩):=(HB.out.cell (World.block_lt_of_cell? _ _ (OwnS.cell Hown.out m (by omega)))).trans (OwnS.cell Hown.out m (by omega))
       have hsz:(ls[m]'(by omega)).length≤100000:=Hmem.out _ (List.getElem_mem _)
       have hsz2:(⟨(ls[m]'(by omega)).toArray⟩:ByteArray).size≤100000:=by show(ls[m]'(by omega)).toArray.size≤_;rw[List.size_toArray];exact hsz
       have HD2:Hid ((⟨(ls[m]'(by omega)).toArray⟩:ByteArray).data.toList=ls[m]'(by omega)):=show _=_ from rfl
       have hown2:=HO.out
       clear HX hel
       generalize (⟨(ls[m]'(by omega)).toArray⟩:ByteArray)=tm at *
       generalize ls[m]'(by omega)=lm at HX2 HD2 hsz
       go_wp2_with (at_builtin;go_must (first
        | (refine wp_apps (W:=V) rfl _ _ 22 9 rfl i0 Tryz.underlying22 Tryz.underlying9 hi hy0 hy1 hy2 V.heap.size v' (p++tm.data.toList) rfl hown' ⟨#[13,10]⟩ rfl (by rw[List.length_append,Pl.len_list];show _+_+2≤_;omega) (Nat.le_refl _) hb' ?_;intro v3 w3 hown3 hb3)
        | (refine wp_apps (W:=V) rfl _ _ 22 9 rfl i0 Tryz.underlying22 Tryz.underlying9 hi hy0 hy1 hy2 V.heap.size u8 p rfl hown2 tm rfl (by omega) (Nat.le_refl _) HB.out ?_;intro v' w' hown' hb')))
       rw[HD2.out] at hown3
       go_roundw
       case rel=>exact⟨m+1,_,by omega,by go_num,(by rw[List.length_append,List.length_append];show _+_+2≤_;omega),HX2,hown3,hb3⟩
       case measure=>simp[Lib.intOf];omega
      ·have hpR:p=R:=by
        rw[← HX.out,List.drop_eq_nil_of_le (by rw[List.length_take];omega)]
        simp[Pl.ends]
       have HpR:Hid (p=R):=hpR
       have hbk:=HO.out.back (P:=Tryz.prog) 22 9 Tryz.underlying22 Tryz.underlying5 Tryz.underlying9
       have hbe:=Hb1.out.trans (HB.out.mono Hb1.out.size)
       clear HX hpR HB HO
       go_wp2
       go_ret
       exact⟨by rw[← HpR.out];rfl,hbe⟩
    ·have HN:Hid (Pl.dt (ls.take j)=D):=by
      show _=_
      rw[Pl.dt_step ls j hj he];exact hp.out
     have het:(⟨ls[j].toArray⟩:ByteArray).toList.isEmpty=true:=by rw[ByteArray.toList_eq];exact he
     clear hp he
     generalize (⟨ls[j].toArray⟩:ByteArray)=tj at hc het
     go_wp2
     go_roundw
     case rel=>exact⟨j,by omega,rfl,HN,trivial⟩
     case measure=>simp[lenOf];omega
   ·obtain rfl:k=0:=by omega
    have HZ:Hid (D=[]):=by
     show _=_
     rw[← hp.out,List.take_zero];rfl
    have HRz2:Hid (([13,10]:List UInt8)=R):=HRnil.out HZ.out
    clear hp HZ h0
    go_wp2
    go_ret
    exact⟨by rw[← HRz2.out];rfl,Hb1.out⟩
set_option maxRecDepth 10000 in
theorem implCanonBody1 (s:ByteArray)(m:Int)(w:World)(hs:s.size≤100000)(hm:w.cell? ⟨0,0,none⟩=some (.int .i64 m)) :
  Calls Tryz.prog 17 #[.string s,.int .i64 1] w fun e w'=>e=.returned (.string ⟨(canonB s 1).toArray⟩)∧Below w.heap.size w w':=by
 obtain⟨i0,hi,hy0,hy1,hy2⟩:=info_parts Tryz.info5
 have hT:=fun w=>implTooLong s w (by omega)
 have hd:decide ((100000:Int)<(s.size:Int))=false:=decide_eq_false (by omega)
 rw[hd] at hT
 have hF:=fun w=>implIsFormB 1 w
 rw[show isForm 1=true from rfl] at hF
 have hL:=implLines s m w (by omega) hm
 obtain⟨R,hR⟩:∃R,canonB s 1=R:=⟨_,rfl⟩
 obtain⟨hcount,hmem⟩:=Pl.lines_count 100000 s.data.toList (by rw[Pl.len_list];exact hs)
 rw[Pl.len_list] at hcount
 obtain⟨l0,hls⟩:∃ls,Pl.lines s.data.toList=ls:=⟨_,rfl⟩
 obtain⟨ls,hlm⟩:∃ls,l0.map Pl.runs=ls:=⟨_,rfl⟩
 obtain⟨D,hD⟩:∃D,Pl.dt ls=D:=⟨_,rfl⟩
 have hB:bodyL s 1=D:=by unfold bodyL;rw[if_pos rfl,hls,hlm,hD]
 have HRne:Hid (¬D=[]→Pl.ends D=R):=show _→_ from fun h=>by rw[← hR,canonB,hB,if_neg (fun e=>h e.1)]
 have HRnil:Hid (D=[]→([]:List UInt8)=R):=show _→_ from fun h=>by rw[← hR,canonB,hB,if_neg (fun e=>by have:=e.2;omega),h];rfl
 rw[hR]
 rw[hls] at hL hcount hmem
 have Hmem0:Hid (∀x ∈ l0,x.length≤100000):=hmem
 have Hmem:Hid (∀x ∈ ls,x.length≤100000):=by
  intro x hx
  rw[← hlm] at hx
  obtain⟨y,hy,rfl⟩:=List.mem_map.1 hx
  exact Nat.le_trans (Pl.runs_len y) (hmem y hy)
 have Hd:Hid (Pl.dt ls=D):=hD
 have Hlm:Hid (l0.map Pl.runs=ls):=hlm
 clear hls hmem hR hB hD hlm
 obtain⟨L,hLen0⟩:∃L,l0.length=L:=⟨_,rfl⟩
 have hLen:ls.length=L:=by rw[← Hlm.out,List.length_map];exact hLen0
 rw[hLen0] at hcount
 go_enter Tryz.func17,Tryz.ntmps17
 go_wp2_with fail
 refine(hT _).mono ?_
 rintro e w1 ⟨rfl,rfl⟩
 go_wp2_with fail
 refine(hF _).mono ?_
 rintro e w1 ⟨rfl,rfl⟩
 go_wp2_with fail
 refine hL.mono ?_
 rintro e w1 ⟨v1,rfl,hown1,hb1⟩
 clear hT hF hm
 rcases hown1.form with ⟨rfl,hnil⟩|⟨g,cap,rfl,hg,hg2,hgl⟩
 ·skip
  have hDn:D=[]:=by rw[← Hd.out,← Hlm.out,hnil];rfl
  have HRz2:Hid (([]:List UInt8)=R):=HRnil.out hDn
  have Hb1:Hid (Below w.heap.size w w1):=hb1
  clear hDn hL hown1 hb1 hnil HRnil HRne
  go_wp2
  go_loopw [6,7,24] (fun _ _ i wr=>i=.int .i64 0∧wr=w1) (fun _ _ _ _=>0)
  case atStart=>exact⟨rfl,rfl⟩
  case round=>
   obtain⟨rfl,rfl⟩:=hrel
   obtain⟨U,hU⟩:∃U,U=wr:=⟨_,rfl⟩
   subst hU
   go_wp2
   go_loopw [5] (fun v wr=>v=.slice none 0 0∧wr=U) (fun _ _=>0)
   case atStart=>exact⟨rfl,rfl⟩
   case round=>
    obtain⟨rfl,rfl⟩:=hrel
    obtain⟨V,hV⟩:∃V,V=wr:=⟨_,rfl⟩
    subst hV
    go_wp2
    go_loopw [8,10,62] (fun u _ i wr=>i=.int .i64 0∧u=.slice none 0 0∧wr=V) (fun _ _ _ _=>0)
    case atStart=>exact⟨rfl,rfl,rfl⟩
    case round=>
     obtain⟨rfl,rfl,rfl⟩:=hrel
     have hbk:=(Own.nil 0 wr).back (P:=Tryz.prog) 22 9 Tryz.underlying22 Tryz.underlying5 Tryz.underlying9
     go_wp2
     go_ret
     exact⟨by rw[← HRz2.out];rfl,Hb1.out⟩
 ·rw[hLen0] at hown1 hgl ⊢
  have Hown0:Hid (OwnS w.heap.size (.slice (some ⟨g,0,none⟩) L cap) ((l0.take 0).map Pl.runs++l0.drop 0) w1):=show OwnS _ _ _ _ from by simpa using hown1
  have Hb0:Hid (Below w.heap.size w w1):=hb1
  clear hL hown1 hb1
  go_wp2
  go_loopw [6,7,24] (fun _ _ i wr=>∃ k:Nat,k≤L∧i=.int .i64 k∧Hid (OwnS w.heap.size (.slice (some ⟨g,0,none⟩) L cap) ((l0.take k).map Pl.runs++l0.drop k) wr)∧Hid (Below w.heap.size w wr)) (fun _ _ i _=>L-(Lib.intOf i).toNat)
  case atStart=>exact⟨0,Nat.zero_le _,rfl,Hown0,Hb0⟩
  case round=>
   clear Hown0 Hb0
   obtain⟨k,hk,rfl,HO,HB⟩:=hrel
   by_cases hlt:k<L
   ·have hk0:k<l0.length:=by omega
    have hc:=OwnS.cell HO.out k (by simp;omega)
    rw[mid_get l0 k hk0] at hc
    have hc2:wr.cell? ⟨g,k,none⟩=some (.string ⟨l0[k].toArray⟩):=hc
    have hsz:(⟨l0[k].toArray⟩:ByteArray).size≤100000:=by show l0[k].toArray.size≤_;rw[List.size_toArray];exact Hmem0.out _ (List.getElem_mem _)
    have hRu:∀w:World,Calls Tryz.prog 60 #[.string ⟨l0[k].toArray⟩] w fun e w'=>e=.returned (.string ⟨(Pl.rn false l0[k]).toArray⟩)∧Below w.heap.size w w':=fun w=>implOneSpaced ⟨l0[k].toArray⟩ w hsz
    have hln:(Pl.rn false l0[k]).length≤100000:=Nat.le_trans (Pl.rn_len _ _) (Hmem0.out _ (List.getElem_mem _))
    have hTr:∀w:World,Calls Tryz.prog 59 #[.string ⟨(Pl.rn false l0[k]).toArray⟩,.string ⟨#[32]⟩] w fun e w'=>e=.returned (.string ⟨(Pl.runs l0[k]).toArray⟩)∧w=w':=fun w=>(Tryz.strings_TrimSuffix ⟨(Pl.rn false l0[k]).toArray⟩ ⟨#[32]⟩ w (by show(Pl.rn false l0[k]).toArray.size≤_;rw[List.size_toArray];omega)).mono fun e w' ⟨he,hw⟩=>⟨by rw[he,Pl.runs,← trim_bare],hw.symm⟩
    have HS:=(show Hid _ from mid_set l0 k hk0)
    clear hc
    generalize (⟨l0[k].toArray⟩:ByteArray)=tk at hc2 hsz hRu
    generalize Pl.rn false l0[k]=rk at hRu hTr hln
    generalize l0[k]=lk at hTr HS
    go_wp2_with fail
    refine(hRu _).mono ?_
    rintro e w2 ⟨rfl,hb2⟩
    have HO2:Hid (OwnS w.heap.size (.slice (some ⟨g,0,none⟩) L cap) ((l0.take k).map Pl.runs++l0.drop k) w2):=OwnS.keep HO.out (Nat.le_refl _) hb2
    have hfr:=OwnS.free HO2.out k
    have hc3:=(hb2.cell (World.block_lt_of_cell? _ _ hc2)).trans hc2
    have HO3:Hid (OwnS w.heap.size (.slice (some ⟨g,0,none⟩) L cap) ((l0.take (k+1)).map Pl.runs++l0.drop (k+1)) (w2.setCell ⟨g,k,none⟩ (.string ⟨(Pl.runs lk).toArray⟩))):=by
     have:=OwnS.stored HO2.out (by simp;omega) k (Pl.runs lk)
     rw[HS.out] at this
     exact this
    have HB3:Hid (Below w.heap.size w (w2.setCell ⟨g,k,none⟩ (.string ⟨(Pl.runs lk).toArray⟩))):=(HB.out.trans (hb2.mono HB.out.size)).setCell hg _
    clear HO HO2 hRu HS hb2 HB
    go_wp2_with fail
    refine(hTr _).mono ?_
    rintro e w3 ⟨rfl,rfl⟩
    clear hTr
    go_wp2
    go_roundw
    case rel=>exact⟨k+1,by omega,by go_num,HO3,HB3⟩
    case measure=>simp[Lib.intOf];omega
   ·obtain⟨V0,hV0⟩:∃V0,V0=wr:=⟨_,rfl⟩
    subst hV0
    have Hown:Hid (OwnS w.heap.size (.slice (some ⟨g,0,none⟩) L cap) ls V0):=by
     have:=HO.out
     rw[List.take_of_length_le (by omega),List.drop_eq_nil_of_le (by omega),List.append_nil,Hlm.out] at this
     exact this
    have Hb1:Hid (Below w.heap.size w V0):=HB.out
    clear HO HB
    go_wp2
    go_loopw [5] (fun v wr=>∃ k:Nat,k≤L∧v=.slice (some ⟨g,0,none⟩) k cap∧Hid (Pl.dt (ls.take k)=D)∧wr=V0) (fun v _=>lenOf v)
    case atStart=>exact⟨L,Nat.le_refl _,rfl,(by show _=_;rw[List.take_of_length_le (by omega)];exact Hd.out),rfl⟩
    case round=>
     obtain⟨k,hk,rfl,hp,rfl⟩:=hrel
     by_cases h0:0<k
     ·obtain⟨j,hkj⟩:∃j,k=j+1:=⟨k-1,by omega⟩
      have hj:j<ls.length:=by omega
      have hc:wr.cell? ⟨g,j,none⟩=some (.string ⟨ls[j].toArray⟩):=OwnS.cell Hown.out j hj
      have hidx:(k:Int)-1=(j:Int):=by omega
      have hjL:j<L:=by omega
      have hjk:j<k∧k≤j+1:=by omega
      have hjc:j≤cap:=by omega
      rw[hkj] at hp
      have HKJ:Hid (k=j+1):=hkj
      clear hkj
      cases he:ls[j].isEmpty
      ·have HD:Hid (ls.take (j+1)=D):=by
        show _=_
        rw[← hp.out,Pl.dt_stop ls j hj he]
       rw[← HKJ.out] at HD
       have HX:Hid (([]:List UInt8)++Pl.ends ((ls.take k).drop 0)=R):=by
        show _=_
        have hne:¬(D=[]):=by
         rw[← HD.out]
         intro e
         have hl:=congrArg List.length e
         rw[List.length_take,List.length_nil] at hl
         omega
        rw[List.drop_zero,HD.out,List.nil_append]
        exact HRne.out hne
       have het:(⟨ls[j].toArray⟩:ByteArray).toList.isEmpty=false:=by rw[ByteArray.toList_eq];exact he
       have hn0:((k:Int)==0)=false:=beq_eq_false_iff_ne.2 (by omega)
       clear hp he HD
       generalize (⟨ls[j].toArray⟩:ByteArray)=tj at hc het
       obtain⟨V,hV⟩:∃V,V=wr:=⟨_,rfl⟩
       subst hV
       go_wp2
       go_loopw [8,10,62] (fun u _ i wr=>∃ (m:Nat) (p:List UInt8),m≤k∧i=.int .i64 m∧p.length≤100002*m∧Hid (p++Pl.ends ((ls.take k).drop m)=R)∧Hid (Own V.heap.size u p wr)∧Hid (Below V.heap.size V wr)) (fun _ _ i _=>k-(Lib.intOf i).toNat)
       case atStart=>exact⟨0,[],Nat.zero_le _,rfl,by simp,HX,Own.nil _ _,Below.refl _ _⟩
       case round=>
        clear HX
        obtain⟨m,p,hm,rfl,hpl,HX,HO,HB⟩:=hrel
        by_cases hmj:m<k
        ·have hml:m<(ls.take k).length:=by rw[List.length_take];omega
         have hel:(ls.take k)[m]=ls[m]'(by omega):=List.getElem_take
         have HX2:=Pl.ends_step (ls.take k) p R m hml HX
         rw[hel] at HX2
         have hcm:wr.cell? ⟨g,m,none⟩=some (.string ⟨(ls[m]'(by omega)).toArray⟩):=(HB.out.cell (World.block_lt_of_cell? _ _ (OwnS.cell Hown.out m (by omega)))).trans (OwnS.cell Hown.out m (by omega))
         have hsz:(ls[m]'(by omega)).length≤100000:=Hmem.out _ (List.getElem_mem _)
         have hsz2:(⟨(ls[m]'(by omega)).toArray⟩:ByteArray).size≤100000:=by show(ls[m]'(by omega)).toArray.size≤_;rw[List.size_toArray];exact hsz
         have HD2:Hid ((⟨(ls[m]'(by omega)).toArray⟩:ByteArray).data.toList=ls[m]'(by omega)):=show _=_ from rfl
         have hown2:=HO.out
         clear HX hel
         generalize (⟨(ls[m]'(by omega)).toArray⟩:ByteArray)=tm at *
         generalize ls[m]'(by omega)=lm at HX2 HD2 hsz
         go_wp2_with (at_builtin;go_must (first
          | (refine wp_apps (W:=V) rfl _ _ 22 9 rfl i0 Tryz.underlying22 Tryz.underlying9 hi hy0 hy1 hy2 V.heap.size v' (p++tm.data.toList) rfl hown' ⟨#[13,10]⟩ rfl (by rw[List.length_append,Pl.len_list];show _+_+2≤_;omega) (Nat.le_refl _) hb' ?_;intro v3 w3 hown3 hb3)
          | (refine wp_apps (W:=V) rfl _ _ 22 9 rfl i0 Tryz.underlying22 Tryz.underlying9 hi hy0 hy1 hy2 V.heap.size u8 p rfl hown2 tm rfl (by omega) (Nat.le_refl _) HB.out ?_;intro v' w' hown' hb')))
         rw[HD2.out] at hown3
         go_roundw
         case rel=>exact⟨m+1,_,by omega,by go_num,(by rw[List.length_append,List.length_append];show _+_+2≤_;omega),HX2,hown3,hb3⟩
         case measure=>simp[Lib.intOf];omega
        ·have hpR:p=R:=by
          rw[← HX.out,List.drop_eq_nil_of_le (by rw[List.length_take];omega)]
          simp[Pl.ends]
         have HpR:Hid (p=R):=hpR
         have hbk:=HO.out.back (P:=Tryz.prog) 22 9 Tryz.underlying22 Tryz.underlying5 Tryz.underlying9
         have hbe:=Hb1.out.trans (HB.out.mono Hb1.out.size)
         clear HX hpR HB HO
         go_wp2
         go_ret
         exact⟨by rw[← HpR.out];rfl,hbe⟩
      ·have HN:Hid (Pl.dt (ls.take j)=D):=by
        show _=_
        rw[Pl.dt_step ls j hj he];exact hp.out
       have het:(⟨ls[j].toArray⟩:ByteArray).toList.isEmpty=true:=by rw[ByteArray.toList_eq];exact he
       clear hp he
       generalize (⟨ls[j].toArray⟩:ByteArray)=tj at hc het
       go_wp2
       go_roundw
       case rel=>exact⟨j,by omega,rfl,HN,trivial⟩
       case measure=>simp[lenOf];omega
     ·obtain rfl:k=0:=by omega
      have HZ:Hid (D=[]):=by
       show _=_
       rw[← hp.out,List.take_zero];rfl
      have HX:Hid (([]:List UInt8)++Pl.ends ((ls.take 0).drop 0)=R):=by
       show _=_
       rw[List.take_zero]
       exact HRnil.out HZ.out
      have hk:(0:Nat)≤L:=Nat.zero_le _
      clear hp HZ h0
      obtain⟨k,hk0⟩:∃k:Nat,k=0:=⟨_,rfl⟩
      obtain⟨V,hV⟩:∃V,V=wr:=⟨_,rfl⟩
      subst hV
      go_wp2
      go_loopw [8,10,62] (fun u _ i wr=>i=.int .i64 0∧u=.slice none 0 0∧wr=V) (fun _ _ _ _=>0)
      case atStart=>exact⟨rfl,rfl,rfl⟩
      case round=>
       obtain⟨rfl,rfl,rfl⟩:=hrel
       have hbk:=(Own.nil 0 wr).back (P:=Tryz.prog) 22 9 Tryz.underlying22 Tryz.underlying5 Tryz.underlying9
       go_wp2
       go_ret
       exact⟨by rw[← HX.out];rfl,Hb1.out⟩
theorem implCanonBody (s:ByteArray)(x m:Int)(w:World)(hs:s.size≤1100000)(hm:w.cell? ⟨0,0,none⟩=some (.int .i64 m)) :
  Calls Tryz.prog 17 #[.string s,.int .i64 x] w fun e w'=>e=.returned (.string (canonAny s x))∧Below w.heap.size w w':=by
 unfold canonAny
 by_cases h:100000<s.size∨(¬x=0∧¬x=1)
 ·rw[if_pos h];exact implCanonNo s x w hs h
 ·rw[if_neg h]
  have hx:x=0∨x=1:=by omega
  rcases hx with rfl|rfl
  ·exact implCanonBody0 s m w (by omega) hm
  ·exact implCanonBody1 s m w (by omega) hm
end Go.Proofs.YtacaoiedcfelcaaGreatDoor
