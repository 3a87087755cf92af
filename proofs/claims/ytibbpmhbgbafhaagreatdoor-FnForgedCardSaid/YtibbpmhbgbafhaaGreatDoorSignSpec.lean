import Derived.Test.YtibbpmhbgbafhaaGreatDoorOneImpl
import Derived.Test.YtibbpmhbgbafhaaGreatDoorTextSpec
import Derived.Deep.OwnRows
import Derived.Lib.QuietBelow
import Derived.BigQuiet
import Derived.Test.YtibbpmhbgbafhaaGreatDoorFrontImpl
set_option maxRecDepth 20000
set_option maxHeartbeats 4000000
namespace Go.Proofs.YtibbpmhbgbafhaaGreatDoor
open Go.RowKit Go.Lib
theorem rowIs_keepS {g n:Nat} {t:TypeId} {f:Nat→Value} {w w':World} (h:w.rowIs g t n f)(hb:Below w.heap.size w w'):w'.rowIs g t n f:=h.of_block (hb.block g h.lt)
theorem Tryz.infoBl:(Tryz.prog.info? 4).map (fun i=>(i.zero,i.size,i.bytes))=some (some (.bool false),1,1):=by kernel_rfl
def mkAt (Z:List (Fd × Bool))(j:Nat):Bool:=(Z[j]?.map (·.2)).getD false
theorem named_size (n m:ByteArray)(h:¬n.size=m.size):namedB n m=false:=by
 unfold namedB
 rw[beq_eq_false_iff_ne]
 intro e
 have:=congrArg List.length e
 simp[lower] at this
 exact h this
theorem un_at (p:Fd→Bool)(Z:List (Fd × Bool))(k:Nat)(hk:k<Z.length):unAt p Z k=(!mkAt Z k && p Z[k].1):=by
 unfold unAt mkAt
 rw[List.getElem?_eq_getElem hk]
 rfl
theorem mk_set (Z:List (Fd × Bool))(k:Nat)(hk:k<Z.length)(f:Fd)(j:Nat):mkAt (Z.set k (f,true)) j=if j=k then true else mkAt Z j:=by
 unfold mkAt
 rw[List.getElem?_set]
 by_cases e:k=j
 ·subst e;simp[hk]
 ·rw[if_neg e,if_neg (fun h=>e h.symm)]
theorem fst_set (Z:List (Fd × Bool))(F:List Fd)(k:Nat)(hk:k<Z.length)(h:Z.map (·.1)=F):(Z.set k (Z[k].1,true)).map (·.1)=F:=by
 subst h
 apply List.ext_getElem
 ·simp
 ·intro j h1 h2
  simp only[List.getElem_map,List.getElem_set]
  split
  ·rename_i e;subst e;rfl
  ·rfl
abbrev bxSg (d s:ByteArray)(A B:Int)(v:Value)(h b:Int):Obj:=.cells #[.string d,.string s,.int .i64 A,.int .i64 B,v,.int .i64 h,.int .i64 b] 27
theorem specText (d s:ByteArray)(A B h b:Int)(on:Option Addr)(M:List ByteArray)(capn:Nat)(fo:Option Addr)(F:List Fd)(capf:Nat)(v p:ByteArray)(w:World)
  (hM:Tx w.heap.size w on M) (hml:M.length≤30) (hmz:∀t ∈ M,t.size≤70) (hF:Fld w.heap.size w fo F) (hfl:F.length≤200) (hfz:∀f ∈ F,f.1.size≤100000∧f.2.size≤100000)
  (hfs:fsum F≤100002) (hv:v.size≤4000) (hp:canonF sgName v h=p++⟨#[13,10]⟩) (hps:p.size≤5000) :
  Calls Tryz.prog 17 #[sgV d s A B (.slice on M.length capn) h b,.slice fo F.length capf,.string v] w fun e w'=>e=.returned (.string (⟨(tkL h M F).toArray⟩++p))∧Below w.heap.size w w':=by
 obtain⟨R,hR⟩:∃R,tkL h M F=R:=⟨_,rfl⟩
 have hRl:R.length≤100002:=by rw[← hR];exact Nat.le_trans (tkL_len h M F) hfs
 have HR0:Hid ([]++tkZ h (M.drop 0) (F.map fun f=>(f,false))=R):=by
  show _=_
  rw[List.nil_append,List.drop_zero,tk_eq,keep_new]
  exact hR
 have cO:=mkHid (fun w'=>specCanonField sgName v h w' (by show 9≤1048576;omega) (by omega))
 rw[hp] at cO
 rw[hR]
 have HRl:=mkHid hRl
 have hpz:(p++(⟨#[13,10]⟩:ByteArray)).size=p.size+2:=by rw[ByteArray.size_append];rfl
 have hpx:(p++(⟨#[13,10]⟩:ByteArray)).extract 0 p.size=p:=by
  have:=own_cut p
  rw[hpz] at this
  simpa using this
 have HM:=mkHid hM
 have HF:=mkHid hF
 have Hmz:=mkHid hmz
 have Hfz:=mkHid hfz
 clear hR hRl hp hM hF hmz hfz hfs
 have hmk:=run_make_row' (P:=Tryz.prog) 81 4 (.bool false) 1 Tryz.underlying81 Tryz.infoBl rfl .i64 .i64 F.length (by omega) (by omega)
 obtain⟨w1,hw1⟩:∃w1,w1=w.alloc (bxSg d s A B (.slice on M.length capn) h b):=⟨_,rfl⟩
 have hs1:w1.heap.size=w.heap.size+1:=by rw[hw1];simp
 have hbw1:Below w.heap.size w w1:=by rw[hw1];exact(Below.refl _ _).alloc (Nat.le_refl _) _
 have e4:w1.cell? ⟨w.heap.size,4,none⟩=some (.slice on M.length capn):=by rw[hw1];simp
 have e5:w1.cell? ⟨w.heap.size,5,none⟩=some (.int .i64 h):=by rw[hw1];simp
 have HW1:=mkHid hw1
 clear hw1
 go_enter Tryz.func17,Tryz.ntmps17
 go_wp2
 clear hmk
 generalize hg:w.heap.size=g at *
 have Hg:=mkHid hg
 clear hg
 have hbw1H:=mkHid hbw1
 clear hbw1
 go_loopw [8,9] (fun ov iv wr=>∃ (i:Nat) (O:ByteArray) (Z:List (Fd × Bool)),i≤M.length∧ov=.string O∧iv=.int .i64 i∧Hid (Z.map (·.1)=F)∧Hid (O.data.toList++tkZ h (M.drop i) Z=R)∧Hid (wr.rowIs (g+1) 4 F.length (fun j=>.bool (mkAt Z j)))∧Hid (Below (g+1) w1 wr)) (fun _ iv _=>M.length-(Lib.intOf iv).toNat)
 case atStart=>
  refine⟨0,⟨#[]⟩,F.map fun f=>(f,false),Nat.zero_le _,rfl,rfl,?_,HR0,?_,?_⟩
  ·show List.map _ (List.map _ F)=F
   rw[List.map_map]
   exact(List.map_congr_left fun _ _=>rfl).trans (List.map_id F)
  ·have:=World.rowIs_made w1 (.bool false) F.length 4
   rw[hs1,HW1.out] at this
   refine World.rowIs.congr this fun j hj=>?_
   unfold mkAt
   simp[hj]
  ·have:=(Below.refl (g+1) w1).alloc (Nat.le_of_eq hs1.symm) (.cells (madeCells #[.bool false] F.length) 4)
   rw[HW1.out] at this ⊢
   exact this
 case round=>
  clear HR0
  obtain⟨i,O,Z,hi,rfl,rfl,hZ,hp,hrow,hB⟩:=hrel
  have c4:=(hB.out.cell (p:=⟨g,4,none⟩) (Nat.lt_succ_self g)).trans e4
  have c5:=(hB.out.cell (p:=⟨g,5,none⟩) (Nat.lt_succ_self g)).trans e5
  have hZl:Hid (Z.length=F.length):=by show _=_;rw[← hZ.out,List.length_map]
  have hOl:O.size≤100002:=by
   have:=congrArg List.length hp.out
   rw[List.length_append] at this
   have e:O.data.toList.length=O.size:=by simp
   have:=HRl.out
   omega
  by_cases hlt:i<M.length
  ·obtain⟨a,rfl,ha,hn0⟩:=HM.out i hlt
   obtain⟨m,hm⟩:∃m,M[i]=m:=⟨_,rfl⟩
   have hms:m.size≤70:=hm ▸ Hmz.out _ (List.getElem_mem hlt)
   have hpm:Hid (O.data.toList++tkZ h (m::M.drop (i+1)) Z=R):=by
    show _=_
    rw[← hp.out,List.drop_eq_getElem_cons hlt,hm]
   rw[hm] at hn0
   have Hn0:=mkHid hn0
   have hbr0:=mkHid (hbw1H.out.trans (hB.out.mono (Nat.le_succ g)))
   clear hm hp hn0
   go_wp2
   go_loopw [8,10] (fun ov kv wq=>∃ k:Nat,k≤F.length∧ov=.string O∧kv=.int .i64 ((k:Int)-1)∧Hid (lastTo (unAt (nmF m) Z) k=lastTo (unAt (nmF m) Z) Z.length)∧Hid (wq.rowIs (g+1) 4 F.length (fun j=>.bool (mkAt Z j)))∧Hid (Below (g+1) w1 wq)) (fun _ kv _=>(Lib.intOf kv+1).toNat)
   case atStart=>
    refine⟨F.length,Nat.le_refl _,rfl,by go_num,?_,hrow,hB⟩
    show _=_
    rw[hZl.out]
   case round=>
    clear hrow hB c4 c5 hbr0
    obtain⟨k,hk,rfl,rfl,hq,hrow,hB⟩:=hrel
    cases k with
    | zero=>
     have hnx:Hid (O.data.toList++tkZ h (M.drop (i+1)) Z=R):=by
      show _=_
      rw[← hpm.out,tkZ_none _ _ _ _ hq.out.symm]
     clear hq hpm
     go_wp2
     go_roundw
     case rel=>exact⟨i+1,O,Z,by omega,rfl,by go_num,hZ,hnx,hrow,hB⟩
     case measure=>simp[Lib.intOf];omega
    | succ k=>
     have hkF:k<F.length:=by omega
     have hkZ:k<Z.length:=by rw[hZl.out];exact hkF
     have hfk:Hid (Z[k].1=F[k]):=by
      show _=_
      have:=hZ.out
      subst this
      simp
     have hbq:=hbw1H.out.trans (hB.out.mono (Nat.le_succ g))
     obtain⟨af,rfl,haf,p0,p1⟩:=(HF.out.below hbq) k hkF
     have q4:=(hB.out.cell (p:=⟨g,4,none⟩) (Nat.lt_succ_self g)).trans e4
     have q5:=(hB.out.cell (p:=⟨g,5,none⟩) (Nat.lt_succ_self g)).trans e5
     have qn:=(hbq.cell (p:=a.add i) (by rw[add_block];exact ha)).trans Hn0.out
     have q7:=hrow.out.cell hkF
     have hfs:=Hfz.out F[k] (List.getElem_mem hkF)
     have hstep:Hid (lastTo (unAt (nmF m) Z) (k+1)=if (!mkAt Z k && namedB F[k].1 m) then some k else lastTo (unAt (nmF m) Z) k):=by
      show _=_
      rw[lastTo,un_at _ _ _ hkZ,hfk.out]
      rfl
     have k0:=cell_regrown p0
     have k4:=cell_regrown q4
     have kn:=cell_regrown qn
     have k7:=cell_regrown q7
     have e1:((k+1:Nat):Int)-1=(k:Int):=by omega
     rw[e1]
     obtain⟨fn,hfn⟩:∃fn,F[k].1=fn:=⟨_,rfl⟩
     obtain⟨fv,hfv⟩:∃fv,F[k].2=fv:=⟨_,rfl⟩
     rw[hfn] at k0 hfs hstep p0
     rw[hfv] at hfs p1
     have hsz1:=hfs.1
     have hsz2:=hfs.2
     clear hfs
     have Hbq:=mkHid hbq
     have Hp0:=mkHid p0
     have Hp1:=mkHid p1
     have Hq5:=mkHid q5
     clear hbq p0 p1 q4 q5 qn q7
     have cS:Hid (∀d os,Calls Tryz.prog 46 #[.string fn,.string m] (Go.Sort.grow (redrawn wr d) os) fun e w''=>e=.returned (.bool (namedB fn m))∧∃p:Regrown,w''=Go.Sort.grow (redrawn wr p.d) p.os):=fun d os=>Calls.regrown_of (specSame fn m _ hsz1 (by omega))
     cases ht:mkAt Z k with
     | true=>
      rw[ht] at k7
      have hq2:Hid (lastTo (unAt (nmF m) Z) k=lastTo (unAt (nmF m) Z) Z.length):=by
       show _=_
       rw[← hq.out,hstep.out,ht,Bool.not_true,Bool.false_and]
       rfl
      clear hq hstep
      go_wp2
      refine wp_region_quiet_below (by kernel_rfl) (by kernel_rfl) ?_
      repeat (go_big_quiet_step (exact cS.out _ _))
      refine wpQuiet_nil ?_
      intro _ hw'
      obtain⟨⟨dq,osq⟩,hw''⟩:=hw'
      subst hw''
      have hbx:=below_regrown wr dq osq
      have hrow2:=mkHid (rowIs_keepS hrow.out hbx)
      have hB2:=mkHid (hB.out.trans (hbx.mono (by have:=hrow.out.lt;omega)))
      clear hbx k0 k4 kn k7 cS hrow hB
      go_wp2
      go_roundw
      case rel=>exact⟨k,by omega,rfl,by go_num,hq2,hrow2,hB2⟩
      case measure=>simp[Lib.intOf]
     | false=>
      rw[ht] at k7
      by_cases hsz:fn.size=m.size
      rotate_left
      ·have hx:((fn.size:Int)==(m.size:Int))=false:=by rw[beq_eq_false_iff_ne];omega
       have hnm:=named_size fn m hsz
       have hq2:Hid (lastTo (unAt (nmF m) Z) k=lastTo (unAt (nmF m) Z) Z.length):=by
        show _=_
        rw[← hq.out,hstep.out,hnm,Bool.and_false]
        rfl
       clear hq hstep
       go_wp2
       refine wp_region_quiet_below (by kernel_rfl) (by kernel_rfl) ?_
       repeat (go_big_quiet_step (exact cS.out _ _))
       refine wpQuiet_nil ?_
       intro _ hw'
       obtain⟨⟨dq,osq⟩,hw''⟩:=hw'
       subst hw''
       have hbx:=below_regrown wr dq osq
       have hrow2:=mkHid (rowIs_keepS hrow.out hbx)
       have hB2:=mkHid (hB.out.trans (hbx.mono (by have:=hrow.out.lt;omega)))
       clear hbx k0 k4 kn k7 cS hrow hB
       go_wp2
       go_roundw
       case rel=>exact⟨k,by omega,rfl,by go_num,hq2,hrow2,hB2⟩
       case measure=>simp[Lib.intOf]
      have hx:((fn.size:Int)==(m.size:Int))=true:=by rw[beq_iff_eq];omega
      have Hsz:=mkHid hsz
      clear hsz
      cases hnm:namedB fn m with
      | false=>
       rw[hnm] at cS
       have hq2:Hid (lastTo (unAt (nmF m) Z) k=lastTo (unAt (nmF m) Z) Z.length):=by
        show _=_
        rw[← hq.out,hstep.out,hnm,Bool.and_false]
        rfl
       clear hq hstep
       go_wp2
       refine wp_region_quiet_below (by kernel_rfl) (by kernel_rfl) ?_
       repeat (go_big_quiet_step (exact cS.out _ _))
       refine wpQuiet_nil ?_
       intro _ hw'
       obtain⟨⟨dq,osq⟩,hw''⟩:=hw'
       subst hw''
       have hbx:=below_regrown wr dq osq
       have hrow2:=mkHid (rowIs_keepS hrow.out hbx)
       have hB2:=mkHid (hB.out.trans (hbx.mono (by have:=hrow.out.lt;omega)))
       clear hbx k0 k4 kn k7 cS hrow hB
       go_wp2
       go_roundw
       case rel=>exact⟨k,by omega,rfl,by go_num,hq2,hrow2,hB2⟩
       case measure=>simp[Lib.intOf]
      | true=>
       rw[hnm] at cS
       have hfound:Hid (lastTo (unAt (nmF m) Z) Z.length=some k):=by
        show _=_
        rw[← hq.out,hstep.out,ht,hnm]
        rfl
       clear hq hstep hnm
       go_wp2
       refine wp_region_quiet_below (by kernel_rfl) (by kernel_rfl) ?_
       repeat (go_big_quiet_step (exact cS.out _ _))
       refine wpQuiet_nil ?_
       intro _ hw'
       obtain⟨⟨dq,osq⟩,hw''⟩:=hw'
       have hbx:=below_regrown wr dq osq
       rw[← hw''] at hbx
       clear hw''
       rename_i V
       have hgs:=hrow.out.lt
       have hrowV:=rowIs_keepS hrow.out hbx
       have hBV:=hB.out.trans (hbx.mono (Nat.le_of_lt hgs))
       have fz:=hrowV.frozen k
       have qc:=hrowV.cell hkF
       rw[ht] at qc
       have hrow2:=mkHid (hrowV.set k (.bool true))
       have hB2:=mkHid (hBV.setCell (p:=⟨g+1,k,none⟩) (Nat.le_refl _) (.bool true))
       have haf2:(af.add (k*2)).block<g+1:=by rw[add_block];omega
       have P0:=(hB.out.cell (p:=af.add (k*2)) haf2).symm.trans Hp0.out
       have P1:=(hB.out.cell (p:=⟨(af.add (k*2)).block,(af.add (k*2)).off+1,none⟩) haf2).symm.trans Hp1.out
       obtain⟨V2,hV2⟩:∃V2,V2=V.setCell ⟨g+1,k,none⟩ (.bool true):=⟨_,rfl⟩
       rw[← hV2] at hrow2 hB2
       have r0:=cell_regrown ((hB2.out.cell (p:=af.add (k*2)) haf2).trans P0)
       have r1:=cell_regrown ((hB2.out.cell (p:=⟨(af.add (k*2)).block,(af.add (k*2)).off+1,none⟩) haf2).trans P1)
       have r5:=cell_regrown ((hB2.out.cell (p:=⟨g,5,none⟩) (Nat.lt_succ_self g)).trans e5)
       have cC:Hid (∀d os,Calls Tryz.prog 47 #[.agg #[.string fn,.string fv],.int .i64 h] (Go.Sort.grow (redrawn V2 d) os) fun e w''=>e=.returned (.string (canonF fn fv h))∧∃p:Regrown,w''=Go.Sort.grow (redrawn V2 p.d) p.os):=fun d os=>Calls.regrown_of (specCanonField fn fv h _ (by omega) (by omega))
       have hZk:Hid (Z[k]?=some ((fn,fv),false)):=by
        show _=_
        have e2:mkAt Z k=Z[k].2:=by unfold mkAt;rw[List.getElem?_eq_getElem hkZ];rfl
        rw[List.getElem?_eq_getElem hkZ]
        refine congrArg some (Prod.ext ?_ ?_)
        ·show Z[k].1=(fn,fv)
         rw[hfk.out,← hfn,← hfv]
        ·exact e2.symm.trans ht
       have hnx:Hid ((O++canonF fn fv h).data.toList++tkZ h (M.drop (i+1)) (Z.set k ((fn,fv),true))=R):=by
        show _=_
        rw[← hpm.out,tkZ_some _ _ _ _ _ _ hfound.out hZk.out,ByteArray.data_append,Array.toList_append,List.append_assoc]
       have hZ2:Hid ((Z.set k ((fn,fv),true)).map (·.1)=F):=by
        have:=fst_set Z F k hkZ hZ.out
        rw[hfk.out] at this
        show _=_
        rw[← this,← hfn,← hfv]
       have hrow3:Hid (V2.rowIs (g+1) 4 F.length (fun j=>.bool (mkAt (Z.set k ((fn,fv),true)) j))):=World.rowIs.congr hrow2.out fun j _=>by
        rw[mk_set Z k hkZ]
        split<;>rfl
       have hcs:=canonF_size fn fv h
       unfold fsz at hcs
       simp only at hcs
       have HV2:=mkHid hV2
       obtain⟨cf,hcf⟩:∃cf,canonF fn fv h=cf:=⟨_,rfl⟩
       rw[hcf] at cC hnx hcs
       have hpn:¬(9223372036854775807<O.size+cf.size):=by omega
       have Hfn:=mkHid hfn
       have Hfv:=mkHid hfv
       clear hbx k0 k4 kn k7 cS hrow hB hrowV hBV ht hgs hV2 P0 P1 hrow2 hfn hfv hcf
       go_wp2
       rw[← HV2.out]
       refine wp_region_quiet_below (by kernel_rfl) (by kernel_rfl) ?_
       repeat (go_big_quiet_step (exact cC.out _ _))
       refine wpQuiet_nil ?_
       intro _ hw'
       obtain⟨⟨dq,osq⟩,hw''⟩:=hw'
       subst hw''
       have hbx:=below_regrown V2 dq osq
       have hrow4:=mkHid (rowIs_keepS hrow3.out hbx)
       have hB4:=mkHid (hB2.out.trans (hbx.mono (by have:=hrow3.out.lt;omega)))
       clear hbx r0 r1 r5 cC hrow3 hB2 fz qc HV2
       go_wp2
       go_roundw
       case rel=>exact⟨i+1,O++cf,Z.set k ((fn,fv),true),by omega,rfl,by go_num,hZ2,hnx,hrow4,hB4⟩
       case measure=>simp[Lib.intOf];omega
  ·go_wp2_with fail
   refine(cO.out wr).mono ?_
   rintro e w2 ⟨rfl,hb2⟩
   have hre:Hid (R=O.data.toList):=by
    show _=_
    rw[← hp.out,List.drop_eq_nil_of_le (by omega)]
    simp[tkZ]
   have hpn:¬(9223372036854775807<O.size+p.size):=by omega
   have hend:=mkHid (hbw1H.out.trans ((hB.out.trans (hb2.mono (by have:=hrow.out.lt;omega))).mono (Nat.le_succ g)))
   clear hb2 hB hrow c4 c5 cO hp
   go_wp2
   go_ret
   refine⟨?_,by rw[Hg.out];exact hend.out⟩
   rw[hre.out]
   exact congrArg (fun x=>Ending.returned (.string (x++p))) (show O=⟨O.data.toList.toArray⟩ from by simp)
set_option maxRecDepth 10000 in
theorem specSigner (d s:ByteArray)(A B h b:Int)(o:Option Addr)(F:List ByteArray)(cap:Nat)(w:World)(hd:d.size≤1048576)(hs:s.size≤1048576)(hF:Tx w.heap.size w o F)(hlen:F.length≤1048576)(hsz:∀t ∈ F,t.size≤1048576) :
  Calls Tryz.prog 12 #[sgV d s A B (.slice o F.length cap) h b] w fun e w'=>e=.returned (.int .i64 (dcode (signerOk d s A B F h b)))∧Below w.heap.size w w':=by
 obtain⟨W,hW⟩:∃W,W=w.alloc (.cells #[.string d,.string s,.int .i64 A,.int .i64 B,.slice o F.length cap,.int .i64 h,.int .i64 b] 27):=⟨_,rfl⟩
 have hbA:Below w.heap.size w W:=by rw[hW];exact(Below.refl _ _).alloc (Nat.le_refl _) _
 have hk0:W.heap[w.heap.size]?=some (.cells #[.string d,.string s,.int .i64 A,.int .i64 B,.slice o F.length cap,.int .i64 h,.int .i64 b] 27 (0,0)):=by rw[hW];exact heap_alloc_at _ _
 have hD:=specSignDomain d W (by omega)
 have hS:=fun w=>specSelector s w (by omega)
 have hK:=fun w=>specKey d s A B w
 have HF:Hid (Tx w.heap.size w o F):=hF
 have Hsz:Hid (∀t ∈ F,t.size≤1048576):=hsz
 clear hF hsz
 unfold signerOk
 generalize Pl.domOk d.data.toList=b1 at *
 generalize Pl.selOk s.data.toList=b2 at *
 generalize keyOk A B=b3 at *
 obtain⟨R,hR⟩:∃R,F.all nameB=R:=⟨_,rfl⟩
 have HR:Hid ((F.drop 0).all nameB=R):=hR
 rw[hR]
 clear hR
 obtain⟨r,hr⟩:∃r,dcode (b1 && (b2 && (b3 && (decide (h=0∨h=1) && (decide (b=0∨b=1) && (decide (1≤F.length) && (decide (F.length≤30) && R)))))))=r:=⟨_,rfl⟩
 have Hr:Hid (dcode (b1 && (b2 && (b3 && (decide (h=0∨h=1) && (decide (b=0∨b=1) && (decide (1≤F.length) && (decide (F.length≤30) && R)))))))=r):=hr
 rw[hr]
 clear hr
 go_enter Tryz.func12,Tryz.ntmps12
 go_wp2_with fail
 rw[← hW]
 refine hD.mono ?_
 rintro e w2 ⟨rfl,hb2⟩
 have hk2:=(hb2.block _ (heap_lt hk0)).trans hk0
 have hB2:=hbA.trans (hb2.mono hbA.size)
 obtain⟨c0,c1,c2,c3,c4,c5,c6⟩:=sg_cells hk2
 clear hD hb2 hk0 hbA hW
 cases b1
 ·go_wp2
  go_ret
  exact⟨by rw[← Hr.out];rfl,hB2⟩
 ·go_wp2_with fail
  refine(hS _).mono ?_
  rintro e w3 ⟨rfl,rfl⟩
  cases b2
  ·go_wp2
   go_ret
   exact⟨by rw[← Hr.out];rfl,hB2⟩
  ·go_wp2_with fail
   refine(hK _).mono ?_
   rintro e w3 ⟨rfl,hb3⟩
   have hk3:=(hb3.block _ (heap_lt hk2)).trans hk2
   have hB3:=hB2.trans (hb3.mono hB2.size)
   clear c0 c1 c2 c3 c4 c5 c6 hk2 hB2 hb3 hS hK
   obtain⟨c0,c1,c2,c3,c4,c5,c6⟩:=sg_cells hk3
   have HFT:Hid (Tx w3.heap.size w3 o F):=(HF.out.below hB3).mono hB3.size
   have HB3:Hid (Below w.heap.size w w3):=hB3
   clear HF hB3 hk3
   cases b3
   ·go_wp2
    go_ret
    exact⟨by rw[← Hr.out];rfl,HB3.out⟩
   ·by_cases hh:h=0∨h=1
    ·have Hh:Hid (h=0∨h=1):=hh
     have g1:¬h<0:=by omega
     have g2:¬1<h:=by omega
     clear hh
     by_cases hb:b=0∨b=1
     ·have Hb:Hid (b=0∨b=1):=hb
      have g3:¬b<0:=by omega
      have g4:¬1<b:=by omega
      clear hb
      by_cases h1:1≤F.length
      ·have H1:Hid (1≤F.length):=h1
       by_cases h2:F.length≤30
       ·have H2:Hid (F.length≤30):=h2
        obtain⟨V,hV⟩:∃V,V=w3:=⟨_,rfl⟩
        subst hV
        go_wp2
        go_loopw [3] (fun i wr=>∃ k:Nat,k≤F.length∧i=.int .i64 k∧Hid ((F.drop k).all nameB=R)∧wr=V) (fun i _=>F.length-(Lib.intOf i).toNat)
        case atStart=>exact⟨0,Nat.zero_le _,rfl,HR,rfl⟩
        case round=>
         clear HR
         obtain⟨k,hk,rfl,hp,rfl⟩:=hrel
         by_cases hlt:k<F.length
         ·obtain⟨a,rfl,ha,hc0⟩:=HFT.out k hlt
          have hst:=Pl.all_stepT nameB F k hlt
          rw[hp.out] at hst
          have hzk:=Hsz.out _ (List.getElem_mem hlt)
          have hN:=fun w=>specName F[k] w (by omega)
          have hA:=fun w=>specApart F[k] w (by omega)
          have hNB:nameB F[k]=(Pl.nameOk F[k].data.toList && Pl.apart F[k].data.toList):=Pl.sName_eq _
          rw[hNB] at hst
          have Hst:Hid (R=((Pl.nameOk F[k].data.toList && Pl.apart F[k].data.toList) && (F.drop (k+1)).all nameB)):=hst
          clear hst hp hNB hzk
          generalize Pl.nameOk F[k].data.toList=n1 at *
          generalize Pl.apart F[k].data.toList=n2 at *
          generalize F[k]=f at *
          cases n1
          ·have hR:R=false:=by rw[Hst.out,Bool.false_and,Bool.false_and]
           subst hR
           clear Hst hA
           go_wp2_with fail
           refine(hN _).mono ?_
           rintro e w4 ⟨rfl,rfl⟩
           go_wp2
           go_ret
           exact⟨by rw[← Hr.out,decide_eq_true Hh.out,decide_eq_true Hb.out,decide_eq_true H1.out,decide_eq_true H2.out];rfl,HB3.out⟩
          ·cases n2
           ·have hR:R=false:=by rw[Hst.out,Bool.and_false,Bool.false_and]
            subst hR
            clear Hst
            go_wp2_with fail
            refine(hN _).mono ?_
            rintro e w4 ⟨rfl,rfl⟩
            go_wp2_with fail
            refine(hA _).mono ?_
            rintro e w4 ⟨rfl,rfl⟩
            go_wp2
            go_ret
            exact⟨by rw[← Hr.out,decide_eq_true Hh.out,decide_eq_true Hb.out,decide_eq_true H1.out,decide_eq_true H2.out];rfl,HB3.out⟩
           ·have HN:Hid ((F.drop (k+1)).all nameB=R):=by show _=_;rw[Hst.out,Bool.true_and,Bool.true_and]
            clear Hst
            go_wp2_with fail
            refine(hN _).mono ?_
            rintro e w4 ⟨rfl,rfl⟩
            go_wp2_with fail
            refine(hA _).mono ?_
            rintro e w4 ⟨rfl,rfl⟩
            go_wp2
            go_roundw
            case rel=>exact⟨k+1,by omega,by go_num,HN,trivial⟩
            case measure=>simp[Lib.intOf];omega
         ·have hR:R=true:=by rw[← hp.out,List.drop_eq_nil_of_le (by omega)];rfl
          subst hR
          clear hp
          go_wp2
          go_ret
          exact⟨by rw[← Hr.out,decide_eq_true Hh.out,decide_eq_true Hb.out,decide_eq_true H1.out,decide_eq_true H2.out];rfl,HB3.out⟩
       ·have H2:Hid (¬F.length≤30):=h2
        go_wp2
        go_ret
        exact⟨by rw[← Hr.out,decide_eq_true Hh.out,decide_eq_true Hb.out,decide_eq_true H1.out,decide_eq_false H2.out];rfl,HB3.out⟩
      ·have H1:Hid (¬1≤F.length):=h1
       go_wp2
       go_ret
       exact⟨by rw[← Hr.out,decide_eq_true Hh.out,decide_eq_true Hb.out,decide_eq_false H1.out];rfl,HB3.out⟩
     ·have Hb:Hid (¬(b=0∨b=1)):=hb
      by_cases g3:b<0
      ·clear hb
       go_wp2
       go_ret
       exact⟨by rw[← Hr.out,decide_eq_true Hh.out,decide_eq_false Hb.out];rfl,HB3.out⟩
      ·have g4:1<b:=by omega
       clear hb
       go_wp2
       go_ret
       exact⟨by rw[← Hr.out,decide_eq_true Hh.out,decide_eq_false Hb.out];rfl,HB3.out⟩
    ·have Hh:Hid (¬(h=0∨h=1)):=hh
     by_cases g1:h<0
     ·clear hh
      go_wp2
      go_ret
      exact⟨by rw[← Hr.out,decide_eq_false Hh.out];rfl,HB3.out⟩
     ·have g2:1<h:=by omega
      clear hh
      go_wp2
      go_ret
      exact⟨by rw[← Hr.out,decide_eq_false Hh.out];rfl,HB3.out⟩
end Go.Proofs.YtibbpmhbgbafhaaGreatDoor
