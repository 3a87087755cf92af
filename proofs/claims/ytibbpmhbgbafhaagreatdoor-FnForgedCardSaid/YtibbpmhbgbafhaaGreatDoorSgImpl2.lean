import Derived.Test.YtibbpmhbgbafhaaGreatDoorCkSmall
import Derived.Test.YtibbpmhbgbafhaaGreatDoorTextSpec
set_option maxRecDepth 20000
set_option maxHeartbeats 4000000
namespace Go.Proofs.YtibbpmhbgbafhaaGreatDoor
open Go.RowKit Go.Lib
namespace Sn
structure Ky where
 d:ByteArray
 s:ByteArray
 A:Int
 B:Int
abbrev kyV (k:Ky):Value:=.agg #[.string k.d,.string k.s,.int .i64 k.A,.int .i64 k.B]
def KyL (b:Nat)(w:World)(K:List Ky):Prop:=b<w.heap.size∧∀k (h:k<K.length),w.cell? ⟨b,k*4,none⟩=some (.string K[k].d)∧w.cell? ⟨b,k*4+1,none⟩=some (.string K[k].s)∧w.cell? ⟨b,k*4+2,none⟩=some (.int .i64 K[k].A)∧w.cell? ⟨b,k*4+3,none⟩=some (.int .i64 K[k].B)
theorem KyL.below {b:Nat} {w w':World} {K:List Ky} (h:KyL b w K)(hb:Below w.heap.size w w'):KyL b w' K:=
 ⟨Nat.lt_of_lt_of_le h.1 hb.size,fun k hk=>by
  obtain⟨h0,h1,h2,h3⟩:=h.2 k hk
  exact⟨(hb.cell (p:=⟨b,k*4,none⟩) h.1).trans h0,(hb.cell (p:=⟨b,k*4+1,none⟩) h.1).trans h1,(hb.cell (p:=⟨b,k*4+2,none⟩) h.1).trans h2,(hb.cell (p:=⟨b,k*4+3,none⟩) h.1).trans h3⟩⟩
def noKy:Ky:=⟨⟨#[]⟩,⟨#[]⟩,0,0⟩
def findK (d s:ByteArray):List Ky→Ky
 | []=>noKy
 | k::r=>if (k.d.toList==d.toList) && (k.s.toList==s.toList) then k else findK d s r
end Sn
theorem implKeyNamed (vf:Value)(body d s:ByteArray)(b c:Nat)(K:List Sn.Ky)(w:World)(hK:Sn.KyL b w K)(hl:K.length≤100) :
  Calls Tryz.prog 83 #[.agg #[vf,.string body,.slice (some ⟨b,0,none⟩) K.length c],Sn.kyV ⟨d,s,0,0⟩] w fun e w'=>e=.returned (Sn.kyV (Sn.findK d s K))∧Below w.heap.size w w':=by
 obtain⟨W0,hW0⟩:∃W,W=((w.alloc (.cells #[vf,.string body,.slice (some ⟨b,0,none⟩) K.length c] 65)).alloc (.cells #[.string d,.string s,.int .i64 0,.int .i64 0] 24)).alloc (.cells #[.string ⟨#[]⟩,.string ⟨#[]⟩,.int .i64 0,.int .i64 0] 24):=⟨_,rfl⟩
 have hb0:Below w.heap.size w W0:=by rw[hW0];exact(((Below.refl _ _).alloc (Nat.le_refl _) _).alloc (by simp) _).alloc (by simp;omega) _
 obtain⟨W1,hW1⟩:∃W,W=w.alloc (.cells #[vf,.string body,.slice (some ⟨b,0,none⟩) K.length c] 65):=⟨_,rfl⟩
 obtain⟨W2,hW2⟩:∃W,W=W1.alloc (.cells #[.string d,.string s,.int .i64 0,.int .i64 0] 24):=⟨_,rfl⟩
 have e0:W0=W2.alloc (.cells #[.string ⟨#[]⟩,.string ⟨#[]⟩,.int .i64 0,.int .i64 0] 24):=by rw[hW2,hW1];exact hW0
 have hs1:W1.heap.size=w.heap.size+1:=by rw[hW1];simp
 have hs2:W2.heap.size=w.heap.size+2:=by rw[hW2];simp[hs1]
 have hs0:W0.heap.size=w.heap.size+3:=by rw[e0];simp[hs2]
 have b12:Below W1.heap.size W1 W2:=by rw[hW2];exact(Below.refl _ _).alloc (Nat.le_refl _) _
 have b20:Below W2.heap.size W2 W0:=by rw[e0];exact(Below.refl _ _).alloc (Nat.le_refl _) _
 have r1:W1.heap[w.heap.size]?=some (.cells #[vf,.string body,.slice (some ⟨b,0,none⟩) K.length c] 65 (0,0)):=by rw[hW1];exact heap_alloc_at _ _
 have r2:W2.heap[w.heap.size+1]?=some (.cells #[.string d,.string s,.int .i64 0,.int .i64 0] 24 (0,0)):=by rw[← hs1,hW2];exact heap_alloc_at _ _
 have hz:W0.heap[w.heap.size+2]?=some (.cells #[.string ⟨#[]⟩,.string ⟨#[]⟩,.int .i64 0,.int .i64 0] 24 (0,0)):=by rw[← hs2,e0];exact heap_alloc_at _ _
 have r1':=(b20.block _ (show w.heap.size<W2.heap.size by omega)).trans ((b12.block _ (show w.heap.size<W1.heap.size by omega)).trans r1)
 have r2':=(b20.block _ (show w.heap.size+1<W2.heap.size by omega)).trans r2
 have q2:W0.cell? ⟨w.heap.size,2,none⟩=some (.slice (some ⟨b,0,none⟩) K.length c):=by simp[World.cell?,r1']
 have n0:W0.cell? ⟨w.heap.size+1,0,none⟩=some (.string d):=by simp[World.cell?,r2']
 have n1:W0.cell? ⟨w.heap.size+1,1,none⟩=some (.string s):=by simp[World.cell?,r2']
 have n2:W0.cell? ⟨w.heap.size+1,2,none⟩=some (.int .i64 0):=by simp[World.cell?,r2']
 have n3:W0.cell? ⟨w.heap.size+1,3,none⟩=some (.int .i64 0):=by simp[World.cell?,r2']
 have hK0:=hK.below hb0
 obtain⟨R,hR⟩:∃R,Sn.findK d s K=R:=⟨_,rfl⟩
 have HR:Hid (Sn.findK d s (K.drop 0)=R):=hR
 rw[hR]
 have HK:=mkHid hK0
 have HW0:=mkHid hW0
 have HB0:=mkHid hb0
 have HZ:=mkHid hz
 have HN:=mkHid (And.intro n0 (And.intro n1 (And.intro n2 n3)))
 have hl1:w.heap.size<W0.heap.size:=by omega
 have hl2:w.heap.size+1<W0.heap.size:=by omega
 have hl3:w.heap.size+2<W0.heap.size:=by omega
 clear hW0 hb0 hs0 hz hK0 hR hK n0 n1 n2 n3 hs1 hs2 b12 b20 r1 r2 r1' r2' e0 hW1 hW2
 clear W1 W2
 go_enter Tryz.func83,Tryz.ntmps83
 go_wp2_with fail
 rw[← HW0.out]
 go_loopw [10] (fun i wr=>∃ k:Nat,k≤K.length∧i=.int .i64 k∧Hid (Sn.findK d s (K.drop k)=R)∧Below W0.heap.size W0 wr) (fun i _=>K.length-(Lib.intOf i).toNat)
 case atStart=>exact⟨0,Nat.zero_le _,rfl,HR,Below.refl _ _⟩
 case round=>
  obtain⟨k,hk,rfl,hf,hb⟩:=hrel
  clear HR HW0 q2
  have HKr:=HK.out.below hb
  have Hb:=mkHid hb
  have zr:=(hb.block _ hl3).trans HZ.out
  obtain⟨n0,n1,n2,n3⟩:=HN.out
  have m0:=(hb.cell (p:=⟨w.heap.size+1,0,none⟩) hl2).trans n0
  have m1:=(hb.cell (p:=⟨w.heap.size+1,1,none⟩) hl2).trans n1
  have m2:=(hb.cell (p:=⟨w.heap.size+1,2,none⟩) hl2).trans n2
  have m3:=(hb.cell (p:=⟨w.heap.size+1,3,none⟩) hl2).trans n3
  clear n0 n1 n2 n3 hb
  by_cases hlt:k<K.length
  ·obtain⟨c0,c1,c2,c3⟩:=HKr.2 k hlt
   have hst:Hid (Sn.findK d s (K.drop k)=if (K[k].d.toList==d.toList) && (K[k].s.toList==s.toList) then K[k] else Sn.findK d s (K.drop (k+1))):=by
    show _=_
    rw[List.drop_eq_getElem_cons hlt]
    rfl
   generalize K[k]=ky at *
   obtain⟨V,hV⟩:∃V,V=wr.alloc (.cells #[.string ky.d,.string ky.s,.int .i64 ky.A,.int .i64 ky.B] 24):=⟨_,rfl⟩
   have bV:Below wr.heap.size wr V:=by rw[hV];exact(Below.refl _ _).alloc (Nat.le_refl _) _
   have hwz:=Hb.out.size
   have p0:=(bV.cell (p:=⟨w.heap.size+1,0,none⟩) (show w.heap.size+1<wr.heap.size by omega)).trans m0
   have p1:=(bV.cell (p:=⟨w.heap.size+1,1,none⟩) (show w.heap.size+1<wr.heap.size by omega)).trans m1
   have p2:=(bV.cell (p:=⟨w.heap.size+1,2,none⟩) (show w.heap.size+1<wr.heap.size by omega)).trans m2
   have p3:=(bV.cell (p:=⟨w.heap.size+1,3,none⟩) (show w.heap.size+1<wr.heap.size by omega)).trans m3
   have zV:=(bV.block _ (show w.heap.size+2<wr.heap.size by omega)).trans zr
   have HbV:=mkHid (Hb.out.trans (bV.mono hwz))
   rw[hV] at p0 p1 p2 p3 zV
   have HV:=mkHid hV
   clear m0 m1 m2 m3 zr bV hV hwz
   cases hd:(ky.d.toList==d.toList)
   ·have hf2:Hid (Sn.findK d s (K.drop (k+1))=R):=by
     show _=_
     rw[← hf.out,hst.out,hd]
     rfl
    clear hst hf
    go_wp2
    go_roundw
    case rel=>exact⟨k+1,by omega,by go_num,hf2,by rw[← HV.out];exact HbV.out⟩
    case measure=>simp[Lib.intOf];omega
   ·cases hs:(ky.s.toList==s.toList)
    ·have hf2:Hid (Sn.findK d s (K.drop (k+1))=R):=by
      show _=_
      rw[← hf.out,hst.out,hd,hs]
      rfl
     clear hst hf
     go_wp2
     go_roundw
     case rel=>exact⟨k+1,by omega,by go_num,hf2,by rw[← HV.out];exact HbV.out⟩
     case measure=>simp[Lib.intOf];omega
    ·have hf2:Hid (ky=R):=by
      show _=_
      rw[← hf.out,hst.out,hd,hs]
      rfl
     clear hst hf
     go_wp2_with (refine wpL_store_row rfl 24 _ _ rfl (w.heap.size+1+1) #[.string ky.d,.string ky.s,.int .i64 ky.A,.int .i64 ky.B] rfl rfl 24 _ zV (by kernel_rfl) rfl (by simp[Value.oneCell']) ?_)
     refine bodyPost_ret (v:=Sn.kyV ky) (results_cell_row Tryz.results83 _ _ (w.heap.size+1+1) 24 _ (0,0) _ rfl (setRow_heap _ _ _ _ _ _ zV) Tryz.underlying24 rfl (by kernel_rfl)) rfl ⟨by rw[hf2.out],?_⟩
     rw[← HV.out]
     have hq:=HB0.out.trans (HbV.out.mono HB0.out.size)
     exact hq.grown (grown_setRow _ _ _) hq.size (fun j hj=>by cases hj;omega)
  ·have hf2:Hid (Sn.noKy=R):=by
    show _=_
    rw[← hf.out,List.drop_eq_nil_of_le (by omega)]
    rfl
   clear hf
   go_wp2_with (refine wpL_store_row rfl 24 _ _ rfl (w.heap.size+1+1) #[.string ⟨#[]⟩,.string ⟨#[]⟩,.int .i64 0,.int .i64 0] rfl rfl 24 _ zr (by kernel_rfl) rfl (by simp[Value.oneCell']) ?_)
   refine bodyPost_ret (v:=Sn.kyV Sn.noKy) (results_cell_row Tryz.results83 _ _ (w.heap.size+1+1) 24 _ (0,0) _ rfl (setRow_heap _ _ _ _ _ _ zr) Tryz.underlying24 rfl (by kernel_rfl)) rfl ⟨by rw[hf2.out],?_⟩
   have hq:=HB0.out.trans (Hb.out.mono HB0.out.size)
   exact hq.grown (grown_setRow _ _ _) hq.size (fun j hj=>by cases hj;omega)
end Go.Proofs.YtibbpmhbgbafhaaGreatDoor
namespace Go.Proofs.YtibbpmhbgbafhaaGreatDoor
open Go.RowKit Go.Lib Go.Maps
theorem trim_own (p:ByteArray):(⟨(trimSuffix (p++(⟨#[13,10]⟩:ByteArray)).data.toList (⟨#[13,10]⟩:ByteArray).data.toList).toArray⟩:ByteArray)=p:=by
 rw[ByteArray.data_append,Array.toList_append]
 show(⟨(trimSuffix (p.data.toList ++ [13,10]) [13,10]).toArray⟩:ByteArray)=p
 unfold trimSuffix hasSuffix
 rw[if_pos (by rw[List.isSuffixOf_iff_suffix];exact List.suffix_append _ _)]
 simp
theorem libTrimOwn (p:ByteArray)(w:World)(hp:p.size≤5000):Calls Tryz.prog 136 #[.string (p++(⟨#[13,10]⟩:ByteArray)),.string (⟨#[13,10]⟩:ByteArray)] w fun e w'=>e=.returned (.string p)∧w=w':=by
 have hz:(p++(⟨#[13,10]⟩:ByteArray)).size≤9223372036854775807:=by rw[ByteArray.size_append];show p.size+2≤_;omega
 refine(Tryz.strings_TrimSuffix (p++(⟨#[13,10]⟩:ByteArray)) (⟨#[13,10]⟩:ByteArray) w hz).mono ?_
 rintro e w' ⟨he,hw⟩
 rw[trim_own] at he
 exact⟨he,hw.symm⟩
abbrev bxSi (d s:ByteArray)(A B:Int)(v:Value)(h b:Int):Obj:=.cells #[.string d,.string s,.int .i64 A,.int .i64 B,v,.int .i64 h,.int .i64 b] 27
theorem implSignedN (n:ByteArray)(hn:n.size≤1000)(d s:ByteArray)(A B h b:Int)(on:Option Addr)(M:List ByteArray)(capn Bf:Nat)(vf:Value)(F:List Fl)(v p:ByteArray)(w:World)
  (hM:Tx w.heap.size w on M) (hml:M.length≤30) (hmz:∀t ∈ M,t.size≤70) (hF:OwnF Bf vf F w) (hfl:F.length≤200) (hfz:∀f ∈ F,f.1.length≤100000∧f.2.length≤100000)
  (hfs:fsum (toBA F)≤100002) (hv:v.size≤4000) (hp:canonF n v h=p++⟨#[13,10]⟩) (hps:p.size≤5000) :
  Calls Tryz.prog 90 #[sgV d s A B (.slice on M.length capn) h b,vf,.agg #[.string n,.string v]] w fun e w'=>e=.returned (.string (⟨(tkL h M (toBA F)).toArray⟩++p))∧Below w.heap.size w w':=by
 obtain⟨i5,hi5,hz50,hz51,hz52⟩:=info_parts Tryz.info5
 obtain⟨R,hR⟩:∃R,tkL h M (toBA F)=R:=⟨_,rfl⟩
 have hRl:R.length≤100002:=by rw[← hR];exact Nat.le_trans (tkL_len h M _) hfs
 have HR0:Hid ([]++tkL h (M.drop 0) (toBA F)=R):=hR
 have cO:=mkHid (fun w'=>implCanonField n v h w' (by omega) (by omega))
 rw[hp] at cO
 rw[hR]
 have HRl:=mkHid hRl
 have HM:=mkHid hM
 have Hmz:=mkHid hmz
 have Hfz:=mkHid hfz
 clear hR hRl hp hM hmz hfz hfs
 obtain⟨W0,hW0⟩:∃W0,W0=(w.alloc (bxSi d s A B (.slice on M.length capn) h b)).alloc (.cells #[.string n,.string v] 56):=⟨_,rfl⟩
 have hs0:W0.heap.size=w.heap.size+2:=by rw[hW0];simp
 have hbW0:Below w.heap.size w W0:=by rw[hW0];exact((Below.refl _ _).alloc (Nat.le_refl _) _).alloc (by simp) _
 have e4:W0.cell? ⟨w.heap.size,4,none⟩=some (.slice on M.length capn):=by rw[hW0];simp
 have e5:W0.cell? ⟨w.heap.size,5,none⟩=some (.int .i64 h):=by rw[hW0];simp
 have o0:W0.cell? ⟨w.heap.size+1,0,none⟩=some (.string n):=by rw[hW0];simp
 have o1:W0.cell? ⟨w.heap.size+1,1,none⟩=some (.string v):=by rw[hW0];simp
 have hF0:OwnF Bf vf F W0:=by rw[hW0];exact(hF.alloc _).alloc _
 have cK:=mkHid (implClone Bf vf F W0 hF0 (by omega))
 have HW0:=mkHid hW0
 clear hF hF0 hW0
 go_enter Tryz.func90,Tryz.ntmps90
 go_wp2_with fail
 rw[← HW0.out]
 refine cK.out.mono ?_
 rintro e w1 ⟨vl,rfl,hvl,hb1⟩
 clear cK
 have c4:=(hb1.cell (p:=⟨w.heap.size,4,none⟩) (show w.heap.size<_ from by omega)).trans e4
 go_wp2
 clear c4
 have Hb1:=mkHid hb1
 have Hvl:=mkHid hvl
 have HbW0:=mkHid hbW0
 clear hb1 hvl hbW0
 generalize hg:w.heap.size=g at *
 have Hg:=mkHid hg
 clear hg
 rw[hs0] at Hb1 Hvl
 go_loopw [7,8,17] (fun ov lv iv wr=>∃ (i:Nat) (L:List Fl) (O:List UInt8),i≤M.length∧L.length≤200∧iv=.int .i64 i∧Hid (Own (g+2) ov O wr)∧Hid (OwnF (g+2) lv L wr)∧Hid (O++tkL h (M.drop i) (toBA L)=R)∧Hid (∀f ∈ L,f.1.length≤100000∧f.2.length≤100000)∧Hid (Below (g+2) W0 wr)) (fun _ _ iv _=>M.length-(Lib.intOf iv).toNat)
 case atStart=>exact⟨0,F,[],Nat.zero_le _,hfl,rfl,Own.nil _ _,Hvl,HR0,Hfz,Hb1⟩
 case round=>
  clear HR0 Hb1 Hvl Hfz
  obtain⟨i,L,O,hi,hLl,rfl,hO,hL,hp,hLz,hB⟩:=hrel
  have hbr:=mkHid (HbW0.out.trans (hB.out.mono (Nat.le_add_right g 2)))
  have hsz:=hB.out.size
  rw[hs0] at hsz
  have hOl:O.length≤100002:=by
   have:=congrArg List.length hp.out
   rw[List.length_append] at this
   have:=HRl.out
   omega
  by_cases hlt:i<M.length
  ·obtain⟨a,rfl,ha,hn0⟩:=(HM.out.below hbr.out) i hlt
   obtain⟨m,hm⟩:∃m,M[i]=m:=⟨_,rfl⟩
   have hms:m.size≤70:=hm ▸ Hmz.out _ (List.getElem_mem hlt)
   have hpm:Hid (O++tkL h (m::M.drop (i+1)) (toBA L)=R):=by
    show _=_
    rw[← hp.out,List.drop_eq_getElem_cons hlt,hm]
   rw[hm] at hn0
   obtain⟨lo,lcap,rfl,hfld⟩:=hL.out.fld
   have cL:=mkHid (implLast lo (toBA L) lcap m wr hfld (by rw[toBA_len];omega) (by
    intro f hf
    unfold toBA at hf
    obtain⟨f',h1,rfl⟩:=List.mem_map.1 hf
    have:=(hLz.out f' h1).1
    show f'.1.toArray.size≤100000
    rw[List.size_toArray]
    exact this) (by omega))
   rw[nm_mt,toBA_len] at cL
   have hlt2:Hid (∀k,lastTo (mtAt (nmF m) (toBA L)) L.length=some k→k<L.length):=fun k hk=>lastTo_lt _ _ hk
   clear hm hp hfld
   go_wp2_with fail
   refine cL.out.mono ?_
   rintro e w2 ⟨rfl,hb2⟩
   have hO2:=mkHid (World.ownsRow.kept hO.out (grown_below (r:=none) hb2) (Classical.em _))
   have hL2:=mkHid (World.ownsRow.kept hL.out (grown_below (r:=none) hb2) (Classical.em _))
   have hB2:=mkHid (hB.out.trans (hb2.mono (by omega)))
   have hs2:=hb2.size
   clear cL hO hL hB hb2 hbr hn0
   cases hf:lastTo (mtAt (nmF m) (toBA L)) L.length with
   | none=>
    have hnx:Hid (O++tkL h (M.drop (i+1)) (toBA L)=R):=by
     show _=_
     rw[← hpm.out,tkL_none _ _ _ _ (by rw[toBA_len];exact hf)]
    clear hf hpm hlt2
    unfold atV
    go_wp2
    go_roundw
    case rel=>exact⟨i+1,L,O,by omega,hLl,by go_num,hO2,hL2,hnx,hLz,hB2⟩
    case measure=>simp[Lib.intOf];omega
   | some k=>
    have hkL:=hlt2.out k hf
    obtain⟨gl,rfl,hgl⟩:∃gl,lo=some ⟨gl,0,none⟩∧g+2≤gl:=by
     rcases hL2.out.2 with ⟨h1,h0⟩|⟨q,cap',cur,h1,h2,-⟩
     ·omega
     ·simp only[Value.slice.injEq] at h1
      exact⟨q,h1.1,h2⟩
    obtain⟨t0,t1⟩:=cellsF_get L k hkL
    have y0:=World.ownsRow.cells hL2.out (g:=gl) rfl (k*2) _ t0
    have y1:=World.ownsRow.cells hL2.out (g:=gl) rfl (k*2+1) _ t1
    rw[add_off] at y0 y1
    have z5:=(hB2.out.cell (p:=⟨g,5,none⟩) (show g<g+2 by omega)).trans e5
    have hfk:=hLz.out L[k] (List.getElem_mem hkL)
    obtain⟨fn,hfn⟩:∃fn:ByteArray,(⟨L[k].1.toArray⟩:ByteArray)=fn:=⟨_,rfl⟩
    obtain⟨fv,hfv⟩:∃fv:ByteArray,(⟨L[k].2.toArray⟩:ByteArray)=fv:=⟨_,rfl⟩
    have hz1:fn.size≤100000:=by rw[← hfn];show L[k].1.toArray.size≤_;rw[List.size_toArray];exact hfk.1
    have hz2:fv.size≤100000:=by rw[← hfv];show L[k].2.toArray.size≤_;rw[List.size_toArray];exact hfk.2
    unfold txt at y0 y1
    rw[hfn] at y0
    rw[hfv] at y1
    have cC:=mkHid (fun w'=>implCanonField fn fv h w' (by omega) (by omega))
    have hcs:=canonF_size fn fv h
    unfold fsz at hcs
    simp only at hcs
    have hnx:Hid ((O++(canonF fn fv h).data.toList)++tkL h (M.drop (i+1)) (toBA (L.eraseIdx k))=R):=by
     show _=_
     rw[← hpm.out,tkL_some _ _ _ _ k (fn,fv) (by rw[toBA_len];exact hf) (by rw[toBA_at L k hkL,hfn,hfv]),toBA_erase,List.append_assoc]
    obtain⟨cf,hcf⟩:∃cf,canonF fn fv h=cf:=⟨_,rfl⟩
    rw[hcf] at cC hnx hcs
    have hS:w2.cell? ⟨gl,k*2,none⟩=some (.string fn)∧w2.cell? ⟨gl,k*2+1,none⟩=some (.string fv)∧w2.cell? ⟨g,5,none⟩=some (.int .i64 h):=⟨y0,y1,z5⟩
    clear hf hpm hlt2 hfn hfv hcf y0 y1 z5 t0 t1 hfk
    unfold atV
    go_wp2
    refine wp_region_held (S:=fun w=>w.cell? ⟨gl,k*2,none⟩=some (.string fn)∧w.cell? ⟨gl,k*2+1,none⟩=some (.string fv)∧w.cell? ⟨g,5,none⟩=some (.int .i64 h)) (by kernel_rfl) ?_
    refine wpAnyH_take (i:=0) (v:=u7) rfl (by kernel_rfl) (by kernel_rfl) (by kernel_rfl) (fun _ _ _ h=>h) (Or.inl ⟨by rfl,?_⟩) hS ?_
    ·rintro w ⟨s1,s2,s3⟩
     go_simp
     all_goals first|done|(intro h;exfalso;omega)|omega
    go_simp
    refine wpAnyH_take (i:=1) (v:=.slice (some ⟨gl,0,none⟩) L.length lcap) rfl (by kernel_rfl) (by kernel_rfl) (by kernel_rfl) (fun _ _ _ h=>h) (Or.inl ⟨by rfl,?_⟩) hS ?_
    ·rintro w ⟨s1,s2,s3⟩
     go_simp
     all_goals first|done|(intro h;exfalso;omega)|omega
    go_simp
    refine wpAnyH_take (i:=2) (v:=.int .i64 (k:Int)) rfl (by kernel_rfl) (by kernel_rfl) (by kernel_rfl) (fun _ _ _ h=>h) (Or.inl ⟨by rfl,?_⟩) hS ?_
    ·rintro w ⟨s1,s2,s3⟩
     go_simp
     all_goals first|done|(intro h;exfalso;omega)|omega
    go_simp
    refine wpAnyH_take (i:=3) (v:=.pointer (some ⟨gl,k*2,none⟩)) rfl (by kernel_rfl) (by kernel_rfl) (by kernel_rfl) (fun _ _ _ h=>h) (Or.inl ⟨by rfl,?_⟩) hS ?_
    ·rintro w ⟨s1,s2,s3⟩
     go_simp
     all_goals first|done|(intro h;exfalso;omega)|omega
    go_simp
    refine wpAnyH_take (i:=4) (v:=.agg #[.string fn,.string fv]) rfl (by kernel_rfl) (by kernel_rfl) (by kernel_rfl) (fun _ _ _ h=>h) (Or.inl ⟨by rfl,?_⟩) hS ?_
    ·rintro w ⟨s1,s2,s3⟩
     go_simp
     all_goals first|done|(intro h;exfalso;omega)|omega
    go_simp
    refine wpAnyH_take (i:=5) (v:=.pointer (some ⟨g,5,none⟩)) rfl (by kernel_rfl) (by kernel_rfl) (by kernel_rfl) (fun _ _ _ h=>h) (Or.inl ⟨by rfl,?_⟩) hS ?_
    ·rintro w ⟨s1,s2,s3⟩
     go_simp
     all_goals first|done|(intro h;exfalso;omega)|omega
    go_simp
    refine wpAnyH_take (i:=6) (v:=.int .i64 h) rfl (by kernel_rfl) (by kernel_rfl) (by kernel_rfl) (fun _ _ _ h=>h) (Or.inl ⟨by rfl,?_⟩) hS ?_
    ·rintro w ⟨s1,s2,s3⟩
     go_simp
     all_goals first|done|(intro h;exfalso;omega)|omega
    go_simp
    refine wpAnyH_all (rs:=[7]) (by kernel_rfl) (by simp) ?_
    intro q hq
    simp only[List.mem_cons,List.not_mem_nil,or_false] at hq
    subst hq
    refine wpOp_step rfl (fun K hK=>?_)
    go_simp
    refine(cC.out _).mono ?_
    rintro e w3 ⟨rfl,hb3'⟩
    have hb3:Below w2.heap.size w2 w3:=⟨hb3'.os,hb3'.tape,hb3'.output,hb3'.size,hb3'.block⟩
    clear hb3'
    refine hK _ _ ⟨⟨(hb3.cell (p:=⟨gl,k*2,none⟩) (World.ownsRow.lt hL2.out gl rfl).2).trans hS.1,(hb3.cell (p:=⟨gl,k*2+1,none⟩) (World.ownsRow.lt hL2.out gl rfl).2).trans hS.2.1,(hb3.cell (p:=⟨g,5,none⟩) (show g<w2.heap.size by omega)).trans hS.2.2⟩,?_⟩
    clear hK K
    have hO3:=mkHid (World.ownsRow.kept hO2.out (grown_below (r:=none) hb3) (Classical.em _))
    have hL3:=mkHid (World.ownsRow.kept hL2.out (grown_below (r:=none) hb3) (Classical.em _))
    have hB3:=mkHid (hB2.out.trans (hb3.mono (by omega)))
    have hs3:=hb3.size
    have hS3:w3.cell? ⟨gl,k*2,none⟩=some (.string fn)∧w3.cell? ⟨gl,k*2+1,none⟩=some (.string fv)∧w3.cell? ⟨g,5,none⟩=some (.int .i64 h):=⟨(hb3.cell (p:=⟨gl,k*2,none⟩) (World.ownsRow.lt hL2.out gl rfl).2).trans hS.1,(hb3.cell (p:=⟨gl,k*2+1,none⟩) (World.ownsRow.lt hL2.out gl rfl).2).trans hS.2.1,(hb3.cell (p:=⟨g,5,none⟩) (show g<w2.heap.size by omega)).trans hS.2.2⟩
    clear hO2 hL2 hB2 hS cC
    go_simp
    refine wpAnyH_all (rs:=[8]) (by kernel_rfl) (by simp) ?_
    intro q hq
    simp only[List.mem_cons,List.not_mem_nil,or_false] at hq
    subst hq
    refine wpOp_step rfl (fun K hK=>?_)
    rw[if_pos (by rfl)]
    have hap:=own_apartF hO3.out hL3.out
    have hgk:=(World.ownsRow.lt hL3.out gl rfl).2
    have hne:some gl≠u7.ownBlock:=by
     rcases hap with e|e
     ·rw[e];simp
     ·exact fun x=>e x.symm
    have hlow:∀k,u7.ownBlock=some k→g+2≤k:=fun k hk=>(World.ownsRow.lt hO3.out k hk).1
    refine opAppS (.tmp 26) (.tmp 33) 22 9 rfl i5 Tryz.underlying22 Tryz.underlying9 hi5 hz50 hz51 hz52 (g+2) u7 O rfl hO3.out cf rfl (by omega) (by omega) ?_
    intro v4 w4 hO4' hg4
    have hO4:=mkHid hO4'
    have hL4:=mkHid (World.ownsRow.kept hL3.out hg4 (.inr hne))
    have hB4:=mkHid (hB3.out.grown hg4 (by omega) hlow)
    have hs4:=hg4.size
    have hc:∀j,w4.cell? ⟨gl,j,none⟩=w3.cell? ⟨gl,j,none⟩:=fun j=>World.cell?_of_block (hg4.block gl hgk hne)
    have hc5:w4.cell? ⟨g,5,none⟩=w3.cell? ⟨g,5,none⟩:=World.cell?_of_block (a:=⟨g,5,none⟩) (hg4.block g (by omega) (fun e=>by have:=hlow g e.symm;omega))
    refine hK _ _ ⟨⟨(hc _).trans hS3.1,(hc _).trans hS3.2.1,hc5.trans hS3.2.2⟩,?_⟩
    have hS4:w4.cell? ⟨gl,k*2,none⟩=some (.string fn)∧w4.cell? ⟨gl,k*2+1,none⟩=some (.string fv)∧w4.cell? ⟨g,5,none⟩=some (.int .i64 h):=⟨(hc _).trans hS3.1,(hc _).trans hS3.2.1,hc5.trans hS3.2.2⟩
    clear hK K hc hc5 hO4' hg4 hO3 hL3 hB3 hS3 hap hgk hne hlow hb3
    go_simp
    refine wpAnyH_take (i:=9) (v:=v4) rfl (by kernel_rfl) (by kernel_rfl) (by kernel_rfl) (fun _ _ _ h=>h) (Or.inl ⟨by rfl,?_⟩) hS4 ?_
    ·rintro w ⟨s1,s2,s3⟩
     go_simp
    go_simp
    refine wpAnyH_done (by kernel_rfl) ?_ _
    have cD:=mkHid (implDelete (g+2) _ L k w4 hL4.out hkL (by omega))
    clear hS4
    go_wp2_with fail
    refine cD.out.mono ?_
    rintro e w5 ⟨v5,rfl,hL5,hv5,hg5⟩
    clear cD
    have hO5:=mkHid (World.ownsRow.kept hO4.out hg5 (own_apartF hO4.out hL4.out))
    have hB5:=mkHid (hB4.out.grown hg5 (by omega) (fun k hk=>(World.ownsRow.lt hL4.out k hk).1))
    have hLz5:Hid (∀f ∈ L.eraseIdx k,f.1.length≤100000∧f.2.length≤100000):=fun f hf=>hLz.out f (List.mem_of_mem_eraseIdx hf)
    have hl5:(L.eraseIdx k).length≤200:=by rw[List.length_eraseIdx_of_lt hkL];omega
    have HL5:=mkHid hL5
    clear hL5 hv5 hg5 hO4 hL4 hB4
    go_wp2
    go_roundw
    case rel=>exact⟨i+1,L.eraseIdx k,_,by omega,hl5,by go_num,hO5,HL5,hnx,hLz5,hB5⟩
    case measure=>simp[Lib.intOf];omega
  ·have z5:=(hB.out.cell (p:=⟨g,5,none⟩) (show g<g+2 by omega)).trans e5
   have z0:=(hB.out.cell (p:=⟨g+1,0,none⟩) (show g+1<g+2 by omega)).trans o0
   have z1:=(hB.out.cell (p:=⟨g+1,1,none⟩) (show g+1<g+2 by omega)).trans o1
   go_wp2_with fail
   refine(cO.out wr).mono ?_
   rintro e w2 ⟨rfl,hb2⟩
   have hre:Hid (R=O):=by
    show _=_
    rw[← hp.out,List.drop_eq_nil_of_le (by omega)]
    simp[tkL]
   have hO2:=mkHid (World.ownsRow.kept hO.out (grown_below (r:=none) hb2) (Classical.em _))
   have hB2:=mkHid (hB.out.trans (hb2.mono (by omega)))
   have hs2:=hb2.size
   have cT:=mkHid (libTrimOwn p w2 hps)
   clear hb2 hB hO hL cO hp z5 z0 z1
   go_wp2_with (go_at_call 136;fail)
   refine cT.out.mono ?_
   rintro e w3 ⟨rfl,rfl⟩
   clear cT
   go_wp2_with (at_builtin;refine wp_apps rfl _ _ 22 9 rfl i5 Tryz.underlying22 Tryz.underlying9 hi5 hz50 hz51 hz52 (g+2) u7 O rfl hO2.out p rfl (by omega) (Nat.le_of_eq hs0.symm) hB2.out ?_;intro v4 w4 hO4 hB4;have hbk:=hO4.back (P:=Tryz.prog) 22 9 Tryz.underlying22 Tryz.underlying5 Tryz.underlying9)
   go_ret
   refine⟨?_,by rw[Hg.out];exact HbW0.out.trans (hB4.mono (Nat.le_add_right g 2))⟩
   rw[hre.out]
   refine congrArg (fun x=>Ending.returned (.string x)) ?_
   apply ByteArray.ext
   apply Array.toList_inj.1
   rw[ByteArray.data_append,Array.toList_append]
end Go.Proofs.YtibbpmhbgbafhaaGreatDoor
