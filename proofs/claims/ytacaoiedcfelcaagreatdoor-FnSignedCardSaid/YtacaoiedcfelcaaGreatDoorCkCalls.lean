import Derived.Test.YtacaoiedcfelcaaGreatDoorOwnF
import Derived.Test.YtacaoiedcfelcaaGreatDoorSgSpec
import Derived.Test.YtacaoiedcfelcaaGreatDoorCanonImpl
import Derived.Test.YtacaoiedcfelcaaGreatDoorSgSpecSign
import Derived.Test.YtacaoiedcfelcaaGreatDoorScan
import Derived.Test.YtacaoiedcfelcaaGreatDoorCkSgd
set_option maxRecDepth 20000
set_option maxHeartbeats 8000000
namespace Go.Proofs.YtacaoiedcfelcaaGreatDoor
open Go.RowKit Go.Lib Go.Maps
theorem bcellS {w:World} {a:Addr} {v:Value} (h:w.cell? a=some v):a.block<w.heap.size:=by
 rcases Nat.lt_or_ge a.block w.heap.size with h'|h'
 ·exact h'
 ·simp[World.cell?,Array.getElem?_eq_none h'] at h
theorem implSignBad (msg d s:ByteArray)(A B h b:Int)(on:Option Addr)(M:List ByteArray)(cap:Nat)(w:World)(hmsg:msg.size≤1048576)(hd:d.size≤1048576)(hs:s.size≤1048576)(hM:Tx w.heap.size w on M)(hml:M.length≤1048576)(hmz:∀t ∈ M,t.size≤1048576)(mx:Int)(hm:w.cell? ⟨0,0,none⟩=some (.int .i64 mx))(hbad:¬(signerOk d s A B M h b=true∧(RH msg).code=0∧¬(RH msg).fields.length=200)) :
  Calls Tryz.prog 5 #[.string msg,sgV d s A B (.slice on M.length cap) h b] w fun e w'=>e=.returned (.string ⟨#[]⟩)∧Below w.heap.size w w':=by
 have HM:=mkHid hM
 have Hm:=mkHid hm
 have Hmz:=mkHid hmz
 clear hM hmz
 obtain⟨W0,hW0⟩:∃W0,W0=w.alloc (sgRow d s A B (.slice on M.length cap) h b):=⟨_,rfl⟩
 have hs0:W0.heap.size=w.heap.size+1:=by rw[hW0];simp
 have hbW0:=mkHid (show Below w.heap.size w W0 by rw[hW0];exact(Below.refl _ _).alloc (Nat.le_refl _) _)
 have hrow0:=mkHid (show W0.heap[w.heap.size]?=some (.cells #[.string d,.string s,.int .i64 A,.int .i64 B,.slice on M.length cap,.int .i64 h,.int .i64 b] 27 (0,0)) by rw[hW0];exact heap_alloc_at _ _)
 have cR:=mkHid (implRH msg W0 hmsg)
 have HW0:=mkHid hW0
 have Hbad:=mkHid hbad
 have HL:=mkHid (RH_len msg)
 clear hW0 hbad
 generalize RH msg=H at *
 go_enter Tryz.func5,Tryz.ntmps5
 go_wp2_with fail
 rw[← HW0.out]
 refine cR.out.mono ?_
 rintro e w1 ⟨o,c,rfl,hF1,hb1⟩
 obtain⟨n,hn⟩:∃n,H.fields.length=n:=⟨_,rfl⟩
 obtain⟨cd,hcd⟩:∃cd,H.code=cd:=⟨_,rfl⟩
 rw[hn,hcd] at Hbad
 rw[hn] at HL
 have hn2:=HL.out
 obtain⟨V,hV⟩:∃V,V=w1.alloc (.cells #[.int .i64 H.code,.int .i64 H.at_,.slice o H.fields.length c,.int .i64 H.body] 41):=⟨_,rfl⟩
 have hrow1:=(hb1.block _ (show w.heap.size<W0.heap.size by omega)).trans hrow0.out
 have hlt1:w.heap.size<w1.heap.size:=by have:=hb1.size;omega
 have hrowV:V.heap[w.heap.size]?=some (.cells #[.string d,.string s,.int .i64 A,.int .i64 B,.slice on M.length cap,.int .i64 h,.int .i64 b] 27 (0,0)):=by rw[hV];exact(Below.heap_alloc w1 _ _ hlt1).trans hrow1
 have hhdV:=mkHid (show V.heap[w1.heap.size]?=some (.cells #[.int .i64 H.code,.int .i64 H.at_,.slice o H.fields.length c,.int .i64 H.body] 41 (0,0)) by rw[hV];exact heap_alloc_at _ _)
 have hbV:=mkHid (show Below w.heap.size w V by rw[hV];exact(hbW0.out.trans (hb1.mono (by omega))).alloc (by omega) _)
 have hsV:V.heap.size=w1.heap.size+1:=by rw[hV];simp
 obtain⟨c0,c1,c2,c3,c4,c5,c6⟩:=sg_cells hrowV
 have cF:=mkHid (implSigner d s A B h b mx on M cap V hd hs ((HM.out.below hbV.out).mono hbV.out.size) hml Hmz.out ((hbV.out.cell (bcellS Hm.out)).trans Hm.out))
 rw[hV] at c0 c1 c2 c3 c4 c5 c6
 have HV:=mkHid hV
 have Hn:=mkHid hn
 have Hcd:=mkHid hcd
 clear cR hF1 hb1 hV hrow0 hrow1 hrowV hn hcd
 go_wp2_with (go_at_call 15;fail)
 rw[← HV.out]
 refine cF.out.mono ?_
 rintro e w3 ⟨rfl,hb3⟩
 have hhd3:=(hb3.block _ (show w1.heap.size<V.heap.size by omega)).trans hhdV.out
 have q0:w3.cell? ⟨w1.heap.size,0,none⟩=some (.int .i64 (cd:Int)):=by rw[← Hcd.out];simp[World.cell?,hhd3]
 have q2:w3.cell? ⟨w1.heap.size,2,none⟩=some (.slice o n c):=by rw[← Hn.out];simp[World.cell?,hhd3]
 have hend:=mkHid (hbV.out.trans (hb3.mono hbV.out.size))
 clear c0 c1 c2 c3 c4 c5 c6 cF hb3 hhd3 hhdV HV
 cases hok:signerOk d s A B M h b with
 | false=>
  unfold dcode
  go_wp2
  go_ret
  exact⟨rfl,hend.out⟩
 | true=>
  rw[hok] at Hbad
  unfold dcode
  by_cases h1:cd=0
  ·have h2:n=200:=by
    refine Classical.byContradiction fun hx=>Hbad.out ⟨rfl,h1,hx⟩
   subst h1
   subst h2
   go_wp2
   go_ret
   exact⟨rfl,hend.out⟩
  ·have hx:((cd:Int) != 0)=true:=by simp;omega
   go_wp2
   go_ret
   exact⟨rfl,hend.out⟩
abbrev sgRow11 (d s:ByteArray)(A B:Nat)(fb ML cap:Nat)(h b:Int)(x1 y1:Nat):Array Value:=#[.string d,.string s,.int .i64 (A:Int),.int .i64 (B:Int),.slice (some ⟨fb,0,none⟩) ML cap,.int .i64 h,.int .i64 b,.int .i64 (x1:Int),.int .i64 (y1:Int),.int .i64 (0:Int),.int .i64 (0:Int)]
abbrev sgZero11:Array Value:=#[.string ⟨#[]⟩,.string ⟨#[]⟩,.int .i64 0,.int .i64 0,.slice none 0 0,.int .i64 0,.int .i64 0,.int .i64 0,.int .i64 0,.int .i64 0,.int .i64 0]
def sgMid (msg d s:ByteArray)(A B:Nat)(h b:Int)(fb ML cap x1 y1 G G1:Nat)(w3:World)(ex:Exit)(a':Act)(w':World):Prop:=
 ex=.normal∧∃(ga:Nat) (z1 z2 z4 z7 z8 z9 z10 z11 z12 z13 z14 z15 z16 z17 z18 z19 z20 z21 z22 z23 z24 z25 z26 z27 z28 z29 z30 z31 z32 z33 z34 z35 z36 z37 z38 z39 z40 z41 z42 z43 z44 z45 z46 z47 z48 z49 z50 z51 z52 z53:Value),a' = { tmps:=#[.string msg,z1,z2,.pointer (some ⟨G,0,none⟩),z4,.pointer (some ⟨G1,0,none⟩),.pointer (some ⟨ga,0,none⟩),z7,z8,z9,z10,z11,z12,z13,z14,z15,z16,z17,z18,z19,z20,z21,z22,z23,z24,z25,z26,z27,z28,z29,z30,z31,z32,z33,z34,z35,z36,z37,z38,z39,z40,z41,z42,z43,z44,z45,z46,z47,z48,z49,z50,z51,z52,z53],defers:=[] }∧w3.heap.size≤ga∧w'.heap[ga]?=some (.cells (sgRow11 d s A B fb ML cap h b x1 y1) 54 (0,0))∧Below w3.heap.size w3 w'
theorem sgMid_no {msg d s:ByteArray} {A B:Nat} {h b:Int} {fb ML cap x1 y1 G G1:Nat} {w3:World} {ex:Exit} {a':Act} {w':World} (hm:sgMid msg d s A B h b fb ML cap x1 y1 G G1 w3 ex a' w'):ex=.normal:=hm.1
theorem belowRow {B g:Nat} {a w:World} (hb:Below B a w)(hBg:B≤g)(cs:Array Value):Below B a (w.setRow g cs):=⟨hb.os,hb.tape,hb.output,by rw[size_setRow];exact hb.size,fun k hk=>(setRow_other _ _ _ _ (by omega)).trans (hb.block k hk)⟩
theorem hp_lt2 {w:World} {g:Nat} {o:Obj} (h:w.heap[g]?=some o):g<w.heap.size:=(Array.getElem?_eq_some_iff.1 h).1
theorem belowDrew {B:Nat} {a w:World} (h:Below B a w):Below B a w.drew:=⟨h.os,h.tape,h.output,h.size,h.block⟩
theorem implSignGood (msg d s:ByteArray)(A B:Nat)(h b:Int)(fb:Nat)(M:List ByteArray)(cap:Nat)(hcap:M.length≤cap)(w:World)(mx:Int)(hm:w.cell? ⟨0,0,none⟩=some (.int .i64 mx))(hP:PTab w)(hM:Tx w.heap.size w (some ⟨fb,0,none⟩) M)(hok:signerOk d s A B M h b=true)(hcode:(RH msg).code=0)(hlen:¬(RH msg).fields.length=200) :
  Calls Tryz.prog 5 #[.string msg,sgV d s A B (.slice (some ⟨fb,0,none⟩) M.length cap) h b] w fun e w'=>e=.returned (.string (Pl.added ⟨(Pl.hd [] [(sgName,sgValue msg d s A B M h b)]).toArray⟩ msg))∧Below w.heap.size w w':=by
 obtain⟨hd,hs,⟨A',hA,hA0,hA1⟩,⟨B',hB,hB0,hB1⟩,hh,hbb,hml,hmz⟩:=signer_parts d s A B M h b hok
 obtain rfl:A=A':=by omega
 obtain rfl:B=B':=by omega
 obtain⟨hmsg,hfs⟩:=RH_good msg hcode
 obtain⟨v1,v2,v3,v4⟩:=own_value msg d s A B M h b hok
 obtain⟨p,hp,hps⟩:=own_form (sgFront msg d s A B M h b) h v1 (by omega) hh
 obtain⟨hhead,hhs⟩:=head_size msg d s A B M h b hcode p hp hps
 have hbs:=body_size msg b hmsg
 have hRb:=RH_body msg
 have hfz:=fl_size _ _ hfs
 have hfl:=RH_len msg
 have hbz:(msg.extract (RH msg).body msg.size).size≤100000:=by rw[ByteArray.size_extract];omega
 have HM:=mkHid hM
 have Hm:=mkHid hm
 have HP:=mkHid hP
 have Hmz:=mkHid hmz
 clear hM hmz hm hP
 have ht:(⟨(Pl.hd [] [(sgName,sgValue msg d s A B M h b)]).toArray⟩:ByteArray).size≤100000:=by
  show((Pl.hd [] [(sgName,sgValue msg d s A B M h b)]).toArray).size≤_
  rw[List.size_toArray,own_hd _ v3 v4,Pl.line_len]
  show 9+(sgValue msg d s A B M h b).size+3≤100000
  omega
 have hm1:1≤M.length:=by
  have:=hok
  unfold signerOk at this
  simp only[Bool.and_eq_true,decide_eq_true_eq] at this
  exact this.2.2.2.2.2.1
 have hNm:=mkHid (show ∀(j:Nat) t,M[j]?=some t→w.cell? ⟨fb,0+j,none⟩=some (.string t) from by
  intro j t ht
  obtain⟨hj,rfl⟩:=List.getElem?_eq_some_iff.1 ht
  obtain⟨a,e,ha,hc⟩:=HM.out j hj
  cases e
  rw[add_off] at hc
  rw[Nat.zero_add]
  exact hc)
 have hfb:fb<w.heap.size:=by
  obtain⟨a,e,ha,hc⟩:=HM.out 0 (by omega)
  cases e
  exact ha
 have KF:=mkHid (fun (w':World) (hb:Below w.heap.size w w') (p q:Nat)=>implFront d s A B h b fb 0 M cap (Ps.sm A 1 (sgBody msg b).data.toList) (Ps.sm B 1 (sgBody msg b).data.toList) p q w' (by omega) (by omega) (fun j t ht=>(hb.cell (p:=⟨fb,0+j,none⟩) hfb).trans (hNm.out j t ht)) (Nat.lt_of_lt_of_le hfb hb.size) hml hcap Hmz.out hh hbb (sm_lt A 1 _ (by decide)) (sm_lt B 1 _ (by decide)) (ptab_on HP.out (ptab_lt HP.out) hb))
 have KV:=mkHid (fun (w':World) (hb:Below w.heap.size w w')=>implValueT d s A B h b fb 0 M cap (Ps.sm A 1 (sgBody msg b).data.toList) (Ps.sm B 1 (sgBody msg b).data.toList) (Ps.sm A 1 (sgHead msg d s A B M h b).data.toList) (Ps.sm B 1 (sgHead msg d s A B M h b).data.toList) w' (by omega) (by omega) (fun j t ht=>(hb.cell (p:=⟨fb,0+j,none⟩) hfb).trans (hNm.out j t ht)) (Nat.lt_of_lt_of_le hfb hb.size) hml hcap Hmz.out hh hbb (sm_lt A 1 _ (by decide)) (sm_lt B 1 _ (by decide)) (sm_lt A 1 _ (by decide)) (sm_lt B 1 _ (by decide)) (ptab_on HP.out (ptab_lt HP.out) hb))
 rw[show frontT d s M h b (Ps.sm A 1 (sgBody msg b).data.toList) (Ps.sm B 1 (sgBody msg b).data.toList)=sgFront msg d s A B M h b from rfl] at KF KV
 rw[show sgFront msg d s A B M h b++sumT (Ps.sm A 1 (sgHead msg d s A B M h b).data.toList) (Ps.sm B 1 (sgHead msg d s A B M h b).data.toList)=sgValue msg d s A B M h b from rfl] at KV
 have KB:=mkHid (fun (w':World) (hb:Below w.heap.size w w')=>implCanonBody (msg.extract (RH msg).body msg.size) b mx w' (by omega) ((hb.cell (bcellS Hm.out)).trans Hm.out))
 have KS1:=mkHid (fun w'=>implSum d s (sgBody msg b) A B w' (by omega) (by omega) hbs hA0 hA1 hB0 hB1)
 have KT:=mkHid (fun (w':World) (hb:Below w.heap.size w w') (Bf:Nat) (vf:Value) (hF:OwnF Bf vf (RH msg).fields w')=>implSigned d s A B h b (some ⟨fb,0,none⟩) M cap Bf vf (RH msg).fields (sgFront msg d s A B M h b) p w' ((HM.out.below hb).mono hb.size) hml Hmz.out hF hfl (by
  intro f' h1
  have hq:=fl_size _ _ hfs f' h1
  omega) (by rw[fsum_toBA];exact hfs) (by omega) hp hps)
 rw[← hhead] at KT
 have KS2:=mkHid (fun w'=>implSum d s (sgHead msg d s A B M h b) A B w' (by omega) (by omega) hhs hA0 hA1 hB0 hB1)
 have KA:=mkHid (fun (W:World)=>implAdd msg ⟨(Pl.hd [] [(sgName,sgValue msg d s A B M h b)]).toArray⟩ (.slice (some ⟨W.heap.size,0,none⟩) 1 1) (W.alloc (.cells #[.string sgName,.string (sgValue msg d s A B M h b)] 38)) (by omega) ht (fun w1 e=>by
  rw[e]
  exact implWriteHead (some ⟨W.heap.size,0,none⟩) [(sgName,sgValue msg d s A B M h b)] 1 _ (oneFld _ _ W _) (by show 1≤200;omega) (by
   intro f hf
   rw[List.mem_singleton.1 hf]
   exact⟨by show 9≤1048576;omega,by show(sgValue msg d s A B M h b).size≤_;omega⟩)))
 rw[show(canonAny (msg.extract (RH msg).body msg.size) b)=sgBody msg b from rfl] at KB
 generalize Pl.added ⟨(Pl.hd [] [(sgName,sgValue msg d s A B M h b)]).toArray⟩ msg=R at *
 clear hp hhead ht hfs v1 v3 hfz hhs hbs hbz
 generalize sgValue msg d s A B M h b=val at *
 generalize hX1:Ps.sm A 1 (sgHead msg d s A B M h b).data.toList=x2 at *
 generalize hX2:Ps.sm B 1 (sgHead msg d s A B M h b).data.toList=y2 at *
 generalize hX3:Ps.sm A 1 (sgBody msg b).data.toList=x1 at *
 generalize hX4:Ps.sm B 1 (sgBody msg b).data.toList=y1 at *
 clear hX1 hX2 hX3 hX4
 generalize sgHead msg d s A B M h b=t2 at *
 generalize sgFront msg d s A B M h b=fr at *
 generalize sgBody msg b=t1 at *
 obtain⟨W0,hW0⟩:∃W0,W0=w.alloc (sgRow d s A B (.slice (some ⟨fb,0,none⟩) M.length cap) h b):=⟨_,rfl⟩
 have hs0:W0.heap.size=w.heap.size+1:=by rw[hW0];simp
 have hbW0:=mkHid (show Below w.heap.size w W0 by rw[hW0];exact(Below.refl _ _).alloc (Nat.le_refl _) _)
 have hrow0:=mkHid (show W0.heap[w.heap.size]?=some (.cells #[.string d,.string s,.int .i64 A,.int .i64 B,.slice (some ⟨fb,0,none⟩) M.length cap,.int .i64 h,.int .i64 b] 27 (0,0)) by rw[hW0];exact heap_alloc_at _ _)
 have cR:=mkHid (implRH msg W0 (by omega))
 have HW0:=mkHid hW0
 clear hW0
 generalize RH msg=H at *
 go_enter Tryz.func5,Tryz.ntmps5
 go_wp2_with fail
 rw[← HW0.out]
 refine cR.out.mono ?_
 rintro e w1 ⟨o,c,rfl,hF1,hb1⟩
 obtain⟨n,hn⟩:∃n,H.fields.length=n:=⟨_,rfl⟩
 obtain⟨bd,hbd⟩:∃bd,H.body=bd:=⟨_,rfl⟩
 obtain⟨V,hV⟩:∃V,V=w1.alloc (.cells #[.int .i64 H.code,.int .i64 H.at_,.slice o H.fields.length c,.int .i64 H.body] 41):=⟨_,rfl⟩
 have hrow1:=(hb1.block _ (show w.heap.size<W0.heap.size by omega)).trans hrow0.out
 have hlt1:w.heap.size<w1.heap.size:=by have:=hb1.size;omega
 have hrowV:V.heap[w.heap.size]?=some (.cells #[.string d,.string s,.int .i64 A,.int .i64 B,.slice (some ⟨fb,0,none⟩) M.length cap,.int .i64 h,.int .i64 b] 27 (0,0)):=by rw[hV];exact(Below.heap_alloc w1 _ _ hlt1).trans hrow1
 have hhdV:=mkHid (show V.heap[w1.heap.size]?=some (.cells #[.int .i64 H.code,.int .i64 H.at_,.slice o H.fields.length c,.int .i64 H.body] 41 (0,0)) by rw[hV];exact heap_alloc_at _ _)
 have hbV:=mkHid (show Below w.heap.size w V by rw[hV];exact(hbW0.out.trans (hb1.mono (by omega))).alloc (by omega) _)
 have hFV:=mkHid (show OwnF W0.heap.size (.slice o H.fields.length c) H.fields V by rw[hV];exact hF1.alloc _)
 have hsV:V.heap.size=w1.heap.size+1:=by rw[hV];simp
 obtain⟨c0,c1,c2,c3,c4,c5,c6⟩:=sg_cells hrowV
 have HrV:=mkHid hrowV
 have cF:=mkHid (implSigner d s A B h b mx (some ⟨fb,0,none⟩) M cap V (by omega) (by omega) ((HM.out.below hbV.out).mono hbV.out.size) (by omega) (fun t ht=>Nat.le_trans (Hmz.out t ht) (by omega)) ((hbV.out.cell (bcellS Hm.out)).trans Hm.out))
 rw[hok] at cF
 rw[hV] at c0 c1 c2 c3 c4 c5 c6
 have HV:=mkHid hV
 have Hn:=mkHid hn
 have Hbd:=mkHid hbd
 rw[hn] at hlen hfl
 rw[hbd] at hRb KB
 have Hcode:=mkHid hcode
 clear cR hF1 hb1 hV hrow0 hrow1 hrowV hn hbd hok hcode
 unfold dcode at cF
 go_wp2_with (go_at_call 15;fail)
 rw[← HV.out]
 refine cF.out.mono ?_
 rintro e w3 ⟨rfl,hb3⟩
 have hhd3:=(hb3.block _ (show w1.heap.size<V.heap.size by omega)).trans hhdV.out
 have q0:w3.cell? ⟨w1.heap.size,0,none⟩=some (.int .i64 0):=by
  have:w3.cell? ⟨w1.heap.size,0,none⟩=some (.int .i64 (H.code:Int)):=by simp[World.cell?,hhd3]
  rw[this,Hcode.out];rfl
 have q2:w3.cell? ⟨w1.heap.size,2,none⟩=some (.slice o n c):=by rw[← Hn.out];simp[World.cell?,hhd3]
 have q3:w3.cell? ⟨w1.heap.size,3,none⟩=some (.int .i64 (bd:Int)):=by rw[← Hbd.out];simp[World.cell?,hhd3]
 have hrow3:=(hb3.block _ (show w.heap.size<V.heap.size by omega)).trans HrV.out
 have hB3:=mkHid (hbV.out.trans (hb3.mono hbV.out.size))
 have hF3:=mkHid (show OwnF W0.heap.size (.slice o H.fields.length c) H.fields w3 from World.ownsRow.kept hFV.out (grown_below (r:=none) hb3) (Classical.em _))
 have hs3:=hb3.size
 have hx200:((n:Int)==200)=false:=by rw[beq_eq_false_iff_ne];omega
 clear c0 c1 c2 c3 c4 c5 c6 cF hb3 HV HrV hFV
 go_wp2
 obtain⟨G,hG⟩:∃G,w.heap.size=G:=⟨_,rfl⟩
 obtain⟨G1,hG1⟩:∃G1,w1.heap.size=G1:=⟨_,rfl⟩
 obtain⟨g0,g1,g2,g3,g4,g5,g6⟩:=sg_cells hrow3
 rw[hG1] at q3
 rw[hG] at g0 g1 g2 g3 g4 g5 g6
 have hGs:G<w3.heap.size:=by omega
 have hG1s:G1<w3.heap.size:=by omega
 have HS:Hid (∀w',Below w3.heap.size w3 w'→w'.cell? ⟨G,0,none⟩=some (.string d)∧w'.cell? ⟨G,1,none⟩=some (.string s)∧w'.cell? ⟨G,2,none⟩=some (.int .i64 (A:Int))∧w'.cell? ⟨G,3,none⟩=some (.int .i64 (B:Int))∧w'.cell? ⟨G,4,none⟩=some (.slice (some ⟨fb,0,none⟩) M.length cap)∧w'.cell? ⟨G,5,none⟩=some (.int .i64 h)∧w'.cell? ⟨G,6,none⟩=some (.int .i64 b)∧w'.cell? ⟨G1,3,none⟩=some (.int .i64 (bd:Int))):=fun w' hb=>⟨(hb.cell (p:=⟨G,0,none⟩) hGs).trans g0,(hb.cell (p:=⟨G,1,none⟩) hGs).trans g1,(hb.cell (p:=⟨G,2,none⟩) hGs).trans g2,(hb.cell (p:=⟨G,3,none⟩) hGs).trans g3,(hb.cell (p:=⟨G,4,none⟩) hGs).trans g4,(hb.cell (p:=⟨G,5,none⟩) hGs).trans g5,(hb.cell (p:=⟨G,6,none⟩) hGs).trans g6,(hb.cell (p:=⟨G1,3,none⟩) hG1s).trans q3⟩
 have KB3:=mkHid (fun (W:World) (hb:Below w3.heap.size w3 W)=>KB.out W (hB3.out.trans (hb.mono hB3.out.size)))
 have hbd2:(bd:Int)≤(msg.size:Int):=by omega
 have Hq2:=mkHid q2
 have Hrow3:=mkHid hrow3
 have HG:=mkHid hG
 have HG1:=mkHid hG1
 have hS0:=HS.out w3 (Below.refl _ _)
 rw[hG,hG1]
 clear KB q0 q2 q3 g0 g1 g2 g3 g4 g5 g6 hG hG1 hrow3
 refine Code.wp_mono (Q:=sgMid msg d s A B h b fb M.length cap x1 y1 G G1 w3) (fun ex a' w' hmid=>?_) ?_
 rotate_left
 ·have h30:=Below.refl w3.heap.size w3
  refine wp_region_held (S:=fun w=>w.cell? ⟨G,0,none⟩=some (.string d)∧w.cell? ⟨G,1,none⟩=some (.string s)∧w.cell? ⟨G,2,none⟩=some (.int .i64 (A:Int))∧w.cell? ⟨G,3,none⟩=some (.int .i64 (B:Int))∧w.cell? ⟨G,4,none⟩=some (.slice (some ⟨fb,0,none⟩) M.length cap)∧w.cell? ⟨G,5,none⟩=some (.int .i64 h)∧w.cell? ⟨G,6,none⟩=some (.int .i64 b)∧w.cell? ⟨G1,3,none⟩=some (.int .i64 (bd:Int))) (by kernel_rfl) ?_
  refine wpAnyH_take (i:=0) (v:=.agg #[.string d,.string s,.int .i64 (A:Int),.int .i64 (B:Int),.slice (some ⟨fb,0,none⟩) M.length cap,.int .i64 h,.int .i64 b]) rfl (by kernel_rfl) (by kernel_rfl) (by kernel_rfl) (fun _ _ _ h=>by cases sgMid_no h) (Or.inl ⟨by rfl,?_⟩) hS0 ?_
  ·rintro w ⟨s0,s1,s2,s3,s4,s5,s6,sb⟩
   go_simp
   all_goals first|done|(intro h;exfalso;omega)|omega
  go_simp
  refine wpAnyH_take (i:=1) (v:=.pointer (some ⟨G,0,none⟩)) rfl (by kernel_rfl) (by kernel_rfl) (by kernel_rfl) (fun _ _ _ h=>by cases sgMid_no h) (Or.inl ⟨by rfl,?_⟩) hS0 ?_
  ·rintro w ⟨s0,s1,s2,s3,s4,s5,s6,sb⟩
   go_simp
   all_goals first|done|(intro h;exfalso;omega)|omega
  go_simp
  refine wpAnyH_take (i:=2) (v:=.agg #[.string d,.string s,.int .i64 (A:Int),.int .i64 (B:Int)]) rfl (by kernel_rfl) (by kernel_rfl) (by kernel_rfl) (fun _ _ _ h=>by cases sgMid_no h) (Or.inl ⟨by rfl,?_⟩) hS0 ?_
  ·rintro w ⟨s0,s1,s2,s3,s4,s5,s6,sb⟩
   go_simp
   all_goals first|done|(intro h;exfalso;omega)|omega
  go_simp
  refine wpAnyH_take (i:=3) (v:=.string msg) rfl (by kernel_rfl) (by kernel_rfl) (by kernel_rfl) (fun _ _ _ h=>by cases sgMid_no h) (Or.inl ⟨by rfl,?_⟩) hS0 ?_
  ·rintro w ⟨s0,s1,s2,s3,s4,s5,s6,sb⟩
   go_simp
   all_goals first|done|(intro h;exfalso;omega)|omega
  go_simp
  refine wpAnyH_take (i:=4) (v:=.pointer (some ⟨G1,3,none⟩)) rfl (by kernel_rfl) (by kernel_rfl) (by kernel_rfl) (fun _ _ _ h=>by cases sgMid_no h) (Or.inl ⟨by rfl,?_⟩) hS0 ?_
  ·rintro w ⟨s0,s1,s2,s3,s4,s5,s6,sb⟩
   go_simp
   all_goals first|done|(intro h;exfalso;omega)|omega
  go_simp
  refine wpAnyH_take (i:=5) (v:=.int .i64 (bd:Int)) rfl (by kernel_rfl) (by kernel_rfl) (by kernel_rfl) (fun _ _ _ h=>by cases sgMid_no h) (Or.inl ⟨by rfl,?_⟩) hS0 ?_
  ·rintro w ⟨s0,s1,s2,s3,s4,s5,s6,sb⟩
   go_simp
   all_goals first|done|(intro h;exfalso;omega)|omega
  go_simp
  refine wpAnyH_take (i:=6) (v:=.string (msg.extract bd msg.size)) rfl (by kernel_rfl) (by kernel_rfl) (by kernel_rfl) (fun _ _ _ h=>by cases sgMid_no h) (Or.inl ⟨by rfl,?_⟩) hS0 ?_
  ·rintro w ⟨s0,s1,s2,s3,s4,s5,s6,sb⟩
   go_simp
   all_goals first|done|(intro h;exfalso;omega)|omega
  go_simp
  refine wpAnyH_take (i:=7) (v:=.pointer (some ⟨G,6,none⟩)) rfl (by kernel_rfl) (by kernel_rfl) (by kernel_rfl) (fun _ _ _ h=>by cases sgMid_no h) (Or.inl ⟨by rfl,?_⟩) hS0 ?_
  ·rintro w ⟨s0,s1,s2,s3,s4,s5,s6,sb⟩
   go_simp
   all_goals first|done|(intro h;exfalso;omega)|omega
  go_simp
  refine wpAnyH_take (i:=8) (v:=.int .i64 b) rfl (by kernel_rfl) (by kernel_rfl) (by kernel_rfl) (fun _ _ _ h=>by cases sgMid_no h) (Or.inl ⟨by rfl,?_⟩) hS0 ?_
  ·rintro w ⟨s0,s1,s2,s3,s4,s5,s6,sb⟩
   go_simp
   all_goals first|done|(intro h;exfalso;omega)|omega
  go_simp
  refine wpAnyH_all (rs:=[9,12]) (by kernel_rfl) (by simp) ?_
  intro q hq
  simp only[List.mem_cons,List.not_mem_nil,or_false] at hq
  rcases hq with rfl|rfl
  ·refine wpOp_step rfl (fun K hK=>?_)
   go_simp
   refine(KB3.out _ (by first|exact h30|exact belowDrew h30)).mono ?_
   rintro e wc6 ⟨rfl,hc6p⟩
   have hc6q:Below (w3).heap.size (w3) wc6:=⟨hc6p.os,hc6p.tape,hc6p.output,hc6p.size,hc6p.block⟩
   have hc6:Below w3.heap.size w3 wc6:=h30.trans (hc6q.mono h30.size)
   refine hK _ _ ⟨HS.out _ hc6,?_⟩
   clear hK K
   go_simp
   refine wpAnyH_all (rs:=[10,12]) (by kernel_rfl) (by simp) ?_
   intro q hq
   simp only[List.mem_cons,List.not_mem_nil,or_false] at hq
   rcases hq with rfl|rfl
   ·refine wpOp_step rfl (fun K hK=>?_)
    go_simp
    refine(KS1.out _).mono ?_
    rintro e wc7 ⟨rfl,hc7p⟩
    have hc7q:Below (wc6).heap.size (wc6) wc7:=⟨hc7p.os,hc7p.tape,hc7p.output,hc7p.size,hc7p.block⟩
    have hc7:Below w3.heap.size w3 wc7:=hc6.trans (hc7q.mono hc6.size)
    refine hK _ _ ⟨HS.out _ hc7,?_⟩
    clear hK K
    go_simp
    refine wpAnyH_take (i:=11) (v:=.agg (sgRow11 d s A B fb M.length cap h b x1 y1)) rfl (by kernel_rfl) (by kernel_rfl) (by kernel_rfl) (fun _ _ _ h=>by cases sgMid_no h) (Or.inl ⟨by rfl,?_⟩) (HS.out _ (by first|exact hc7|exact belowDrew hc7)) ?_
    ·rintro w ⟨s0,s1,s2,s3,s4,s5,s6,sb⟩
     go_simp
     all_goals first|done|(intro h;exfalso;omega)|omega
    go_simp
    refine wpAnyH_all (rs:=[12]) (by kernel_rfl) (by simp) ?_
    intro q hq
    simp only[List.mem_cons,List.not_mem_nil,or_false] at hq
    subst hq
    refine wpOp_step rfl (fun K hK=>?_)
    go_simp
    have ha8:Below w3.heap.size w3 ((wc7).alloc (.cells sgZero11 54)):=(hc7).alloc (hc7.size) _
    have hz8:((wc7).alloc (.cells sgZero11 54)).heap[(wc7).heap.size]?=some (.cells sgZero11 54 (0,0)):=heap_alloc_at _ _
    refine hK _ _ ⟨HS.out _ (by first|exact ha8|exact belowDrew ha8),?_⟩
    clear hK K
    go_simp
    refine wpAnyH_all (rs:=[13]) (by kernel_rfl) (by simp) ?_
    intro q hq
    simp only[List.mem_cons,List.not_mem_nil,or_false] at hq
    subst hq
    refine wpOp_step rfl (fun K hK=>?_)
    rw[if_pos (by rfl)]
    refine wp_store_row 54 _ _ rfl ((wc7).heap.size) (sgRow11 d s A B fb M.length cap h b x1 y1) rfl rfl 54 _ hz8 (by kernel_rfl) rfl (by simp[Value.oneCell']) ?_
    refine hK _ _ ⟨HS.out _ (belowRow (by first|exact ha8|exact belowDrew ha8) hc7.size _),?_⟩
    clear hK K
    refine wpAnyH_done (by kernel_rfl) ?_ _
    exact⟨rfl,_,_,_,_,_,_,_,_,_,_,_,_,_,_,_,_,_,_,_,_,_,_,_,_,_,_,_,_,_,_,_,_,_,_,_,_,_,_,_,_,_,_,_,_,_,_,_,_,_,_,_,rfl,hc7.size,setRow_heap _ _ _ _ _ _ hz8,belowRow (by first|exact ha8|exact belowDrew ha8) hc7.size _⟩
   ·refine wpOp_step rfl (fun K hK=>?_)
    go_simp
    have ha9:Below w3.heap.size w3 ((wc6).alloc (.cells sgZero11 54)):=(hc6).alloc (hc6.size) _
    have hz9:((wc6).alloc (.cells sgZero11 54)).heap[(wc6).heap.size]?=some (.cells sgZero11 54 (0,0)):=heap_alloc_at _ _
    refine hK _ _ ⟨HS.out _ (by first|exact ha9|exact belowDrew ha9),?_⟩
    clear hK K
    go_simp
    refine wpAnyH_all (rs:=[10]) (by kernel_rfl) (by simp) ?_
    intro q hq
    simp only[List.mem_cons,List.not_mem_nil,or_false] at hq
    subst hq
    refine wpOp_step rfl (fun K hK=>?_)
    go_simp
    refine(KS1.out _).mono ?_
    rintro e wc10 ⟨rfl,hc10p⟩
    have hc10q:Below ((wc6).alloc (.cells sgZero11 54)).heap.size ((wc6).alloc (.cells sgZero11 54)) wc10:=⟨hc10p.os,hc10p.tape,hc10p.output,hc10p.size,hc10p.block⟩
    have hc10:Below w3.heap.size w3 wc10:=ha9.trans (hc10q.mono ha9.size)
    refine hK _ _ ⟨HS.out _ hc10,?_⟩
    clear hK K
    go_simp
    have hz11:=(hc10q.block _ (hp_lt2 hz9)).trans hz9
    refine wpAnyH_take (i:=11) (v:=.agg (sgRow11 d s A B fb M.length cap h b x1 y1)) rfl (by kernel_rfl) (by kernel_rfl) (by kernel_rfl) (fun _ _ _ h=>by cases sgMid_no h) (Or.inl ⟨by rfl,?_⟩) (HS.out _ (by first|exact hc10|exact belowDrew hc10)) ?_
    ·rintro w ⟨s0,s1,s2,s3,s4,s5,s6,sb⟩
     go_simp
     all_goals first|done|(intro h;exfalso;omega)|omega
    go_simp
    refine wpAnyH_all (rs:=[13]) (by kernel_rfl) (by simp) ?_
    intro q hq
    simp only[List.mem_cons,List.not_mem_nil,or_false] at hq
    subst hq
    refine wpOp_step rfl (fun K hK=>?_)
    rw[if_pos (by rfl)]
    refine wp_store_row 54 _ _ rfl ((wc6).heap.size) (sgRow11 d s A B fb M.length cap h b x1 y1) rfl rfl 54 _ hz11 (by kernel_rfl) rfl (by simp[Value.oneCell']) ?_
    refine hK _ _ ⟨HS.out _ (belowRow (by first|exact hc10|exact belowDrew hc10) hc6.size _),?_⟩
    clear hK K
    refine wpAnyH_done (by kernel_rfl) ?_ _
    exact⟨rfl,_,_,_,_,_,_,_,_,_,_,_,_,_,_,_,_,_,_,_,_,_,_,_,_,_,_,_,_,_,_,_,_,_,_,_,_,_,_,_,_,_,_,_,_,_,_,_,_,_,_,_,rfl,hc6.size,setRow_heap _ _ _ _ _ _ hz11,belowRow (by first|exact hc10|exact belowDrew hc10) hc6.size _⟩
  ·refine wpOp_step rfl (fun K hK=>?_)
   go_simp
   have ha1:Below w3.heap.size w3 ((w3).alloc (.cells sgZero11 54)):=(h30).alloc (h30.size) _
   have hz1:((w3).alloc (.cells sgZero11 54)).heap[(w3).heap.size]?=some (.cells sgZero11 54 (0,0)):=heap_alloc_at _ _
   refine hK _ _ ⟨HS.out _ (by first|exact ha1|exact belowDrew ha1),?_⟩
   clear hK K
   go_simp
   refine wpAnyH_all (rs:=[9]) (by kernel_rfl) (by simp) ?_
   intro q hq
   simp only[List.mem_cons,List.not_mem_nil,or_false] at hq
   subst hq
   refine wpOp_step rfl (fun K hK=>?_)
   go_simp
   refine(KB3.out _ (by first|exact ha1|exact belowDrew ha1)).mono ?_
   rintro e wc2 ⟨rfl,hc2p⟩
   have hc2q:Below ((w3).alloc (.cells sgZero11 54)).heap.size ((w3).alloc (.cells sgZero11 54)) wc2:=⟨hc2p.os,hc2p.tape,hc2p.output,hc2p.size,hc2p.block⟩
   have hc2:Below w3.heap.size w3 wc2:=ha1.trans (hc2q.mono ha1.size)
   refine hK _ _ ⟨HS.out _ hc2,?_⟩
   clear hK K
   go_simp
   have hz3:=(hc2q.block _ (hp_lt2 hz1)).trans hz1
   refine wpAnyH_all (rs:=[10]) (by kernel_rfl) (by simp) ?_
   intro q hq
   simp only[List.mem_cons,List.not_mem_nil,or_false] at hq
   subst hq
   refine wpOp_step rfl (fun K hK=>?_)
   go_simp
   refine(KS1.out _).mono ?_
   rintro e wc4 ⟨rfl,hc4p⟩
   have hc4q:Below (wc2).heap.size (wc2) wc4:=⟨hc4p.os,hc4p.tape,hc4p.output,hc4p.size,hc4p.block⟩
   have hc4:Below w3.heap.size w3 wc4:=hc2.trans (hc4q.mono hc2.size)
   refine hK _ _ ⟨HS.out _ hc4,?_⟩
   clear hK K
   go_simp
   have hz5:=(hc4q.block _ (hp_lt2 hz3)).trans hz3
   refine wpAnyH_take (i:=11) (v:=.agg (sgRow11 d s A B fb M.length cap h b x1 y1)) rfl (by kernel_rfl) (by kernel_rfl) (by kernel_rfl) (fun _ _ _ h=>by cases sgMid_no h) (Or.inl ⟨by rfl,?_⟩) (HS.out _ (by first|exact hc4|exact belowDrew hc4)) ?_
   ·rintro w ⟨s0,s1,s2,s3,s4,s5,s6,sb⟩
    go_simp
    all_goals first|done|(intro h;exfalso;omega)|omega
   go_simp
   refine wpAnyH_all (rs:=[13]) (by kernel_rfl) (by simp) ?_
   intro q hq
   simp only[List.mem_cons,List.not_mem_nil,or_false] at hq
   subst hq
   refine wpOp_step rfl (fun K hK=>?_)
   rw[if_pos (by rfl)]
   refine wp_store_row 54 _ _ rfl ((w3).heap.size) (sgRow11 d s A B fb M.length cap h b x1 y1) rfl rfl 54 _ hz5 (by kernel_rfl) rfl (by simp[Value.oneCell']) ?_
   refine hK _ _ ⟨HS.out _ (belowRow (by first|exact hc4|exact belowDrew hc4) h30.size _),?_⟩
   clear hK K
   refine wpAnyH_done (by kernel_rfl) ?_ _
   exact⟨rfl,_,_,_,_,_,_,_,_,_,_,_,_,_,_,_,_,_,_,_,_,_,_,_,_,_,_,_,_,_,_,_,_,_,_,_,_,_,_,_,_,_,_,_,_,_,_,_,_,_,_,_,rfl,h30.size,setRow_heap _ _ _ _ _ _ hz5,belowRow (by first|exact hc4|exact belowDrew hc4) h30.size _⟩
 ·obtain⟨rfl,ga,z1,z2,z4,z7,z8,z9,z10,z11,z12,z13,z14,z15,z16,z17,z18,z19,z20,z21,z22,z23,z24,z25,z26,z27,z28,z29,z30,z31,z32,z33,z34,z35,z36,z37,z38,z39,z40,z41,z42,z43,z44,z45,z46,z47,z48,z49,z50,z51,z52,z53,rfl,hga,hrow4,hb4⟩:=hmid
  have hB4:=mkHid (hB3.out.trans (hb4.mono hB3.out.size))
  have hs4:=hb4.size
  have hga2:=hp_lt2 hrow4
  have r0:w'.cell? ⟨ga,0,none⟩=some (.string d):=cell_of_row w' ga 0 _ _ _ hrow4
  have r1:w'.cell? ⟨ga,1,none⟩=some (.string s):=cell_of_row w' ga 1 _ _ _ hrow4
  have r2:w'.cell? ⟨ga,2,none⟩=some (.int .i64 (A:Int)):=cell_of_row w' ga 2 _ _ _ hrow4
  have r3:w'.cell? ⟨ga,3,none⟩=some (.int .i64 (B:Int)):=cell_of_row w' ga 3 _ _ _ hrow4
  have r4:w'.cell? ⟨ga,4,none⟩=some (.slice (some ⟨fb,0,none⟩) M.length cap):=cell_of_row w' ga 4 _ _ _ hrow4
  have r5:w'.cell? ⟨ga,5,none⟩=some (.int .i64 h):=cell_of_row w' ga 5 _ _ _ hrow4
  have r6:w'.cell? ⟨ga,6,none⟩=some (.int .i64 b):=cell_of_row w' ga 6 _ _ _ hrow4
  have r7:w'.cell? ⟨ga,7,none⟩=some (.int .i64 (x1:Int)):=cell_of_row w' ga 7 _ _ _ hrow4
  have r8:w'.cell? ⟨ga,8,none⟩=some (.int .i64 (y1:Int)):=cell_of_row w' ga 8 _ _ _ hrow4
  have r9:w'.cell? ⟨ga,9,none⟩=some (.int .i64 0):=cell_of_row w' ga 9 _ _ _ hrow4
  have r10:w'.cell? ⟨ga,10,none⟩=some (.int .i64 0):=cell_of_row w' ga 10 _ _ _ hrow4
  have cF:Hid (Calls Tryz.prog 18 #[.agg #[.string d,.string s,.int .i64 (A:Int),.int .i64 (B:Int),.slice (some ⟨fb,0,none⟩) M.length cap,.int .i64 h,.int .i64 b,.int .i64 (x1:Int),.int .i64 (y1:Int),.int .i64 (0:Int),.int .i64 (0:Int)]] w' fun e w''=>e=.returned (.string fr)∧Below w'.heap.size w' w''):=KF.out w' hB4.out 0 0
  have Hrow4:=mkHid hrow4
  have Hb4:=mkHid hb4
  clear KF hrow4 hb4 hB3
  dsimp only
  go_wp2_with fail
  refine cF.out.mono ?_
  rintro e w5 ⟨rfl,hb5⟩
  clear cF r0 r1 r2 r3 r4 r5 r6 r7 r8 r9 r10
  go_wp2
  obtain⟨g7,hg7⟩:∃g7,w5.heap.size=g7:=⟨_,rfl⟩
  obtain⟨V6,hV6⟩:∃V6,V6=w5.alloc (.cells #[.string ⟨#[83,105,103,110,97,116,117,114,101]⟩,.string fr] 38):=⟨_,rfl⟩
  have hs5:=hb5.size
  have hb36:Below w3.heap.size w3 V6:=by rw[hV6];exact(Hb4.out.trans (hb5.mono hs4)).alloc (by omega) _
  have hB6:=mkHid (show Below w.heap.size w V6 by rw[hV6];exact(hB4.out.trans (hb5.mono hB4.out.size)).alloc (by have:=hB4.out.size;omega) _)
  have hrow6:=mkHid (show V6.heap[ga]?=some (.cells (sgRow11 d s A B fb M.length cap h b x1 y1) 54 (0,0)) by rw[hV6];exact(Below.heap_alloc w5 _ _ (by omega)).trans ((hb5.block ga hga2).trans Hrow4.out))
  have hs6:V6.heap.size=g7+1:=by rw[hV6,← hg7];simp
  obtain⟨u0,u1,u2,u3,u4,u5,u6,u7⟩:=HS.out V6 hb36
  have u8:V6.cell? ⟨G1,2,none⟩=some (.slice o n c):=(hb36.cell (p:=⟨G1,2,none⟩) hG1s).trans (HG1.out ▸ Hq2.out)
  have u9:V6.cell? ⟨g7,0,none⟩=some (.string ⟨#[83,105,103,110,97,116,117,114,101]⟩):=by rw[hV6,← hg7];simp
  have u10:V6.cell? ⟨g7,1,none⟩=some (.string fr):=by rw[hV6,← hg7];simp
  have HS6:Hid (∀X:World,X.heap[G]?=V6.heap[G]?→X.heap[G1]?=V6.heap[G1]?→X.heap[g7]?=V6.heap[g7]?→X.cell? ⟨G,0,none⟩=some (.string d)∧X.cell? ⟨G,1,none⟩=some (.string s)∧X.cell? ⟨G,2,none⟩=some (.int .i64 (A:Int))∧X.cell? ⟨G,3,none⟩=some (.int .i64 (B:Int))∧X.cell? ⟨G,4,none⟩=some (.slice (some ⟨fb,0,none⟩) M.length cap)∧X.cell? ⟨G,5,none⟩=some (.int .i64 h)∧X.cell? ⟨G,6,none⟩=some (.int .i64 b)∧X.cell? ⟨G1,2,none⟩=some (.slice o n c)∧X.cell? ⟨g7,0,none⟩=some (.string ⟨#[83,105,103,110,97,116,117,114,101]⟩)∧X.cell? ⟨g7,1,none⟩=some (.string fr)):=fun X e1 e2 e3=>⟨(World.cell?_of_block (a:=⟨G,0,none⟩) e1).trans u0,(World.cell?_of_block (a:=⟨G,1,none⟩) e1).trans u1,(World.cell?_of_block (a:=⟨G,2,none⟩) e1).trans u2,(World.cell?_of_block (a:=⟨G,3,none⟩) e1).trans u3,(World.cell?_of_block (a:=⟨G,4,none⟩) e1).trans u4,(World.cell?_of_block (a:=⟨G,5,none⟩) e1).trans u5,(World.cell?_of_block (a:=⟨G,6,none⟩) e1).trans u6,(World.cell?_of_block (a:=⟨G1,2,none⟩) e2).trans u8,(World.cell?_of_block (a:=⟨g7,0,none⟩) e3).trans u9,(World.cell?_of_block (a:=⟨g7,1,none⟩) e3).trans u10⟩
  have hS6:=HS6.out V6 rfl rfl rfl
  have hF6:OwnF W0.heap.size (.slice o H.fields.length c) H.fields V6:=World.ownsRow.kept hF3.out (grown_below (r:=none) hb36) (Classical.em _)
  rw[Hn.out] at hF6
  have cT:Hid (∀W,Below V6.heap.size V6 W→Calls Tryz.prog 19 #[.agg #[.string d,.string s,.int .i64 (A:Int),.int .i64 (B:Int),.slice (some ⟨fb,0,none⟩) M.length cap,.int .i64 h,.int .i64 b],.slice o n c,.agg #[.string ⟨#[83,105,103,110,97,116,117,114,101]⟩,.string fr]] W fun e w''=>e=.returned (.string t2)∧Below W.heap.size W w''):=fun W hb=>KT.out W (hB6.out.trans (hb.mono hB6.out.size)) W0.heap.size (.slice o n c) (World.ownsRow.kept hF6 (grown_below (r:=none) hb) (Classical.em _))
  have HV6:=mkHid hV6
  have Hg7:=mkHid hg7
  have hG6:G<V6.heap.size:=by omega
  have hG16:G1<V6.heap.size:=by omega
  have hg76:g7<V6.heap.size:=by omega
  have hga6:ga<g7:=by omega
  clear hb36 u0 u1 u2 u3 u4 u5 u6 u7 u8 u9 u10 hF6 KT KB3 HS hV6 hb5 Hb4 Hrow4 Hrow3 Hq2 hS0 hg7
  rw[← HV6.out,Hg7.out]
  refine wp_region_held (S:=fun w=>w.cell? ⟨G,0,none⟩=some (.string d)∧w.cell? ⟨G,1,none⟩=some (.string s)∧w.cell? ⟨G,2,none⟩=some (.int .i64 (A:Int))∧w.cell? ⟨G,3,none⟩=some (.int .i64 (B:Int))∧w.cell? ⟨G,4,none⟩=some (.slice (some ⟨fb,0,none⟩) M.length cap)∧w.cell? ⟨G,5,none⟩=some (.int .i64 h)∧w.cell? ⟨G,6,none⟩=some (.int .i64 b)∧w.cell? ⟨G1,2,none⟩=some (.slice o n c)∧w.cell? ⟨g7,0,none⟩=some (.string ⟨#[83,105,103,110,97,116,117,114,101]⟩)∧w.cell? ⟨g7,1,none⟩=some (.string fr)) (by kernel_rfl) ?_
  refine tk 0 (.pointer (some ⟨G,0,none⟩)) hS6 ?_ ?_
  ·rintro w ⟨s0,s1,s2,s3,s4,s5,s6,sb,sn,sf⟩
   go_simp
   all_goals first|done|(intro h;exfalso;omega)|omega
  go_simp
  refine tk 1 (.agg #[.string d,.string s,.int .i64 (A:Int),.int .i64 (B:Int)]) hS6 ?_ ?_
  ·rintro w ⟨s0,s1,s2,s3,s4,s5,s6,sb,sn,sf⟩
   go_simp
   all_goals first|done|(intro h;exfalso;omega)|omega
  go_simp
  refine tk 2 (.agg #[.string d,.string s,.int .i64 (A:Int),.int .i64 (B:Int),.slice (some ⟨fb,0,none⟩) M.length cap,.int .i64 h,.int .i64 b]) hS6 ?_ ?_
  ·rintro w ⟨s0,s1,s2,s3,s4,s5,s6,sb,sn,sf⟩
   go_simp
   all_goals first|done|(intro h;exfalso;omega)|omega
  go_simp
  refine tk 3 (.pointer (some ⟨G1,2,none⟩)) hS6 ?_ ?_
  ·rintro w ⟨s0,s1,s2,s3,s4,s5,s6,sb,sn,sf⟩
   go_simp
   all_goals first|done|(intro h;exfalso;omega)|omega
  go_simp
  refine tk 4 (.slice o n c) hS6 ?_ ?_
  ·rintro w ⟨s0,s1,s2,s3,s4,s5,s6,sb,sn,sf⟩
   go_simp
   all_goals first|done|(intro h;exfalso;omega)|omega
  go_simp
  refine tk 5 (.agg #[.string ⟨#[83,105,103,110,97,116,117,114,101]⟩,.string fr]) hS6 ?_ ?_
  ·rintro w ⟨s0,s1,s2,s3,s4,s5,s6,sb,sn,sf⟩
   go_simp
   all_goals first|done|(intro h;exfalso;omega)|omega
  go_simp
  refine wpAnyH_all (rs:=[6]) (by kernel_rfl) (by simp) ?_
  intro q hq
  simp only[List.mem_cons,List.not_mem_nil,or_false] at hq
  subst hq
  refine wpOp_step rfl (fun K hK=>?_)
  go_simp
  refine(cT.out _ (by first|exact Below.refl _ _|exact belowDrew (Below.refl _ _))).mono ?_
  rintro e w7 ⟨rfl,hb7'⟩
  have hb7:Below V6.heap.size V6 w7:=⟨hb7'.os,hb7'.tape,hb7'.output,hb7'.size,hb7'.block⟩
  refine hK _ _ ⟨HS6.out _ (hb7.block G hG6) (hb7.block G1 hG16) (hb7.block g7 hg76),?_⟩
  clear hK K hb7'
  go_simp
  refine wpAnyH_all (rs:=[7]) (by kernel_rfl) (by simp) ?_
  intro q hq
  simp only[List.mem_cons,List.not_mem_nil,or_false] at hq
  subst hq
  refine wpOp_step rfl (fun K hK=>?_)
  go_simp
  refine(KS2.out _).mono ?_
  rintro e w8 ⟨rfl,hb8'⟩
  have hb8:Below V6.heap.size V6 w8:=hb7.trans ((show Below w7.heap.size w7 w8 from ⟨hb8'.os,hb8'.tape,hb8'.output,hb8'.size,hb8'.block⟩).mono hb7.size)
  have hS8:=HS6.out w8 (hb8.block G hG6) (hb8.block G1 hG16) (hb8.block g7 hg76)
  refine hK _ _ ⟨hS8,?_⟩
  clear hK K hb8' hb7 cT KS2
  go_simp
  refine tk 8 (.pointer (some ⟨ga,9,none⟩)) hS8 ?_ ?_
  ·rintro w ⟨s0,s1,s2,s3,s4,s5,s6,sb,sn,sf⟩
   go_simp
   all_goals first|done|(intro h;exfalso;omega)|omega
  go_simp
  have hrow8:=(hb8.block ga (by omega)).trans hrow6.out
  have y9:w8.cell? ⟨ga,9,none⟩=some (.int .i64 0):=cell_of_row w8 ga 9 _ _ _ hrow8
  have y10:w8.cell? ⟨ga,10,none⟩=some (.int .i64 0):=cell_of_row w8 ga 10 _ _ _ hrow8
  have f9:w8.frozen? ⟨ga,9,none⟩=false:=by simp[World.frozen?,hrow8]
  have f10:w8.frozen? ⟨ga,10,none⟩=false:=by simp[World.frozen?,hrow8]
  refine wpAnyH_all (rs:=[9]) (by kernel_rfl) (by simp) ?_
  intro q hq
  simp only[List.mem_cons,List.not_mem_nil,or_false] at hq
  subst hq
  refine wpOp_step rfl (fun K hK=>?_)
  go_simp
  obtain⟨w9,hw9⟩:∃w9,w9=(w8.setCell ⟨ga,9,none⟩ (.int .i64 (x2:Int))).setCell ⟨ga,10,none⟩ (.int .i64 (y2:Int)):=⟨_,rfl⟩
  have ho:∀k,k≠ga→w9.heap[k]?=w8.heap[k]?:=by
   intro k hk
   have hk':ga≠k:=fun e=>hk e.symm
   rw[hw9]
   simp[World.setCell,Array.getElem?_modify,hk']
  have hrow9:w9.heap[ga]?=some (.cells #[.string d,.string s,.int .i64 (A:Int),.int .i64 (B:Int),.slice (some ⟨fb,0,none⟩) M.length cap,.int .i64 h,.int .i64 b,.int .i64 (x1:Int),.int .i64 (y1:Int),.int .i64 (x2:Int),.int .i64 (y2:Int)] 54 (0,0)):=by
   rw[hw9]
   simp[World.setCell,Array.getElem?_modify,hrow8]
  have hw3:=hB4.out.size
  have hB9:=mkHid (show Below w.heap.size w w9 by
   rw[hw9]
   exact((hB6.out.trans (hb8.mono hB6.out.size)).setCell (p:=⟨ga,9,none⟩) (show w.heap.size≤ga by omega) _).setCell (p:=⟨ga,10,none⟩) (show w.heap.size≤ga by omega) _)
  have hS9:=HS6.out w9 ((ho G (by omega)).trans (hb8.block G hG6)) ((ho G1 (by omega)).trans (hb8.block G1 hG16)) ((ho g7 (by omega)).trans (hb8.block g7 hg76))
  rw[← hw9]
  refine hK _ _ ⟨hS9,?_⟩
  clear hK K hS9 hS8 hS6 HS6 y9 y10 f9 f10 hrow8 hb8 ho hw9 hrow6 hB6
  go_simp
  refine wpAnyH_done (by kernel_rfl) ?_ _
  have r0:w9.cell? ⟨ga,0,none⟩=some (.string d):=cell_of_row w9 ga 0 _ _ _ hrow9
  have r1:w9.cell? ⟨ga,1,none⟩=some (.string s):=cell_of_row w9 ga 1 _ _ _ hrow9
  have r2:w9.cell? ⟨ga,2,none⟩=some (.int .i64 (A:Int)):=cell_of_row w9 ga 2 _ _ _ hrow9
  have r3:w9.cell? ⟨ga,3,none⟩=some (.int .i64 (B:Int)):=cell_of_row w9 ga 3 _ _ _ hrow9
  have r4:w9.cell? ⟨ga,4,none⟩=some (.slice (some ⟨fb,0,none⟩) M.length cap):=cell_of_row w9 ga 4 _ _ _ hrow9
  have r5:w9.cell? ⟨ga,5,none⟩=some (.int .i64 h):=cell_of_row w9 ga 5 _ _ _ hrow9
  have r6:w9.cell? ⟨ga,6,none⟩=some (.int .i64 b):=cell_of_row w9 ga 6 _ _ _ hrow9
  have r7:w9.cell? ⟨ga,7,none⟩=some (.int .i64 (x1:Int)):=cell_of_row w9 ga 7 _ _ _ hrow9
  have r8:w9.cell? ⟨ga,8,none⟩=some (.int .i64 (y1:Int)):=cell_of_row w9 ga 8 _ _ _ hrow9
  have r9:w9.cell? ⟨ga,9,none⟩=some (.int .i64 (x2:Int)):=cell_of_row w9 ga 9 _ _ _ hrow9
  have r10:w9.cell? ⟨ga,10,none⟩=some (.int .i64 (y2:Int)):=cell_of_row w9 ga 10 _ _ _ hrow9
  have cV:Hid (Calls Tryz.prog 20 #[.agg #[.string d,.string s,.int .i64 (A:Int),.int .i64 (B:Int),.slice (some ⟨fb,0,none⟩) M.length cap,.int .i64 h,.int .i64 b,.int .i64 (x1:Int),.int .i64 (y1:Int),.int .i64 (x2:Int),.int .i64 (y2:Int)]] w9 fun e w''=>e=.returned (.string val)∧Below w9.heap.size w9 w''):=KV.out w9 hB9.out
  clear hrow9 KV
  go_wp2_with fail
  refine cV.out.mono ?_
  rintro e w10 ⟨rfl,hb10⟩
  have hB10:=mkHid (hB9.out.trans (hb10.mono hB9.out.size))
  clear cV r0 r1 r2 r3 r4 r5 r6 r7 r8 r9 r10 hb10 hB9
  have CA:=mkHid (KA.out w10)
  clear KA
  go_wp2_with fail
  refine CA.out.mono ?_
  rintro e w11 ⟨rfl,hb11⟩
  have hend:=mkHid (hB10.out.trans (((Below.refl w10.heap.size w10).alloc (Nat.le_refl _) (.cells #[.string sgName,.string val] 38)).trans (hb11.mono (by simp)) |>.mono hB10.out.size))
  clear CA hb11 hB10
  go_wp2
  go_ret
  exact⟨rfl,hend.out⟩
theorem implSign (msg d s:ByteArray)(A B h b:Int)(fb:Nat)(M:List ByteArray)(cap:Nat)(w:World)(mx:Int)(hm:w.cell? ⟨0,0,none⟩=some (.int .i64 mx))(hP:PTab w)(hmsg:msg.size≤1048576)(hd:d.size≤1048576)(hs:s.size≤1048576)(hM:Tx w.heap.size w (some ⟨fb,0,none⟩) M)(hml:M.length≤1048576)(hcap:M.length≤cap)(hmz:∀t ∈ M,t.size≤1048576) :
  Calls Tryz.prog 5 #[.string msg,sgV d s A B (.slice (some ⟨fb,0,none⟩) M.length cap) h b] w fun e w'=>e=.returned (.string (plSign msg d s A B M h b))∧Below w.heap.size w w':=by
 unfold plSign
 split
 ·rename_i hg
  obtain⟨-,-,⟨A',rfl,-,-⟩,⟨B',rfl,-,-⟩,-⟩:=signer_parts d s A B M h b hg.1
  exact implSignGood msg d s A' B' h b fb M cap hcap w mx hm hP hM hg.1 hg.2.1 hg.2.2
 ·rename_i hg
  exact implSignBad msg d s A B h b (some ⟨fb,0,none⟩) M cap w hmsg hd hs hM hml hmz mx hm hg
open Go.RowKit Go.Lib
namespace Sn
def FirstAt (d:ByteArray)(r:Int)(N:Nat)(w:World)(e:Ending)(w':World):Prop:=
 ∃ g cap:Nat,e=.returned (.slice (some ⟨g,0,none⟩) (N+1) cap)∧w'.cell? ⟨g,0,none⟩=some (.string d)∧w'.cell? ⟨g,1,none⟩=some (.int .i64 r)∧Below w.heap.size w w'
theorem checkFirst (t:ByteArray)(b c:Nat)(K:List Ky)(w:World)(ht:t.size≤1048576)(hcode:(RH t).code=0)(hne:(RH t).fields ≠ [])(hK:KyL b w K)(hl:K.length≤100)(hkz:∀k ∈ K,k.d.size≤100000∧k.s.size≤100000)(hW:CkW w)(d:ByteArray)(r:Int)(N:Nat)
  (hh:(sgAns K (t.extract (RH t).body t.size) (RH t).fields (RH t).fields.length).head?=some (d,r)) (hN:(sgAns K (t.extract (RH t).body t.size) (RH t).fields (RH t).fields.length).length=N+1) :
  Calls Tryz.prog 7 #[.string t,.slice (some ⟨b,0,none⟩) K.length c] w (FirstAt d r N w):=by
 refine(implSignsAll t b c K w ht hcode hne hK hl hkz hW).mono ?_
 rintro e w' ⟨v,rfl,hA,hb⟩
 generalize sgAns K (t.extract (RH t).body t.size) (RH t).fields (RH t).fields.length=L at hA hh hN
 obtain⟨R,rfl⟩:=ne_of_head hh
 rcases hA.form with ⟨-,h0⟩|⟨g,cap,rfl⟩
 ·cases h0
 ·have c0:=World.ownsRow.cells hA (g:=g) rfl 0 (.string d) rfl
  have c1:=World.ownsRow.cells hA (g:=g) rfl 1 (.int .i64 r) rfl
  rw[add_off] at c0 c1
  exact⟨g,cap,by rw[hN],c0,c1,hb⟩
theorem oneKey (d s:ByteArray)(A B:Int)(W:World):KyL W.heap.size (W.alloc (.cells #[.string d,.string s,.int .i64 A,.int .i64 B] 24)) [⟨d,s,A,B⟩]:=by
 have rV:(W.alloc (.cells #[.string d,.string s,.int .i64 A,.int .i64 B] 24)).heap[W.heap.size]?=some (.cells #[.string d,.string s,.int .i64 A,.int .i64 B] 24 (0,0)):=heap_alloc_at _ _
 generalize W.alloc (.cells #[.string d,.string s,.int .i64 A,.int .i64 B] 24)=V at rV
 refine⟨heap_lt rV,fun j hj=>?_⟩
 have h0:j=0:=by simpa using hj
 subst h0
 refine⟨?_,?_,?_,?_⟩<;>simp[World.cell?,rV]
theorem implAhead (T:ByteArray)(W:World)(hT:T.size≤1048576):Calls Tryz.prog 8 #[.string T,.slice (some ⟨W.heap.size,0,none⟩) 1 1] (W.alloc (.cells #[.string zzN,.string zzV] 38)) fun e w'=>e=.returned (.string (Pl.added ⟨(Pl.hd [] [(zzN,zzV)]).toArray⟩ T))∧Below W.heap.size W w':=by
 have hb:Below W.heap.size W (W.alloc (.cells #[.string zzN,.string zzV] 38)):=(Below.refl _ _).alloc (Nat.le_refl _) _
 refine(implAdd T ⟨(Pl.hd [] [(zzN,zzV)]).toArray⟩ (.slice (some ⟨W.heap.size,0,none⟩) 1 1) (W.alloc (.cells #[.string zzN,.string zzV] 38)) hT (by decide) (fun w1 e=>by
  rw[e]
  exact implWriteHead (some ⟨W.heap.size,0,none⟩) [(zzN,zzV)] 1 _ (oneFld _ _ W _) (by show 1≤200;omega) (by
   intro f hf
   rw[List.mem_singleton.1 hf]
   exact⟨by decide,by decide⟩))).mono ?_
 rintro e w' ⟨rfl,hb2⟩
 exact⟨rfl,hb.trans (hb2.mono hb.size)⟩
theorem sgdCalls (msg d s:ByteArray)(A B:Int)(M:List ByteArray)(h b:Int)(T:ByteArray)(hT:T=plSign msg d s A B M h b)(hne:T≠⟨#[]⟩)(hZ:∀m ∈ M,offZ m=true) :
  ∃ N:Nat,(∀(kb c:Nat) (W:World),KyL kb W [⟨d,s,A,B⟩]→CkW W→Calls Tryz.prog 7 #[.string T,.slice (some ⟨kb,0,none⟩) 1 c] W (FirstAt d 0 N W)) ∧
   (∀(kb c:Nat) (W:World),kb<W.heap.size→CkW W→Calls Tryz.prog 7 #[.string T,.slice (some ⟨kb,0,none⟩) 0 c] W (FirstAt d 1 N W)) ∧
   (∀T2,T2=Pl.added ⟨(Pl.hd [] [(zzN,zzV)]).toArray⟩ T→T2≠⟨#[]⟩→(RH T).fields.length<200→∀(kb c:Nat) (W:World),KyL kb W [⟨d,s,A,B⟩]→CkW W→Calls Tryz.prog 7 #[.string T2,.slice (some ⟨kb,0,none⟩) 1 c] W (FirstAt d 0 N W)) ∧
   (b=1→∀p,msg.data.toList=p ++ [13,10]→sgBody msg 1≠⟨#[]⟩→msg.size≤90000→∀(kb c:Nat) (W:World),KyL kb W [⟨d,s,A,B⟩]→CkW W→Calls Tryz.prog 7 #[.string (T++tailB),.slice (some ⟨kb,0,none⟩) 1 c] W (FirstAt d 0 N W)):=by
 have hR:=own_head msg d s A B M h b (hT ▸ hne)
 have hB:=own_body msg d s A B M h b (hT ▸ hne)
 have hsz:=sign_size msg d s A B M h b (hT ▸ hne)
 obtain⟨g1,-,-,-,-,-,g7⟩:=sign_form msg d s A B M h b (hT ▸ hne)
 rw[← hT] at hR hB g7 hsz
 obtain⟨u1,u2,-⟩:=signer_parts d s A B M h b g1
 have hF:(RH T).fields=(sgName.data.toList,(sgValue msg d s A.toNat B.toNat M h b).data.toList)::(RH msg).fields:=by rw[hR]
 have hcode:(RH T).code=0:=by rw[hR]
 have hFn:(RH T).fields ≠ []:=by rw[hF];exact List.cons_ne_nil _ _
 have hb0:canonAny (T.extract (RH T).body T.size) b=sgBody msg b:=by rw[hB];rfl
 have hk1:∀k ∈ [(⟨d,s,A,B⟩:Ky)],k.d.size≤100000∧k.s.size≤100000:=fun x hx=>by
  rw[List.mem_singleton] at hx
  subst hx
  exact⟨by show d.size≤_;omega,by show s.size≤_;omega⟩
 have f1:=first_of msg d s A B M h b g1 [⟨d,s,A,B⟩] 0 (.inl ⟨rfl,rfl⟩) _ hb0 _ hF
 have f0:=first_of msg d s A B M h b g1 [] 1 (.inr ⟨rfl,rfl⟩) _ hb0 _ hF
 obtain⟨R,hL⟩:=ne_of_head f1
 have hN:(sgAns [⟨d,s,A,B⟩] (T.extract (RH T).body T.size) (RH T).fields (RH T).fields.length).length=R.length+1:=by rw[hL];rfl
 have hlen:∀K bt,(sgAns K bt (RH T).fields (RH T).fields.length).length=R.length+1:=fun K bt=>(sgAns_len K [⟨d,s,A,B⟩] bt _ _ _ (Nat.le_refl _)).trans hN
 refine⟨R.length,fun kb c W hK hW=>?_,fun kb c W hK hW=>?_,fun T2 hT2 h2 hlt kb c W hK hW=>?_,fun hb1 p hm hcb hms kb c W hK hW=>?_⟩
 ·exact checkFirst T kb c [⟨d,s,A,B⟩] W (by omega) hcode hFn hK (by simp) hk1 hW d 0 _ f1 hN
 ·exact checkFirst T kb c [] W (by omega) hcode hFn ⟨hK,fun k hk=>absurd hk (Nat.not_lt_zero _)⟩ (by simp) (fun x hx=>by cases hx) hW d 1 _ f0 (hlen _ _)
 ·obtain⟨a1,a2,a3,a4,a5⟩:=ahead_of msg d s A B M h b T hT hne hZ hlt T2 hT2 h2
  exact checkFirst T2 kb c [⟨d,s,A,B⟩] W (by omega) a2 a3 hK (by simp) hk1 hW d 0 _ a4 ((a5 [] ⟨#[]⟩).trans (hlen _ _))
 ·subst hb1
  have htz:(T++tailB).size=T.size+5:=by rw[ByteArray.size_append];rfl
  have ht:(T++tailB).data.toList=(plSign msg d s A B M h 1).data.toList ++ [32,13,10,13,10]:=by rw[← hT,ByteArray.data_append,Array.toList_append];rfl
  obtain⟨b1,b2⟩:=own_tail msg d s A B M h (hT ▸ hne) p hm hcb (T++tailB) ht (by omega)
  have hF4:(RH (T++tailB)).fields=(RH T).fields:=by rw[b1,hF]
  have f4:=first_of msg d s A B M h 1 g1 [⟨d,s,A,B⟩] 0 (.inl ⟨rfl,rfl⟩) _ b2 (RH (T++tailB)).fields (hF4.trans hF)
  exact checkFirst (T++tailB) kb c [⟨d,s,A,B⟩] W (by omega) (by rw[b1]) (by rw[hF4];exact hFn) hK (by simp) hk1 hW d 0 _ f4 (by rw[hF4];exact hlen _ _)
end Sn
end Go.Proofs.YtacaoiedcfelcaaGreatDoor
