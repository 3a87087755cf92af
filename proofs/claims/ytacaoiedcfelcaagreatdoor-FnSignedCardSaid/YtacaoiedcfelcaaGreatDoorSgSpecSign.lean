import Derived.Test.YtacaoiedcfelcaaGreatDoorAnyVals
import Derived.Test.YtacaoiedcfelcaaGreatDoorSgSpec
import Derived.Test.YtacaoiedcfelcaaGreatDoorCkTurn
set_option maxRecDepth 20000
set_option maxHeartbeats 8000000
namespace Go.Proofs.YtacaoiedcfelcaaGreatDoor
open Go.RowKit Go.Lib
set_option maxRecDepth 10000 in
theorem specSigner (d s:ByteArray)(A B h b:Int)(o:Option Addr)(F:List ByteArray)(cap:Nat)(w:World)(hd:d.size≤1048576)(hs:s.size≤1048576)(hF:Tx w.heap.size w o F)(hlen:F.length≤1048576)(hsz:∀t ∈ F,t.size≤1048576) :
  Calls Tryz.prog 21 #[sgV d s A B (.slice o F.length cap) h b] w fun e w'=>e=.returned (.int .i64 (dcode (signerOk d s A B F h b)))∧Below w.heap.size w w':=by
 obtain⟨W,hW⟩:∃W,W=w.alloc (.cells #[.string d,.string s,.int .i64 A,.int .i64 B,.slice o F.length cap,.int .i64 h,.int .i64 b] 27):=⟨_,rfl⟩
 have hbA:Below w.heap.size w W:=by rw[hW];exact(Below.refl _ _).alloc (Nat.le_refl _) _
 have hk0:W.heap[w.heap.size]?=some (.cells #[.string d,.string s,.int .i64 A,.int .i64 B,.slice o F.length cap,.int .i64 h,.int .i64 b] 27 (0,0)):=by rw[hW];exact heap_alloc_at _ _
 have hD:=specSignDomain d W (by omega)
 have hS:=fun w=>specSelector s w (by omega)
 have hK:=fun w=>specKey d s A B w
 have HF:Hid (Tx w.heap.size w o F):=hF
 have Hsz:Hid (∀t ∈ F,t.size≤1048576):=hsz
 clear hF hsz
 unfold signerOk
 generalize Pl.domOk d.data.toList=b1 at *
 generalize Pl.selOk s.data.toList=b2 at *
 generalize keyOk A B=b3 at *
 obtain⟨R,hR⟩:∃R,F.all nameB=R:=⟨_,rfl⟩
 have HR:Hid ((F.drop 0).all nameB=R):=hR
 rw[hR]
 clear hR
 obtain⟨r,hr⟩:∃r,dcode (b1 && (b2 && (b3 && (decide (h=0∨h=1) && (decide (b=0∨b=1) && (decide (1≤F.length) && (decide (F.length≤30) && R)))))))=r:=⟨_,rfl⟩
 have Hr:Hid (dcode (b1 && (b2 && (b3 && (decide (h=0∨h=1) && (decide (b=0∨b=1) && (decide (1≤F.length) && (decide (F.length≤30) && R)))))))=r):=hr
 rw[hr]
 clear hr
 go_enter Tryz.func21,Tryz.ntmps21
 go_wp2_with fail
 rw[← hW]
 refine hD.mono ?_
 rintro e w2 ⟨rfl,hb2⟩
 have hk2:=(hb2.block _ (heap_lt hk0)).trans hk0
 have hB2:=hbA.trans (hb2.mono hbA.size)
 obtain⟨c0,c1,c2,c3,c4,c5,c6⟩:=sg_cells hk2
 clear hD hb2 hk0 hbA hW
 cases b1
 ·go_wp2
  go_ret
  exact⟨by rw[← Hr.out];rfl,hB2⟩
 ·go_wp2_with fail
  refine(hS _).mono ?_
  rintro e w3 ⟨rfl,rfl⟩
  cases b2
  ·go_wp2
   go_ret
   exact⟨by rw[← Hr.out];rfl,hB2⟩
  ·go_wp2_with fail
   refine(hK _).mono ?_
   rintro e w3 ⟨rfl,hb3⟩
   have hk3:=(hb3.block _ (heap_lt hk2)).trans hk2
   have hB3:=hB2.trans (hb3.mono hB2.size)
   clear c0 c1 c2 c3 c4 c5 c6 hk2 hB2 hb3 hS hK
   obtain⟨c0,c1,c2,c3,c4,c5,c6⟩:=sg_cells hk3
   have HFT:Hid (Tx w3.heap.size w3 o F):=(HF.out.below hB3).mono hB3.size
   have HB3:Hid (Below w.heap.size w w3):=hB3
   clear HF hB3 hk3
   cases b3
   ·go_wp2
    go_ret
    exact⟨by rw[← Hr.out];rfl,HB3.out⟩
   ·by_cases hh:h=0∨h=1
    ·have Hh:Hid (h=0∨h=1):=hh
     have g1:¬h<0:=by omega
     have g2:¬1<h:=by omega
     clear hh
     by_cases hb:b=0∨b=1
     ·have Hb:Hid (b=0∨b=1):=hb
      have g3:¬b<0:=by omega
      have g4:¬1<b:=by omega
      clear hb
      by_cases h1:1≤F.length
      ·have H1:Hid (1≤F.length):=h1
       by_cases h2:F.length≤30
       ·have H2:Hid (F.length≤30):=h2
        obtain⟨V,hV⟩:∃V,V=w3:=⟨_,rfl⟩
        subst hV
        go_wp2
        go_loopw [3] (fun i wr=>∃ k:Nat,k≤F.length∧i=.int .i64 k∧Hid ((F.drop k).all nameB=R)∧wr=V) (fun i _=>F.length-(Lib.intOf i).toNat)
        case atStart=>exact⟨0,Nat.zero_le _,rfl,HR,rfl⟩
        case round=>
         clear HR
         obtain⟨k,hk,rfl,hp,rfl⟩:=hrel
         by_cases hlt:k<F.length
         ·obtain⟨a,rfl,ha,hc0⟩:=HFT.out k hlt
          have hst:=Pl.all_stepT nameB F k hlt
          rw[hp.out] at hst
          have hzk:=Hsz.out _ (List.getElem_mem hlt)
          have hN:=fun w=>specName F[k] w (by omega)
          have hA:=fun w=>specApart F[k] w (by omega)
          have hNB:nameB F[k]=(Pl.nameOk F[k].data.toList && Pl.apart F[k].data.toList):=Pl.sName_eq _
          rw[hNB] at hst
          have Hst:Hid (R=((Pl.nameOk F[k].data.toList && Pl.apart F[k].data.toList) && (F.drop (k+1)).all nameB)):=hst
          clear hst hp hNB hzk
          generalize Pl.nameOk F[k].data.toList=n1 at *
          generalize Pl.apart F[k].data.toList=n2 at *
          generalize F[k]=f at *
          cases n1
          ·have hR:R=false:=by rw[Hst.out,Bool.false_and,Bool.false_and]
           subst hR
           clear Hst hA
           go_wp2_with fail
           refine(hN _).mono ?_
           rintro e w4 ⟨rfl,rfl⟩
           go_wp2
           go_ret
           exact⟨by rw[← Hr.out,decide_eq_true Hh.out,decide_eq_true Hb.out,decide_eq_true H1.out,decide_eq_true H2.out];rfl,HB3.out⟩
          ·cases n2
           ·have hR:R=false:=by rw[Hst.out,Bool.and_false,Bool.false_and]
            subst hR
            clear Hst
            go_wp2_with fail
            refine(hN _).mono ?_
            rintro e w4 ⟨rfl,rfl⟩
            go_wp2_with fail
            refine(hA _).mono ?_
            rintro e w4 ⟨rfl,rfl⟩
            go_wp2
            go_ret
            exact⟨by rw[← Hr.out,decide_eq_true Hh.out,decide_eq_true Hb.out,decide_eq_true H1.out,decide_eq_true H2.out];rfl,HB3.out⟩
           ·have HN:Hid ((F.drop (k+1)).all nameB=R):=by show _=_;rw[Hst.out,Bool.true_and,Bool.true_and]
            clear Hst
            go_wp2_with fail
            refine(hN _).mono ?_
            rintro e w4 ⟨rfl,rfl⟩
            go_wp2_with fail
            refine(hA _).mono ?_
            rintro e w4 ⟨rfl,rfl⟩
            go_wp2
            go_roundw
            case rel=>exact⟨k+1,by omega,by go_num,HN,trivial⟩
            case measure=>simp[Lib.intOf];omega
         ·have hR:R=true:=by rw[← hp.out,List.drop_eq_nil_of_le (by omega)];rfl
          subst hR
          clear hp
          go_wp2
          go_ret
          exact⟨by rw[← Hr.out,decide_eq_true Hh.out,decide_eq_true Hb.out,decide_eq_true H1.out,decide_eq_true H2.out];rfl,HB3.out⟩
       ·have H2:Hid (¬F.length≤30):=h2
        go_wp2
        go_ret
        exact⟨by rw[← Hr.out,decide_eq_true Hh.out,decide_eq_true Hb.out,decide_eq_true H1.out,decide_eq_false H2.out];rfl,HB3.out⟩
      ·have H1:Hid (¬1≤F.length):=h1
       go_wp2
       go_ret
       exact⟨by rw[← Hr.out,decide_eq_true Hh.out,decide_eq_true Hb.out,decide_eq_false H1.out];rfl,HB3.out⟩
     ·have Hb:Hid (¬(b=0∨b=1)):=hb
      by_cases g3:b<0
      ·clear hb
       go_wp2
       go_ret
       exact⟨by rw[← Hr.out,decide_eq_true Hh.out,decide_eq_false Hb.out];rfl,HB3.out⟩
      ·have g4:1<b:=by omega
       clear hb
       go_wp2
       go_ret
       exact⟨by rw[← Hr.out,decide_eq_true Hh.out,decide_eq_false Hb.out];rfl,HB3.out⟩
    ·have Hh:Hid (¬(h=0∨h=1)):=hh
     by_cases g1:h<0
     ·clear hh
      go_wp2
      go_ret
      exact⟨by rw[← Hr.out,decide_eq_false Hh.out];rfl,HB3.out⟩
     ·have g2:1<h:=by omega
      clear hh
      go_wp2
      go_ret
      exact⟨by rw[← Hr.out,decide_eq_false Hh.out];rfl,HB3.out⟩
open Go.RowKit Go.Lib Go.Maps
abbrev sgRow (d s:ByteArray)(A B:Int)(v:Value)(h b:Int):Obj:=.cells #[.string d,.string s,.int .i64 A,.int .i64 B,v,.int .i64 h,.int .i64 b] 27
theorem OwnF.fldS {B c:Nat} {o:Option Addr} {F:List Fl} {w:World} (h:OwnF B (.slice o F.length c) F w):Fld w.heap.size w o (toBA F):=by
 obtain⟨o',c',e,hf⟩:=h.fld
 simp only[Value.slice.injEq] at e
 rw[e.1]
 exact hf
theorem own_value (msg d s:ByteArray)(A B:Nat)(M:List ByteArray)(h b:Int)(hok:signerOk d s A B M h b=true) :
  (sgFront msg d s A B M h b).data.toList.all Pl.lb=true∧(sgFront msg d s A B M h b).size≤3000∧(sgValue msg d s A B M h b).data.toList.all Pl.lb=true∧(sgValue msg d s A B M h b).size≤4000:=by
 have h1:=front_lb d s A B M h b _ _ hok (sm_lt A 1 (sgBody msg b).data.toList (by decide)) (sm_lt B 1 (sgBody msg b).data.toList (by decide))
 have h2:=sumT_lb (Ps.sm A 1 (sgHead msg d s A B M h b).data.toList) (Ps.sm B 1 (sgHead msg d s A B M h b).data.toList)
 have h3:=sumT_sz _ _ (sm_lt A 1 (sgHead msg d s A B M h b).data.toList (by decide)) (sm_lt B 1 (sgHead msg d s A B M h b).data.toList (by decide))
 refine⟨h1.1,h1.2,?_,?_⟩
 ·unfold sgValue
  rw[ByteArray.data_append,Array.toList_append,List.all_append,h2]
  unfold sgFront
  rw[h1.1]
  rfl
 ·unfold sgValue
  rw[ByteArray.size_append]
  have:(sgFront msg d s A B M h b).size≤3000:=h1.2
  omega
theorem signer_parts (d s:ByteArray)(A B:Int)(M:List ByteArray)(h b:Int)(hok:signerOk d s A B M h b=true) :
  d.size≤255∧s.size≤60∧(∃n:Nat,A=n∧1≤n∧n<2147483647)∧(∃n:Nat,B=n∧1≤n∧n<2147483647)∧(h=0∨h=1)∧(b=0∨b=1)∧M.length≤30∧∀t ∈ M,t.size≤70:=by
 unfold signerOk keyOk at hok
 simp only[Bool.and_eq_true,decide_eq_true_eq] at hok
 obtain⟨h1,h2,⟨k1,k2,k3,k4⟩,h4,h5,h6,h7,h8⟩:=hok
 have ed:d.data.toList.length=d.size:=by simp
 have es:s.data.toList.length=s.size:=by simp
 refine⟨by rw[← ed];exact(Pl.dom_lb _ h1).2,?_,⟨A.toNat,by omega,by omega,by omega⟩,⟨B.toNat,by omega,by omega,by omega⟩,h4,h5,h7,name_size M h8⟩
 unfold Pl.selOk at h2
 simp only[Bool.and_eq_true,decide_eq_true_eq] at h2
 rw[← es]
 exact h2.2.1
theorem body_size (msg:ByteArray)(b:Int)(hm:msg.size≤100000):(sgBody msg b).size≤200000:=by
 unfold sgBody canonAny
 split
 ·exact Nat.zero_le _
 ·show((canonB _ b).toArray).size≤_
  rw[List.size_toArray]
  refine Nat.le_trans (canonB_len _ b) ?_
  have:(msg.extract (RH msg).body msg.size).size≤msg.size:=by rw[ByteArray.size_extract];omega
  omega
theorem head_size (msg d s:ByteArray)(A B:Nat)(M:List ByteArray)(h b:Int)(hc:(RH msg).code=0)(p:ByteArray)(hp:canonF sgName (sgFront msg d s A B M h b) h=p++⟨#[13,10]⟩)(hps:p.size≤5000) :
  sgHead msg d s A B M h b=⟨(tkL h M (toBA (RH msg).fields)).toArray⟩++p∧(sgHead msg d s A B M h b).size≤200000:=by
 have e:ownB (sgFront msg d s A B M h b) h=p:=by unfold ownB;rw[hp];exact own_cut p
 have hl:=tkL_len h M (toBA (RH msg).fields)
 rw[fsum_toBA] at hl
 have hg:=(RH_good msg hc).2
 unfold sgHead sgText
 rw[e]
 refine⟨rfl,?_⟩
 rw[ByteArray.size_append]
 have:(⟨(tkL h M (toBA (RH msg).fields)).toArray⟩:ByteArray).size=(tkL h M (toBA (RH msg).fields)).length:=by show((tkL h M (toBA (RH msg).fields)).toArray).size=_;rw[List.size_toArray]
 omega
theorem specBodyAny (t:ByteArray)(b:Int)(w:World)(ht:t.size≤100000)(hb:b=0∨b=1) :
  Calls Tryz.prog 10 #[.string t,.int .i64 b] w fun e w'=>e=.returned (.string (canonAny t b))∧Below w.heap.size w w':=by
 unfold canonAny
 rw[if_neg (by omega)]
 rcases hb with rfl|rfl
 ·exact specCanonBody0 t w ht
 ·exact specCanonBody1 t w ht
theorem oneFld (n v:ByteArray)(W:World)(t:TypeId):Fld (W.alloc (.cells #[.string n,.string v] t)).heap.size (W.alloc (.cells #[.string n,.string v] t)) (some ⟨W.heap.size,0,none⟩) [(n,v)]:=by
 intro i hi
 obtain rfl:i=0:=by simp at hi;omega
 refine⟨_,rfl,by simp,?_,?_⟩
 ·simp[Addr.add]
 ·simp[Addr.add]
theorem specSignBad (msg d s:ByteArray)(A B h b:Int)(on:Option Addr)(M:List ByteArray)(cap:Nat)(w:World)(hmsg:msg.size≤1048576)(hd:d.size≤1048576)(hs:s.size≤1048576)(hM:Tx w.heap.size w on M)(hml:M.length≤1048576)(hmz:∀t ∈ M,t.size≤1048576)(hbad:¬(signerOk d s A B M h b=true∧(RH msg).code=0∧¬(RH msg).fields.length=200)) :
  Calls Tryz.prog 6 #[.string msg,sgV d s A B (.slice on M.length cap) h b] w fun e w'=>e=.returned (.string ⟨#[]⟩)∧Below w.heap.size w w':=by
 have HM:=mkHid hM
 have Hmz:=mkHid hmz
 clear hM hmz
 obtain⟨W0,hW0⟩:∃W0,W0=w.alloc (sgRow d s A B (.slice on M.length cap) h b):=⟨_,rfl⟩
 have hs0:W0.heap.size=w.heap.size+1:=by rw[hW0];simp
 have hbW0:=mkHid (show Below w.heap.size w W0 by rw[hW0];exact(Below.refl _ _).alloc (Nat.le_refl _) _)
 have hrow0:=mkHid (show W0.heap[w.heap.size]?=some (.cells #[.string d,.string s,.int .i64 A,.int .i64 B,.slice on M.length cap,.int .i64 h,.int .i64 b] 27 (0,0)) by rw[hW0];exact heap_alloc_at _ _)
 have cR:=mkHid (specRH msg W0 hmsg)
 have HW0:=mkHid hW0
 have Hbad:=mkHid hbad
 have HL:=mkHid (RH_len msg)
 clear hW0 hbad
 generalize RH msg=H at *
 go_enter Tryz.func6,Tryz.ntmps6
 go_wp2_with fail
 rw[← HW0.out]
 refine cR.out.mono ?_
 rintro e w1 ⟨o,c,rfl,hF1,hb1⟩
 obtain⟨n,hn⟩:∃n,H.fields.length=n:=⟨_,rfl⟩
 obtain⟨cd,hcd⟩:∃cd,H.code=cd:=⟨_,rfl⟩
 rw[hn,hcd] at Hbad
 rw[hn] at HL
 have hn2:=HL.out
 obtain⟨V,hV⟩:∃V,V=w1.alloc (.cells #[.int .i64 H.code,.int .i64 H.at_,.slice o H.fields.length c,.int .i64 H.body] 41):=⟨_,rfl⟩
 have hrow1:=(hb1.block _ (show w.heap.size<W0.heap.size by omega)).trans hrow0.out
 have hlt1:w.heap.size<w1.heap.size:=by have:=hb1.size;omega
 have hrowV:V.heap[w.heap.size]?=some (.cells #[.string d,.string s,.int .i64 A,.int .i64 B,.slice on M.length cap,.int .i64 h,.int .i64 b] 27 (0,0)):=by rw[hV];exact(Below.heap_alloc w1 _ _ hlt1).trans hrow1
 have hhdV:=mkHid (show V.heap[w1.heap.size]?=some (.cells #[.int .i64 H.code,.int .i64 H.at_,.slice o H.fields.length c,.int .i64 H.body] 41 (0,0)) by rw[hV];exact heap_alloc_at _ _)
 have hbV:=mkHid (show Below w.heap.size w V by rw[hV];exact(hbW0.out.trans (hb1.mono (by omega))).alloc (by omega) _)
 have hsV:V.heap.size=w1.heap.size+1:=by rw[hV];simp
 obtain⟨c0,c1,c2,c3,c4,c5,c6⟩:=sg_cells hrowV
 have cF:=mkHid (specSigner d s A B h b on M cap V hd hs ((HM.out.below hbV.out).mono hbV.out.size) hml Hmz.out)
 rw[hV] at c0 c1 c2 c3 c4 c5 c6
 have HV:=mkHid hV
 have Hn:=mkHid hn
 have Hcd:=mkHid hcd
 clear cR hF1 hb1 hV hrow0 hrow1 hrowV hn hcd
 go_wp2_with (go_at_call 21;fail)
 rw[← HV.out]
 refine cF.out.mono ?_
 rintro e w3 ⟨rfl,hb3⟩
 have hhd3:=(hb3.block _ (show w1.heap.size<V.heap.size by omega)).trans hhdV.out
 have q0:w3.cell? ⟨w1.heap.size,0,none⟩=some (.int .i64 (cd:Int)):=by rw[← Hcd.out];simp[World.cell?,hhd3]
 have q2:w3.cell? ⟨w1.heap.size,2,none⟩=some (.slice o n c):=by rw[← Hn.out];simp[World.cell?,hhd3]
 have hend:=mkHid (hbV.out.trans (hb3.mono hbV.out.size))
 clear c0 c1 c2 c3 c4 c5 c6 cF hb3 hhd3 hhdV HV
 cases hok:signerOk d s A B M h b with
 | false=>
  unfold dcode
  go_wp2
  go_ret
  exact⟨rfl,hend.out⟩
 | true=>
  rw[hok] at Hbad
  unfold dcode
  by_cases h1:cd=0
  ·have h2:n=200:=by
    refine Classical.byContradiction fun hx=>Hbad.out ⟨rfl,h1,hx⟩
   subst h1
   subst h2
   go_wp2
   go_ret
   exact⟨rfl,hend.out⟩
  ·have hx:((cd:Int) != 0)=true:=by simp;omega
   go_wp2
   go_ret
   exact⟨rfl,hend.out⟩
theorem specSignGood (msg d s:ByteArray)(A B:Nat)(h b:Int)(on:Option Addr)(M:List ByteArray)(cap:Nat)(w:World)(hM:Tx w.heap.size w on M)(hok:signerOk d s A B M h b=true)(hcode:(RH msg).code=0)(hlen:¬(RH msg).fields.length=200) :
  Calls Tryz.prog 6 #[.string msg,sgV d s A B (.slice on M.length cap) h b] w fun e w'=>e=.returned (.string (Pl.added ⟨(Pl.hd [] [(sgName,sgValue msg d s A B M h b)]).toArray⟩ msg))∧Below w.heap.size w w':=by
 obtain⟨hd,hs,⟨A',hA,hA0,hA1⟩,⟨B',hB,hB0,hB1⟩,hh,hbb,hml,hmz⟩:=signer_parts d s A B M h b hok
 obtain rfl:A=A':=by omega
 obtain rfl:B=B':=by omega
 obtain⟨hmsg,hfs⟩:=RH_good msg hcode
 obtain⟨v1,v2,v3,v4⟩:=own_value msg d s A B M h b hok
 obtain⟨p,hp,hps⟩:=own_form (sgFront msg d s A B M h b) h v1 (by omega) hh
 obtain⟨hhead,hhs⟩:=head_size msg d s A B M h b hcode p hp hps
 have hbs:=body_size msg b hmsg
 have hRb:=RH_body msg
 have hfz:=fl_size _ _ hfs
 have hfl:=RH_len msg
 have hbz:(msg.extract (RH msg).body msg.size).size≤100000:=by rw[ByteArray.size_extract];omega
 have HM:=mkHid hM
 have Hmz:=mkHid hmz
 clear hM hmz
 have ht:(⟨(Pl.hd [] [(sgName,sgValue msg d s A B M h b)]).toArray⟩:ByteArray).size≤100000:=by
  show((Pl.hd [] [(sgName,sgValue msg d s A B M h b)]).toArray).size≤_
  rw[List.size_toArray,own_hd _ v3 v4,Pl.line_len]
  show 9+(sgValue msg d s A B M h b).size+3≤100000
  omega
 have KB:=mkHid (fun w'=>specBodyAny (msg.extract (RH msg).body msg.size) b w' hbz hbb)
 have KS1:=mkHid (fun w'=>specSum d s (sgBody msg b) A B w' hbs hA0 hA1 hB0 hB1)
 have KF:=mkHid (fun (w':World) (hb:Below w.heap.size w w')=>specFront d s A B h b on M cap (Ps.sm A 1 (sgBody msg b).data.toList) (Ps.sm B 1 (sgBody msg b).data.toList) w' (by omega) (by omega) ((HM.out.below hb).mono hb.size) hml Hmz.out hh hbb (sm_lt A 1 _ (by decide)) (sm_lt B 1 _ (by decide)))
 have KT:=mkHid (fun (w':World) (hb:Below w.heap.size w w') (fo:Option Addr) (cf:Nat) (hF:Fld w'.heap.size w' fo (toBA (RH msg).fields))=>specText d s A B h b on M cap fo (toBA (RH msg).fields) cf (sgFront msg d s A B M h b) p w' ((HM.out.below hb).mono hb.size) hml Hmz.out hF (by rw[toBA_len];exact hfl) (by
  intro f hf
  unfold toBA at hf
  obtain⟨f',h1,rfl⟩:=List.mem_map.1 hf
  have hq:=fl_size _ _ hfs f' h1
  refine⟨?_,?_⟩
  ·show f'.1.toArray.size≤_
   rw[List.size_toArray];omega
  ·show f'.2.toArray.size≤_
   rw[List.size_toArray];omega) (by rw[fsum_toBA];exact hfs) (by omega) hp hps)
 rw[← hhead] at KT
 have KS2:=mkHid (fun w'=>specSum d s (sgHead msg d s A B M h b) A B w' hhs hA0 hA1 hB0 hB1)
 have KD:=mkHid (fun w'=>specSumT (Ps.sm A 1 (sgHead msg d s A B M h b).data.toList) (Ps.sm B 1 (sgHead msg d s A B M h b).data.toList) (sm_lt A 1 _ (by decide)) (sm_lt B 1 _ (by decide)) w')
 have KA:=mkHid (fun (W:World)=>specAdd msg ⟨(Pl.hd [] [(sgName,sgValue msg d s A B M h b)]).toArray⟩ (.slice (some ⟨W.heap.size,0,none⟩) 1 1) (W.alloc (.cells #[.string sgName,.string (sgValue msg d s A B M h b)] 38)) (by omega) ht (fun w1 e=>by
  rw[e]
  exact specWriteHead (some ⟨W.heap.size,0,none⟩) [(sgName,sgValue msg d s A B M h b)] 1 _ (oneFld _ _ W _) (by show 1≤200;omega) (by
   intro f hf
   rw[List.mem_singleton.1 hf]
   exact⟨by show 9≤1048576;omega,by show(sgValue msg d s A B M h b).size≤_;omega⟩)))
 have hvz:sgValue msg d s A B M h b=sgFront msg d s A B M h b++sumT (Ps.sm A 1 (sgHead msg d s A B M h b).data.toList) (Ps.sm B 1 (sgHead msg d s A B M h b).data.toList):=rfl
 have hvn:¬9223372036854775807<(sgFront msg d s A B M h b).size+(sumT (Ps.sm A 1 (sgHead msg d s A B M h b).data.toList) (Ps.sm B 1 (sgHead msg d s A B M h b).data.toList)).size:=by
  have:=v4
  rw[hvz,ByteArray.size_append] at this
  omega
 rw[show(canonAny (msg.extract (RH msg).body msg.size) b)=sgBody msg b from rfl] at KB
 rw[show frontT d s M h b (Ps.sm A 1 (sgBody msg b).data.toList) (Ps.sm B 1 (sgBody msg b).data.toList)=sgFront msg d s A B M h b from rfl] at KF
 generalize Pl.added ⟨(Pl.hd [] [(sgName,sgValue msg d s A B M h b)]).toArray⟩ msg=R at *
 have Hvz:=mkHid hvz
 clear hvz hp hhead ht hfs v1 v3 hfz hhs hbs hbz
 generalize sgValue msg d s A B M h b=val at *
 generalize hX1:Ps.sm A 1 (sgHead msg d s A B M h b).data.toList=x2 at *
 generalize hX2:Ps.sm B 1 (sgHead msg d s A B M h b).data.toList=y2 at *
 generalize hX3:Ps.sm A 1 (sgBody msg b).data.toList=x1 at *
 generalize hX4:Ps.sm B 1 (sgBody msg b).data.toList=y1 at *
 clear hX1 hX2 hX3 hX4
 generalize sgHead msg d s A B M h b=t2 at *
 generalize sgFront msg d s A B M h b=fr at *
 generalize sgBody msg b=t1 at *
 obtain⟨W0,hW0⟩:∃W0,W0=w.alloc (sgRow d s A B (.slice on M.length cap) h b):=⟨_,rfl⟩
 have hs0:W0.heap.size=w.heap.size+1:=by rw[hW0];simp
 have hbW0:=mkHid (show Below w.heap.size w W0 by rw[hW0];exact(Below.refl _ _).alloc (Nat.le_refl _) _)
 have hrow0:=mkHid (show W0.heap[w.heap.size]?=some (.cells #[.string d,.string s,.int .i64 A,.int .i64 B,.slice on M.length cap,.int .i64 h,.int .i64 b] 27 (0,0)) by rw[hW0];exact heap_alloc_at _ _)
 have cR:=mkHid (specRH msg W0 (by omega))
 have HW0:=mkHid hW0
 clear hW0
 generalize RH msg=H at *
 go_enter Tryz.func6,Tryz.ntmps6
 go_wp2_with fail
 rw[← HW0.out]
 refine cR.out.mono ?_
 rintro e w1 ⟨o,c,rfl,hF1,hb1⟩
 obtain⟨n,hn⟩:∃n,H.fields.length=n:=⟨_,rfl⟩
 obtain⟨bd,hbd⟩:∃bd,H.body=bd:=⟨_,rfl⟩
 obtain⟨V,hV⟩:∃V,V=w1.alloc (.cells #[.int .i64 H.code,.int .i64 H.at_,.slice o H.fields.length c,.int .i64 H.body] 41):=⟨_,rfl⟩
 have hrow1:=(hb1.block _ (show w.heap.size<W0.heap.size by omega)).trans hrow0.out
 have hlt1:w.heap.size<w1.heap.size:=by have:=hb1.size;omega
 have hrowV:V.heap[w.heap.size]?=some (.cells #[.string d,.string s,.int .i64 A,.int .i64 B,.slice on M.length cap,.int .i64 h,.int .i64 b] 27 (0,0)):=by rw[hV];exact(Below.heap_alloc w1 _ _ hlt1).trans hrow1
 have hhdV:=mkHid (show V.heap[w1.heap.size]?=some (.cells #[.int .i64 H.code,.int .i64 H.at_,.slice o H.fields.length c,.int .i64 H.body] 41 (0,0)) by rw[hV];exact heap_alloc_at _ _)
 have hbV:=mkHid (show Below w.heap.size w V by rw[hV];exact(hbW0.out.trans (hb1.mono (by omega))).alloc (by omega) _)
 have hFV:=mkHid (show OwnF W0.heap.size (.slice o H.fields.length c) H.fields V by rw[hV];exact hF1.alloc _)
 have hsV:V.heap.size=w1.heap.size+1:=by rw[hV];simp
 obtain⟨c0,c1,c2,c3,c4,c5,c6⟩:=sg_cells hrowV
 have HrV:=mkHid hrowV
 have cF:=mkHid (specSigner d s A B h b on M cap V (by omega) (by omega) ((HM.out.below hbV.out).mono hbV.out.size) (by omega) (fun t ht=>Nat.le_trans (Hmz.out t ht) (by omega)))
 rw[hok] at cF
 rw[hV] at c0 c1 c2 c3 c4 c5 c6
 have HV:=mkHid hV
 have Hn:=mkHid hn
 have Hbd:=mkHid hbd
 rw[hn] at hlen hfl
 rw[hbd] at hRb KB
 have Hcode:=mkHid hcode
 clear cR hF1 hb1 hV hrow0 hrow1 hrowV hn hbd hok hcode
 unfold dcode at cF
 go_wp2_with (go_at_call 21;fail)
 rw[← HV.out]
 refine cF.out.mono ?_
 rintro e w3 ⟨rfl,hb3⟩
 have hhd3:=(hb3.block _ (show w1.heap.size<V.heap.size by omega)).trans hhdV.out
 have q0:w3.cell? ⟨w1.heap.size,0,none⟩=some (.int .i64 0):=by
  have:w3.cell? ⟨w1.heap.size,0,none⟩=some (.int .i64 (H.code:Int)):=by simp[World.cell?,hhd3]
  rw[this,Hcode.out];rfl
 have q2:w3.cell? ⟨w1.heap.size,2,none⟩=some (.slice o n c):=by rw[← Hn.out];simp[World.cell?,hhd3]
 have q3:w3.cell? ⟨w1.heap.size,3,none⟩=some (.int .i64 (bd:Int)):=by rw[← Hbd.out];simp[World.cell?,hhd3]
 have hrow3:=(hb3.block _ (show w.heap.size<V.heap.size by omega)).trans HrV.out
 have hB3:=mkHid (hbV.out.trans (hb3.mono hbV.out.size))
 have hF3:=mkHid (show OwnF W0.heap.size (.slice o H.fields.length c) H.fields w3 from World.ownsRow.kept hFV.out (grown_below (r:=none) hb3) (Classical.em _))
 have hs3:=hb3.size
 have hx200:((n:Int)==200)=false:=by rw[beq_eq_false_iff_ne];omega
 clear c0 c1 c2 c3 c4 c5 c6 cF hb3 HV HrV hFV
 go_wp2
 have k0:=cell_regrown (sg_cells hrow3).1
 have k1:=cell_regrown (sg_cells hrow3).2.1
 have k2:=cell_regrown (sg_cells hrow3).2.2.1
 have k3:=cell_regrown (sg_cells hrow3).2.2.2.1
 have k4:=cell_regrown (sg_cells hrow3).2.2.2.2.1
 have k5:=cell_regrown (sg_cells hrow3).2.2.2.2.2.1
 have k6:=cell_regrown (sg_cells hrow3).2.2.2.2.2.2
 have kb:=cell_regrown q3
 have hfl3:=OwnF.fldS hF3.out
 have cB:Hid (∀d os,Calls Tryz.prog 10 #[.string (msg.extract bd msg.size),.int .i64 b] (Go.Sort.grow (redrawn w3 d) os) fun e w''=>e=.returned (.string t1)∧∃p:Regrown,w''=Go.Sort.grow (redrawn w3 p.d) p.os):=fun d os=>Calls.regrown_of (KB.out _)
 have cS:Hid (∀dq os,Calls Tryz.prog 23 #[keyV d s A B,.string t1] (Go.Sort.grow (redrawn w3 dq) os) fun e w''=>e=.returned (sumV x1 y1)∧∃p:Regrown,w''=Go.Sort.grow (redrawn w3 p.d) p.os):=fun dq os=>Calls.regrown_of (KS1.out _)
 have cF:Hid (∀dq os,Calls Tryz.prog 22 #[sgV d s A B (.slice on M.length cap) h b,sumV x1 y1] (Go.Sort.grow (redrawn w3 dq) os) fun e w''=>e=.returned (.string fr)∧∃p:Regrown,w''=Go.Sort.grow (redrawn w3 p.d) p.os):=fun dq os=>Calls.regrown_of (KF.out _ (hB3.out.trans ((below_regrown w3 dq os).mono hB3.out.size)))
 have hbd2:(bd:Int)≤(msg.size:Int):=by omega
 have Hrow3:=mkHid hrow3
 have Hq2:=mkHid q2
 have Hfl3:=mkHid hfl3
 clear q0 q2 q3 hrow3 hfl3 KB KS1 KF
 refine wp_region_quiet_below (by kernel_rfl) (by kernel_rfl) ?_
 repeat (go_big_quiet_step (first|exact cB.out _ _|exact cS.out _ _|exact cF.out _ _))
 refine wpQuiet_nil ?_
 intro w4 hw'
 obtain⟨⟨dq,osq⟩,hw''⟩:=hw'
 have hb4:=below_regrown w3 dq osq
 rw[← hw''] at hb4
 have hrow4:=(hb4.block _ (show w.heap.size<w3.heap.size by omega)).trans Hrow3.out
 have q2:=(hb4.cell (p:=⟨w1.heap.size,2,none⟩) (show w1.heap.size<w3.heap.size by omega)).trans Hq2.out
 have hB4:=mkHid (hB3.out.trans (hb4.mono hB3.out.size))
 have Hfl4:=mkHid (Hfl3.out.below hb4)
 have hs4:=hb4.size
 clear hw'' hb4 k0 k1 k2 k3 k4 k5 k6 kb cB cS cF Hrow3 Hq2 hB3 Hfl3 hF3
 go_wp2
 have k0:=cell_regrown (sg_cells hrow4).1
 have k1:=cell_regrown (sg_cells hrow4).2.1
 have k2:=cell_regrown (sg_cells hrow4).2.2.1
 have k3:=cell_regrown (sg_cells hrow4).2.2.2.1
 have k4:=cell_regrown (sg_cells hrow4).2.2.2.2.1
 have k5:=cell_regrown (sg_cells hrow4).2.2.2.2.2.1
 have k6:=cell_regrown (sg_cells hrow4).2.2.2.2.2.2
 have kh:=cell_regrown q2
 have cT:Hid (∀dq os,Calls Tryz.prog 25 #[sgV d s A B (.slice on M.length cap) h b,.slice o n c,.string fr] (Go.Sort.grow (redrawn w4 dq) os) fun e w''=>e=.returned (.string t2)∧∃p:Regrown,w''=Go.Sort.grow (redrawn w4 p.d) p.os):=fun dq os=>by
  have hx:=below_regrown w4 dq os
  have:=KT.out _ (hB4.out.trans (hx.mono hB4.out.size)) o c ((Hfl4.out.mono hs4).below hx |>.mono hx.size)
  rw[toBA_len,Hn.out] at this
  exact Calls.regrown_of this
 have cS:Hid (∀dq os,Calls Tryz.prog 23 #[keyV d s A B,.string t2] (Go.Sort.grow (redrawn w4 dq) os) fun e w''=>e=.returned (sumV x2 y2)∧∃p:Regrown,w''=Go.Sort.grow (redrawn w4 p.d) p.os):=fun dq os=>Calls.regrown_of (KS2.out _)
 have cD:Hid (∀dq os,Calls Tryz.prog 24 #[sumV x2 y2] (Go.Sort.grow (redrawn w4 dq) os) fun e w''=>e=.returned (.string (sumT x2 y2))∧∃p:Regrown,w''=Go.Sort.grow (redrawn w4 p.d) p.os):=fun dq os=>Calls.regrown_of (KD.out _)
 generalize sumT x2 y2=su at *
 clear q2 hrow4 KS2 KD KT
 refine wp_region_quiet_below (by kernel_rfl) (by kernel_rfl) ?_
 repeat (go_big_quiet_step (first|exact cT.out _ _|exact cS.out _ _|exact cD.out _ _))
 refine wpQuiet_nil ?_
 intro w5 hw'
 obtain⟨⟨dq,osq⟩,hw''⟩:=hw'
 have hb5:=below_regrown w4 dq osq
 rw[← hw''] at hb5
 have hB5:=mkHid (hB4.out.trans (hb5.mono hB4.out.size))
 clear hw'' hb5 k0 k1 k2 k3 k4 k5 k6 kh cT cS cD hB4 Hfl4
 have cA:=KA.out w5
 rw[Hvz.out] at cA
 have CA:=mkHid cA
 clear cA KA
 go_wp2_with fail
 refine CA.out.mono ?_
 rintro e w6 ⟨rfl,hb6⟩
 have hend:=mkHid (hB5.out.trans (((Below.refl w5.heap.size w5).alloc (Nat.le_refl _) (.cells #[.string sgName,.string (fr++su)] 38)).trans (hb6.mono (by simp)) |>.mono hB5.out.size))
 clear CA hb6 hB5
 go_wp2
 go_ret
 exact⟨rfl,hend.out⟩
theorem specSign (msg d s:ByteArray)(A B h b:Int)(on:Option Addr)(M:List ByteArray)(cap:Nat)(w:World)(hmsg:msg.size≤1048576)(hd:d.size≤1048576)(hs:s.size≤1048576)(hM:Tx w.heap.size w on M)(hml:M.length≤1048576)(hmz:∀t ∈ M,t.size≤1048576) :
  Calls Tryz.prog 6 #[.string msg,sgV d s A B (.slice on M.length cap) h b] w fun e w'=>e=.returned (.string (plSign msg d s A B M h b))∧Below w.heap.size w w':=by
 unfold plSign
 split
 ·rename_i hg
  obtain⟨-,-,⟨A',rfl,-,-⟩,⟨B',rfl,-,-⟩,-⟩:=signer_parts d s A B M h b hg.1
  exact specSignGood msg d s A' B' h b on M cap w hM hg.1 hg.2.1 hg.2.2
 ·rename_i hg
  exact specSignBad msg d s A B h b on M cap w hmsg hd hs hM hml hmz hg
end Go.Proofs.YtacaoiedcfelcaaGreatDoor
