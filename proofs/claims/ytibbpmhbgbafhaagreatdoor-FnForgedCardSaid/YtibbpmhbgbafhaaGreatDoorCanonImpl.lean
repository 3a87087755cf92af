import Derived.Test.YtibbpmhbgbafhaaGreatDoorOneImpl
import Derived.Test.YtibbpmhbgbafhaaGreatDoorPhrasePlain
set_option maxRecDepth 20000
set_option maxHeartbeats 4000000
namespace Go.Proofs.YtibbpmhbgbafhaaGreatDoor
open Go.RowKit Go.Lib
def lenOf:Value→Nat
 | .slice _ n _=>n
 | _=>0
def isForm (x:Int):Bool:=x==0 || x==1
theorem implIsFormB (x:Int)(w:World):Calls Tryz.prog 129 #[.int .i64 x] w fun e w'=>e=.returned (.bool (isForm x))∧w=w':=by
 unfold isForm
 cases h0:(x==0)
 ·cases h1:(x==1)
  ·go_enter Tryz.func129,Tryz.ntmps129
   go_wp2
   go_ret
   exact⟨rfl,rfl⟩
  ·go_enter Tryz.func129,Tryz.ntmps129
   go_wp2
   go_ret
   exact⟨rfl,rfl⟩
 ·go_enter Tryz.func129,Tryz.ntmps129
  go_wp2
  go_ret
  exact⟨rfl,rfl⟩
theorem trim_bare (l:List UInt8):Lib.trimSuffix l [32]=Pl.bareEnd l:=by
 unfold Lib.trimSuffix Pl.bareEnd Pl.lastSp
 rcases List.eq_nil_or_concat l with rfl|⟨p,c,rfl⟩
 ·rfl
 ·have h:hasSuffix (p ++ [c]) [32]=(c==32):=by
   unfold hasSuffix List.isSuffixOf
   rw[List.reverse_append,List.reverse_singleton,List.reverse_singleton,List.singleton_append,List.isPrefixOf,List.isPrefixOf,Bool.and_true,Bool.beq_comm]
  simp[h]
theorem implCanonNo (s:ByteArray)(x:Int)(w:World)(hs:s.size≤1100000)(h:100000<s.size∨(¬x=0∧¬x=1)) :
  Calls Tryz.prog 86 #[.string s,.int .i64 x] w fun e w'=>e=.returned (.string ⟨#[]⟩)∧Below w.heap.size w w':=by
 have hT:=fun w=>implTooLong s w hs
 have hF:=fun w=>implIsFormB x w
 by_cases hl:100000<s.size
 ·have hd:decide ((100000:Int)<(s.size:Int))=true:=decide_eq_true (by omega)
  rw[hd] at hT
  go_enter Tryz.func86,Tryz.ntmps86
  go_wp2_with fail
  refine(hT _).mono ?_
  rintro e w1 ⟨rfl,rfl⟩
  go_wp2
  go_ret
  exact⟨rfl,Below.refl _ _⟩
 ·have hd:decide ((100000:Int)<(s.size:Int))=false:=decide_eq_false (by omega)
  rw[hd] at hT
  have hi:isForm x=false:=by unfold isForm;rcases h with h|h;omega;simp;omega
  rw[hi] at hF
  clear h
  go_enter Tryz.func86,Tryz.ntmps86
  go_wp2_with fail
  refine(hT _).mono ?_
  rintro e w1 ⟨rfl,rfl⟩
  go_wp2_with fail
  refine(hF _).mono ?_
  rintro e w1 ⟨rfl,rfl⟩
  go_wp2
  go_ret
  exact⟨rfl,Below.refl _ _⟩
set_option maxRecDepth 10000 in
theorem implCanonBody0 (s:ByteArray)(m:Int)(w:World)(hs:s.size≤100000)(hm:w.cell? ⟨0,0,none⟩=some (.int .i64 m)) :
  Calls Tryz.prog 86 #[.string s,.int .i64 0] w fun e w'=>e=.returned (.string ⟨(canonB s 0).toArray⟩)∧Below w.heap.size w w':=by
 obtain⟨i0,hi,hy0,hy1,hy2⟩:=info_parts Tryz.info5
 have hT:=fun w=>implTooLong s w (by omega)
 have hd:decide ((100000:Int)<(s.size:Int))=false:=decide_eq_false (by omega)
 rw[hd] at hT
 have hF:=fun w=>implIsFormB 0 w
 rw[show isForm 0=true from rfl] at hF
 have hL:=implLines s m w (by omega) hm
 obtain⟨R,hR⟩:∃R,canonB s 0=R:=⟨_,rfl⟩
 obtain⟨hcount,hmem⟩:=Pl.lines_count 100000 s.data.toList (by rw[Pl.len_list];exact hs)
 rw[Pl.len_list] at hcount
 obtain⟨ls,hls⟩:∃ls,Pl.lines s.data.toList=ls:=⟨_,rfl⟩
 obtain⟨D,hD⟩:∃D,Pl.dt ls=D:=⟨_,rfl⟩
 have hB:bodyL s 0=D:=by unfold bodyL;rw[if_neg (by decide),hls,hD]
 have HRne:Hid (¬D=[]→Pl.ends D=R):=show _→_ from fun h=>by rw[← hR,canonB,hB,if_neg (fun e=>h e.1)]
 have HRnil:Hid (D=[]→([13,10]:List UInt8)=R):=show _→_ from fun h=>by rw[← hR,canonB,hB,if_pos ⟨h,rfl⟩]
 rw[hR]
 rw[hls] at hL hcount hmem
 have Hmem:Hid (∀x ∈ ls,x.length≤100000):=hmem
 have Hd:Hid (Pl.dt ls=D):=hD
 clear hls hmem hR hB hD
 obtain⟨L,hLen⟩:∃L,ls.length=L:=⟨_,rfl⟩
 rw[hLen] at hcount
 go_enter Tryz.func86,Tryz.ntmps86
 go_wp2_with fail
 refine(hT _).mono ?_
 rintro e w1 ⟨rfl,rfl⟩
 go_wp2_with fail
 refine(hF _).mono ?_
 rintro e w1 ⟨rfl,rfl⟩
 go_wp2_with fail
 refine hL.mono ?_
 rintro e w1 ⟨v1,rfl,hown1,hb1⟩
 clear hT hF hm
 rcases hown1.form with ⟨rfl,hnil⟩|⟨g,cap,rfl,hg,hg2,hgl⟩
 ·skip
  have hDn:D=[]:=by rw[← Hd.out,hnil];rfl
  have HRz2:Hid (([13,10]:List UInt8)=R):=HRnil.out hDn
  have Hb1:Hid (Below w.heap.size w w1):=hb1
  clear hDn hL hown1 hb1 hnil HRnil HRne
  go_wp2
  go_loopw [5] (fun v wr=>v=.slice none 0 0∧wr=w1) (fun _ _=>0)
  case atStart=>exact⟨rfl,rfl⟩
  case round=>
   obtain⟨rfl,rfl⟩:=hrel
   go_wp2
   go_ret
   exact⟨by rw[← HRz2.out];rfl,Hb1.out⟩
 ·rw[hLen] at hown1 hgl ⊢
  obtain⟨V0,hV0⟩:∃V0,V0=w1:=⟨_,rfl⟩
  subst hV0
  have Hown:Hid (OwnS w.heap.size (.slice (some ⟨g,0,none⟩) L cap) ls V0):=hown1
  have Hb1:Hid (Below w.heap.size w V0):=hb1
  clear hL hown1 hb1
  go_wp2
  go_loopw [5] (fun v wr=>∃ k:Nat,k≤L∧v=.slice (some ⟨g,0,none⟩) k cap∧Hid (Pl.dt (ls.take k)=D)∧wr=V0) (fun v _=>lenOf v)
  case atStart=>exact⟨L,Nat.le_refl _,rfl,(by show _=_;rw[List.take_of_length_le (by omega)];exact Hd.out),rfl⟩
  case round=>
   obtain⟨k,hk,rfl,hp,rfl⟩:=hrel
   by_cases h0:0<k
   ·obtain⟨j,hkj⟩:∃j,k=j+1:=⟨k-1,by omega⟩
    have hj:j<ls.length:=by omega
    have hc:wr.cell? ⟨g,j,none⟩=some (.string ⟨ls[j].toArray⟩):=OwnS.cell Hown.out j hj
    have hidx:(k:Int)-1=(j:Int):=by omega
    have hjL:j<L:=by omega
    have hjk:j<k∧k≤j+1:=by omega
    have hjc:j≤cap:=by omega
    rw[hkj] at hp
    have HKJ:Hid (k=j+1):=hkj
    clear hkj
    cases he:ls[j].isEmpty
    ·have HD:Hid (ls.take (j+1)=D):=by
      show _=_
      rw[← hp.out,Pl.dt_stop ls j hj he]
     rw[← HKJ.out] at HD
     have HX:Hid (([]:List UInt8)++Pl.ends ((ls.take k).drop 0)=R):=by
      show _=_
      have hne:¬(D=[]):=by
       rw[← HD.out]
       intro e
       have hl:=congrArg List.length e
       rw[List.length_take,List.length_nil] at hl
       omega
      rw[List.drop_zero,HD.out,List.nil_append]
      exact HRne.out hne
     have het:(⟨ls[j].toArray⟩:ByteArray).toList.isEmpty=false:=by rw[ByteArray.toList_eq];exact he
     have hn0:((k:Int)==0)=false:=beq_eq_false_iff_ne.2 (by omega)
     clear hp he HD
     generalize (⟨ls[j].toArray⟩:ByteArray)=tj at hc het
     obtain⟨V,hV⟩:∃V,V=wr:=⟨_,rfl⟩
     subst hV
     go_wp2
     go_loopw [8,10,62] (fun u _ i wr=>∃ (m:Nat) (p:List UInt8),m≤k∧i=.int .i64 m∧p.length≤100002*m∧Hid (p++Pl.ends ((ls.take k).drop m)=R)∧Hid (Own V.heap.size u p wr)∧Hid (Below V.heap.size V wr)) (fun _ _ i _=>k-(Lib.intOf i).toNat)
     case atStart=>exact⟨0,[],Nat.zero_le _,rfl,by simp,HX,Own.nil _ _,Below.refl _ _⟩
     case round=>
      clear HX
      obtain⟨m,p,hm,rfl,hpl,HX,HO,HB⟩:=hrel
      by_cases hmj:m<k
      ·have hml:m<(ls.take k).length:=by rw[List.length_take];omega
       have hel:(ls.take k)[m]=ls[m]'(by omega):=List.getElem_take
       have HX2:=Pl.ends_step (ls.take k) p R m hml HX
       rw[hel] at HX2
       have hcm:wr.cell? ⟨g,m,none⟩=some (.string ⟨(ls[m]'(by omega)).toArray⟩):=(HB.out.cell (World.block_lt_of_cell? _ _ (OwnS.cell Hown.out m (by omega)))).trans (OwnS.cell Hown.out m (by omega))
       have hsz:(ls[m]'(by omega)).length≤100000:=Hmem.out _ (List.getElem_mem _)
       have hsz2:(⟨(ls[m]'(by omega)).toArray⟩:ByteArray).size≤100000:=by show(ls[m]'(by omega)).toArray.size≤_;rw[List.size_toArray];exact hsz
       have HD2:Hid ((⟨(ls[m]'(by omega)).toArray⟩:ByteArray).data.toList=ls[m]'(by omega)):=show _=_ from rfl
       have hown2:=HO.out
       clear HX hel
       generalize (⟨(ls[m]'(by omega)).toArray⟩:ByteArray)=tm at *
       generalize ls[m]'(by omega)=lm at HX2 HD2 hsz
       go_wp2_with (at_builtin;go_must (first
        | (refine wp_apps (W:=V) rfl _ _ 22 9 rfl i0 Tryz.underlying22 Tryz.underlying9 hi hy0 hy1 hy2 V.heap.size v' (p++tm.data.toList) rfl hown' ⟨#[13,10]⟩ rfl (by rw[List.length_append,Pl.len_list];show _+_+2≤_;omega) (Nat.le_refl _) hb' ?_;intro v3 w3 hown3 hb3)
        | (refine wp_apps (W:=V) rfl _ _ 22 9 rfl i0 Tryz.underlying22 Tryz.underlying9 hi hy0 hy1 hy2 V.heap.size u8 p rfl hown2 tm rfl (by omega) (Nat.le_refl _) HB.out ?_;intro v' w' hown' hb')))
       rw[HD2.out] at hown3
       go_roundw
       case rel=>exact⟨m+1,_,by omega,by go_num,(by rw[List.length_append,List.length_append];show _+_+2≤_;omega),HX2,hown3,hb3⟩
       case measure=>simp[Lib.intOf];omega
      ·have hpR:p=R:=by
        rw[← HX.out,List.drop_eq_nil_of_le (by rw[List.length_take];omega)]
        simp[Pl.ends]
       have HpR:Hid (p=R):=hpR
       have hbk:=HO.out.back (P:=Tryz.prog) 22 9 Tryz.underlying22 Tryz.underlying5 Tryz.underlying9
       have hbe:=Hb1.out.trans (HB.out.mono Hb1.out.size)
       clear HX hpR HB HO
       go_wp2
       go_ret
       exact⟨by rw[← HpR.out];rfl,hbe⟩
    ·have HN:Hid (Pl.dt (ls.take j)=D):=by
      show _=_
      rw[Pl.dt_step ls j hj he];exact hp.out
     have het:(⟨ls[j].toArray⟩:ByteArray).toList.isEmpty=true:=by rw[ByteArray.toList_eq];exact he
     clear hp he
     generalize (⟨ls[j].toArray⟩:ByteArray)=tj at hc het
     go_wp2
     go_roundw
     case rel=>exact⟨j,by omega,rfl,HN,trivial⟩
     case measure=>simp[lenOf];omega
   ·obtain rfl:k=0:=by omega
    have HZ:Hid (D=[]):=by
     show _=_
     rw[← hp.out,List.take_zero];rfl
    have HRz2:Hid (([13,10]:List UInt8)=R):=HRnil.out HZ.out
    clear hp HZ h0
    go_wp2
    go_ret
    exact⟨by rw[← HRz2.out];rfl,Hb1.out⟩
set_option maxRecDepth 10000 in
theorem implCanonBody1 (s:ByteArray)(m:Int)(w:World)(hs:s.size≤100000)(hm:w.cell? ⟨0,0,none⟩=some (.int .i64 m)) :
  Calls Tryz.prog 86 #[.string s,.int .i64 1] w fun e w'=>e=.returned (.string ⟨(canonB s 1).toArray⟩)∧Below w.heap.size w w':=by
 obtain⟨i0,hi,hy0,hy1,hy2⟩:=info_parts Tryz.info5
 have hT:=fun w=>implTooLong s w (by omega)
 have hd:decide ((100000:Int)<(s.size:Int))=false:=decide_eq_false (by omega)
 rw[hd] at hT
 have hF:=fun w=>implIsFormB 1 w
 rw[show isForm 1=true from rfl] at hF
 have hL:=implLines s m w (by omega) hm
 obtain⟨R,hR⟩:∃R,canonB s 1=R:=⟨_,rfl⟩
 obtain⟨hcount,hmem⟩:=Pl.lines_count 100000 s.data.toList (by rw[Pl.len_list];exact hs)
 rw[Pl.len_list] at hcount
 obtain⟨l0,hls⟩:∃ls,Pl.lines s.data.toList=ls:=⟨_,rfl⟩
 obtain⟨ls,hlm⟩:∃ls,l0.map Pl.runs=ls:=⟨_,rfl⟩
 obtain⟨D,hD⟩:∃D,Pl.dt ls=D:=⟨_,rfl⟩
 have hB:bodyL s 1=D:=by unfold bodyL;rw[if_pos rfl,hls,hlm,hD]
 have HRne:Hid (¬D=[]→Pl.ends D=R):=show _→_ from fun h=>by rw[← hR,canonB,hB,if_neg (fun e=>h e.1)]
 have HRnil:Hid (D=[]→([]:List UInt8)=R):=show _→_ from fun h=>by rw[← hR,canonB,hB,if_neg (fun e=>by have:=e.2;omega),h];rfl
 rw[hR]
 rw[hls] at hL hcount hmem
 have Hmem0:Hid (∀x ∈ l0,x.length≤100000):=hmem
 have Hmem:Hid (∀x ∈ ls,x.length≤100000):=by
  intro x hx
  rw[← hlm] at hx
  obtain⟨y,hy,rfl⟩:=List.mem_map.1 hx
  exact Nat.le_trans (Pl.runs_len y) (hmem y hy)
 have Hd:Hid (Pl.dt ls=D):=hD
 have Hlm:Hid (l0.map Pl.runs=ls):=hlm
 clear hls hmem hR hB hD hlm
 obtain⟨L,hLen0⟩:∃L,l0.length=L:=⟨_,rfl⟩
 have hLen:ls.length=L:=by rw[← Hlm.out,List.length_map];exact hLen0
 rw[hLen0] at hcount
 go_enter Tryz.func86,Tryz.ntmps86
 go_wp2_with fail
 refine(hT _).mono ?_
 rintro e w1 ⟨rfl,rfl⟩
 go_wp2_with fail
 refine(hF _).mono ?_
 rintro e w1 ⟨rfl,rfl⟩
 go_wp2_with fail
 refine hL.mono ?_
 rintro e w1 ⟨v1,rfl,hown1,hb1⟩
 clear hT hF hm
 rcases hown1.form with ⟨rfl,hnil⟩|⟨g,cap,rfl,hg,hg2,hgl⟩
 ·skip
  have hDn:D=[]:=by rw[← Hd.out,← Hlm.out,hnil];rfl
  have HRz2:Hid (([]:List UInt8)=R):=HRnil.out hDn
  have Hb1:Hid (Below w.heap.size w w1):=hb1
  clear hDn hL hown1 hb1 hnil HRnil HRne
  go_wp2
  go_loopw [6,7,24] (fun _ _ i wr=>i=.int .i64 0∧wr=w1) (fun _ _ _ _=>0)
  case atStart=>exact⟨rfl,rfl⟩
  case round=>
   obtain⟨rfl,rfl⟩:=hrel
   obtain⟨U,hU⟩:∃U,U=wr:=⟨_,rfl⟩
   subst hU
   go_wp2
   go_loopw [5] (fun v wr=>v=.slice none 0 0∧wr=U) (fun _ _=>0)
   case atStart=>exact⟨rfl,rfl⟩
   case round=>
    obtain⟨rfl,rfl⟩:=hrel
    obtain⟨V,hV⟩:∃V,V=wr:=⟨_,rfl⟩
    subst hV
    go_wp2
    go_loopw [8,10,62] (fun u _ i wr=>i=.int .i64 0∧u=.slice none 0 0∧wr=V) (fun _ _ _ _=>0)
    case atStart=>exact⟨rfl,rfl,rfl⟩
    case round=>
     obtain⟨rfl,rfl,rfl⟩:=hrel
     have hbk:=(Own.nil 0 wr).back (P:=Tryz.prog) 22 9 Tryz.underlying22 Tryz.underlying5 Tryz.underlying9
     go_wp2
     go_ret
     exact⟨by rw[← HRz2.out];rfl,Hb1.out⟩
 ·rw[hLen0] at hown1 hgl ⊢
  have Hown0:Hid (OwnS w.heap.size (.slice (some ⟨g,0,none⟩) L cap) ((l0.take 0).map Pl.runs++l0.drop 0) w1):=show OwnS _ _ _ _ from by simpa using hown1
  have Hb0:Hid (Below w.heap.size w w1):=hb1
  clear hL hown1 hb1
  go_wp2
  go_loopw [6,7,24] (fun _ _ i wr=>∃ k:Nat,k≤L∧i=.int .i64 k∧Hid (OwnS w.heap.size (.slice (some ⟨g,0,none⟩) L cap) ((l0.take k).map Pl.runs++l0.drop k) wr)∧Hid (Below w.heap.size w wr)) (fun _ _ i _=>L-(Lib.intOf i).toNat)
  case atStart=>exact⟨0,Nat.zero_le _,rfl,Hown0,Hb0⟩
  case round=>
   clear Hown0 Hb0
   obtain⟨k,hk,rfl,HO,HB⟩:=hrel
   by_cases hlt:k<L
   ·have hk0:k<l0.length:=by omega
    have hc:=OwnS.cell HO.out k (by simp;omega)
    rw[mid_get l0 k hk0] at hc
    have hc2:wr.cell? ⟨g,k,none⟩=some (.string ⟨l0[k].toArray⟩):=hc
    have hsz:(⟨l0[k].toArray⟩:ByteArray).size≤100000:=by show l0[k].toArray.size≤_;rw[List.size_toArray];exact Hmem0.out _ (List.getElem_mem _)
    have hRu:∀w:World,Calls Tryz.prog 137 #[.string ⟨l0[k].toArray⟩] w fun e w'=>e=.returned (.string ⟨(Pl.rn false l0[k]).toArray⟩)∧Below w.heap.size w w':=fun w=>implOneSpaced ⟨l0[k].toArray⟩ w hsz
    have hln:(Pl.rn false l0[k]).length≤100000:=Nat.le_trans (Pl.rn_len _ _) (Hmem0.out _ (List.getElem_mem _))
    have hTr:∀w:World,Calls Tryz.prog 136 #[.string ⟨(Pl.rn false l0[k]).toArray⟩,.string ⟨#[32]⟩] w fun e w'=>e=.returned (.string ⟨(Pl.runs l0[k]).toArray⟩)∧w=w':=fun w=>(Tryz.strings_TrimSuffix ⟨(Pl.rn false l0[k]).toArray⟩ ⟨#[32]⟩ w (by show(Pl.rn false l0[k]).toArray.size≤_;rw[List.size_toArray];omega)).mono fun e w' ⟨he,hw⟩=>⟨by rw[he,Pl.runs,← trim_bare],hw.symm⟩
    have HS:=(show Hid _ from mid_set l0 k hk0)
    clear hc
    generalize (⟨l0[k].toArray⟩:ByteArray)=tk at hc2 hsz hRu
    generalize Pl.rn false l0[k]=rk at hRu hTr hln
    generalize l0[k]=lk at hTr HS
    go_wp2_with fail
    refine(hRu _).mono ?_
    rintro e w2 ⟨rfl,hb2⟩
    have HO2:Hid (OwnS w.heap.size (.slice (some ⟨g,0,none⟩) L cap) ((l0.take k).map Pl.runs++l0.drop k) w2):=OwnS.keep HO.out (Nat.le_refl _) hb2
    have hfr:=OwnS.free HO2.out k
    have hc3:=(hb2.cell (World.block_lt_of_cell? _ _ hc2)).trans hc2
    have HO3:Hid (OwnS w.heap.size (.slice (some ⟨g,0,none⟩) L cap) ((l0.take (k+1)).map Pl.runs++l0.drop (k+1)) (w2.setCell ⟨g,k,none⟩ (.string ⟨(Pl.runs lk).toArray⟩))):=by
     have:=OwnS.stored HO2.out (by simp;omega) k (Pl.runs lk)
     rw[HS.out] at this
     exact this
    have HB3:Hid (Below w.heap.size w (w2.setCell ⟨g,k,none⟩ (.string ⟨(Pl.runs lk).toArray⟩))):=(HB.out.trans (hb2.mono HB.out.size)).setCell hg _
    clear HO HO2 hRu HS hb2 HB
    go_wp2_with fail
    refine(hTr _).mono ?_
    rintro e w3 ⟨rfl,rfl⟩
    clear hTr
    go_wp2
    go_roundw
    case rel=>exact⟨k+1,by omega,by go_num,HO3,HB3⟩
    case measure=>simp[Lib.intOf];omega
   ·obtain⟨V0,hV0⟩:∃V0,V0=wr:=⟨_,rfl⟩
    subst hV0
    have Hown:Hid (OwnS w.heap.size (.slice (some ⟨g,0,none⟩) L cap) ls V0):=by
     have:=HO.out
     rw[List.take_of_length_le (by omega),List.drop_eq_nil_of_le (by omega),List.append_nil,Hlm.out] at this
     exact this
    have Hb1:Hid (Below w.heap.size w V0):=HB.out
    clear HO HB
    go_wp2
    go_loopw [5] (fun v wr=>∃ k:Nat,k≤L∧v=.slice (some ⟨g,0,none⟩) k cap∧Hid (Pl.dt (ls.take k)=D)∧wr=V0) (fun v _=>lenOf v)
    case atStart=>exact⟨L,Nat.le_refl _,rfl,(by show _=_;rw[List.take_of_length_le (by omega)];exact Hd.out),rfl⟩
    case round=>
     obtain⟨k,hk,rfl,hp,rfl⟩:=hrel
     by_cases h0:0<k
     ·obtain⟨j,hkj⟩:∃j,k=j+1:=⟨k-1,by omega⟩
      have hj:j<ls.length:=by omega
      have hc:wr.cell? ⟨g,j,none⟩=some (.string ⟨ls[j].toArray⟩):=OwnS.cell Hown.out j hj
      have hidx:(k:Int)-1=(j:Int):=by omega
      have hjL:j<L:=by omega
      have hjk:j<k∧k≤j+1:=by omega
      have hjc:j≤cap:=by omega
      rw[hkj] at hp
      have HKJ:Hid (k=j+1):=hkj
      clear hkj
      cases he:ls[j].isEmpty
      ·have HD:Hid (ls.take (j+1)=D):=by
        show _=_
        rw[← hp.out,Pl.dt_stop ls j hj he]
       rw[← HKJ.out] at HD
       have HX:Hid (([]:List UInt8)++Pl.ends ((ls.take k).drop 0)=R):=by
        show _=_
        have hne:¬(D=[]):=by
         rw[← HD.out]
         intro e
         have hl:=congrArg List.length e
         rw[List.length_take,List.length_nil] at hl
         omega
        rw[List.drop_zero,HD.out,List.nil_append]
        exact HRne.out hne
       have het:(⟨ls[j].toArray⟩:ByteArray).toList.isEmpty=false:=by rw[ByteArray.toList_eq];exact he
       have hn0:((k:Int)==0)=false:=beq_eq_false_iff_ne.2 (by omega)
       clear hp he HD
       generalize (⟨ls[j].toArray⟩:ByteArray)=tj at hc het
       obtain⟨V,hV⟩:∃V,V=wr:=⟨_,rfl⟩
       subst hV
       go_wp2
       go_loopw [8,10,62] (fun u _ i wr=>∃ (m:Nat) (p:List UInt8),m≤k∧i=.int .i64 m∧p.length≤100002*m∧Hid (p++Pl.ends ((ls.take k).drop m)=R)∧Hid (Own V.heap.size u p wr)∧Hid (Below V.heap.size V wr)) (fun _ _ i _=>k-(Lib.intOf i).toNat)
       case atStart=>exact⟨0,[],Nat.zero_le _,rfl,by simp,HX,Own.nil _ _,Below.refl _ _⟩
       case round=>
        clear HX
        obtain⟨m,p,hm,rfl,hpl,HX,HO,HB⟩:=hrel
        by_cases hmj:m<k
        ·have hml:m<(ls.take k).length:=by rw[List.length_take];omega
         have hel:(ls.take k)[m]=ls[m]'(by omega):=List.getElem_take
         have HX2:=Pl.ends_step (ls.take k) p R m hml HX
         rw[hel] at HX2
         have hcm:wr.cell? ⟨g,m,none⟩=some (.string ⟨(ls[m]'(by omega)).toArray⟩):=(HB.out.cell (World.block_lt_of_cell? _ _ (OwnS.cell Hown.out m (by omega)))).trans (OwnS.cell Hown.out m (by omega))
         have hsz:(ls[m]'(by omega)).length≤100000:=Hmem.out _ (List.getElem_mem _)
         have hsz2:(⟨(ls[m]'(by omega)).toArray⟩:ByteArray).size≤100000:=by show(ls[m]'(by omega)).toArray.size≤_;rw[List.size_toArray];exact hsz
         have HD2:Hid ((⟨(ls[m]'(by omega)).toArray⟩:ByteArray).data.toList=ls[m]'(by omega)):=show _=_ from rfl
         have hown2:=HO.out
         clear HX hel
         generalize (⟨(ls[m]'(by omega)).toArray⟩:ByteArray)=tm at *
         generalize ls[m]'(by omega)=lm at HX2 HD2 hsz
         go_wp2_with (at_builtin;go_must (first
          | (refine wp_apps (W:=V) rfl _ _ 22 9 rfl i0 Tryz.underlying22 Tryz.underlying9 hi hy0 hy1 hy2 V.heap.size v' (p++tm.data.toList) rfl hown' ⟨#[13,10]⟩ rfl (by rw[List.length_append,Pl.len_list];show _+_+2≤_;omega) (Nat.le_refl _) hb' ?_;intro v3 w3 hown3 hb3)
          | (refine wp_apps (W:=V) rfl _ _ 22 9 rfl i0 Tryz.underlying22 Tryz.underlying9 hi hy0 hy1 hy2 V.heap.size u8 p rfl hown2 tm rfl (by omega) (Nat.le_refl _) HB.out ?_;intro v' w' hown' hb')))
         rw[HD2.out] at hown3
         go_roundw
         case rel=>exact⟨m+1,_,by omega,by go_num,(by rw[List.length_append,List.length_append];show _+_+2≤_;omega),HX2,hown3,hb3⟩
         case measure=>simp[Lib.intOf];omega
        ·have hpR:p=R:=by
          rw[← HX.out,List.drop_eq_nil_of_le (by rw[List.length_take];omega)]
          simp[Pl.ends]
         have HpR:Hid (p=R):=hpR
         have hbk:=HO.out.back (P:=Tryz.prog) 22 9 Tryz.underlying22 Tryz.underlying5 Tryz.underlying9
         have hbe:=Hb1.out.trans (HB.out.mono Hb1.out.size)
         clear HX hpR HB HO
         go_wp2
         go_ret
         exact⟨by rw[← HpR.out];rfl,hbe⟩
      ·have HN:Hid (Pl.dt (ls.take j)=D):=by
        show _=_
        rw[Pl.dt_step ls j hj he];exact hp.out
       have het:(⟨ls[j].toArray⟩:ByteArray).toList.isEmpty=true:=by rw[ByteArray.toList_eq];exact he
       clear hp he
       generalize (⟨ls[j].toArray⟩:ByteArray)=tj at hc het
       go_wp2
       go_roundw
       case rel=>exact⟨j,by omega,rfl,HN,trivial⟩
       case measure=>simp[lenOf];omega
     ·obtain rfl:k=0:=by omega
      have HZ:Hid (D=[]):=by
       show _=_
       rw[← hp.out,List.take_zero];rfl
      have HX:Hid (([]:List UInt8)++Pl.ends ((ls.take 0).drop 0)=R):=by
       show _=_
       rw[List.take_zero]
       exact HRnil.out HZ.out
      have hk:(0:Nat)≤L:=Nat.zero_le _
      clear hp HZ h0
      obtain⟨k,hk0⟩:∃k:Nat,k=0:=⟨_,rfl⟩
      obtain⟨V,hV⟩:∃V,V=wr:=⟨_,rfl⟩
      subst hV
      go_wp2
      go_loopw [8,10,62] (fun u _ i wr=>i=.int .i64 0∧u=.slice none 0 0∧wr=V) (fun _ _ _ _=>0)
      case atStart=>exact⟨rfl,rfl,rfl⟩
      case round=>
       obtain⟨rfl,rfl,rfl⟩:=hrel
       have hbk:=(Own.nil 0 wr).back (P:=Tryz.prog) 22 9 Tryz.underlying22 Tryz.underlying5 Tryz.underlying9
       go_wp2
       go_ret
       exact⟨by rw[← HX.out];rfl,Hb1.out⟩
theorem implCanonBody (s:ByteArray)(x m:Int)(w:World)(hs:s.size≤1100000)(hm:w.cell? ⟨0,0,none⟩=some (.int .i64 m)) :
  Calls Tryz.prog 86 #[.string s,.int .i64 x] w fun e w'=>e=.returned (.string (canonAny s x))∧Below w.heap.size w w':=by
 unfold canonAny
 by_cases h:100000<s.size∨(¬x=0∧¬x=1)
 ·rw[if_pos h];exact implCanonNo s x w hs h
 ·rw[if_neg h]
  have hx:x=0∨x=1:=by omega
  rcases hx with rfl|rfl
  ·exact implCanonBody0 s m w (by omega) hm
  ·exact implCanonBody1 s m w (by omega) hm
end Go.Proofs.YtibbpmhbgbafhaaGreatDoor
