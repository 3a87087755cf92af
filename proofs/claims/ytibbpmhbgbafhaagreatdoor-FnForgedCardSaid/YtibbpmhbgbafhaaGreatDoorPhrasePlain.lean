import Derived.Test.YtibbpmhbgbafhaaGreatDoorLinesBoth
import Derived.Test.YtibbpmhbgbafhaaGreatDoorCanonFieldSpec
import Derived.Test.YtibbpmhbgbafhaaGreatDoorBytes
import Derived.Lib.SplitLaws
set_option maxRecDepth 20000
set_option maxHeartbeats 4000000
namespace Go.Proofs.YtibbpmhbgbafhaaGreatDoor
open Go.RowKit Go.Lib
namespace Pl
def dt (ls:List (List UInt8)):List (List UInt8):=(ls.reverse.dropWhile (fun l=>l.isEmpty)).reverse
def ends (ls:List (List UInt8)):List UInt8:=ls.flatMap fun l=>l ++ [13,10]
theorem dt_step (ls:List (List UInt8))(k:Nat)(hk:k<ls.length)(h:ls[k].isEmpty=true):dt (ls.take k)=dt (ls.take (k+1)):=by
 unfold dt
 rw[List.take_succ_eq_append_getElem hk,List.reverse_append,List.reverse_singleton,List.singleton_append,List.dropWhile_cons,if_pos h]
theorem dt_stop (ls:List (List UInt8))(k:Nat)(hk:k<ls.length)(h:ls[k].isEmpty=false):dt (ls.take (k+1))=ls.take (k+1):=by
 unfold dt
 rw[List.take_succ_eq_append_getElem hk,List.reverse_append,List.reverse_singleton,List.singleton_append,List.dropWhile_cons,if_neg (by rw[h];simp),List.reverse_cons,List.reverse_reverse]
theorem ends_step (ms:List (List UInt8))(p X:List UInt8)(j:Nat)(hj:j<ms.length)(h:Hid (p++ends (ms.drop j)=X)):Hid ((p++ms[j] ++ [13,10])++ends (ms.drop (j+1))=X):=by
 have h:=h.out
 rw[List.drop_eq_getElem_cons hj] at h
 show _=_
 rw[← h]
 unfold ends
 rw[List.flatMap_cons]
 simp
theorem lines_count:∀(n:Nat)(l:List UInt8),l.length≤n→(lines l).length≤l.length∧∀x ∈ lines l,x.length≤n
 | 0,l,h=>by
  obtain rfl:l=[]:=List.length_eq_zero_iff.1 (by omega)
  rw[lines_nil]
  exact⟨by simp,fun x hx=>absurd hx (List.not_mem_nil)⟩
 | n+1,l,h=>by
  by_cases hl:l=[]
  ·subst hl
   rw[lines_nil]
   exact⟨by simp,fun x hx=>absurd hx (List.not_mem_nil)⟩
  ·have h1:=cut_rest l hl
   have h2:=cut_fst l
   obtain⟨a,b⟩:=lines_count n (cut l crs).2.1 (by omega)
   rw[lines_step l hl]
   refine⟨by rw[List.length_cons];omega,?_⟩
   intro x hx
   rcases List.mem_cons.1 hx with rfl|hx
   ·omega
   ·have:=b x hx;omega
end Pl
def bodyL (s:ByteArray)(x:Int):List (List UInt8):=Pl.dt (if x=1 then (Pl.lines s.data.toList).map Pl.runs else Pl.lines s.data.toList)
def canonB (s:ByteArray)(x:Int):List UInt8:=if bodyL s x=[]∧x=0 then [13,10] else Pl.ends (bodyL s x)
theorem OwnS.stored {B g cap n:Nat} {ps:List (List UInt8)} {w:World} (h:OwnS B (.slice (some ⟨g,0,none⟩) n cap) ps w)(hn:n=ps.length)(j:Nat)(c:List UInt8) :
  OwnS B (.slice (some ⟨g,0,none⟩) n cap) (ps.set j c) (w.setCell ⟨g,j,none⟩ (txtL c)):=by
 subst hn
 have:=(World.ownsRow.stored h j (txtL c)).1
 unfold OwnS
 rw[List.length_set,List.map_set]
 exact this
theorem OwnS.free {B g cap n:Nat} {ps:List (List UInt8)} {w:World} (h:OwnS B (.slice (some ⟨g,0,none⟩) n cap) ps w)(j:Nat):w.frozen? ⟨g,j,none⟩=false:=by
 rcases h.2 with ⟨h2,-⟩|⟨g',cap',cur,e1,e2,e3,-⟩
 ·cases h2
 ·cases e1
  simp[World.frozen?,e3]
theorem mid_get (ls:List (List UInt8))(k:Nat)(hk:k<ls.length):((ls.take k).map Pl.runs++ls.drop k)[k]'(by simp;omega)=ls[k]:=by
 rw[List.getElem_append_right (by simp;omega)]
 simp[List.getElem_drop,Nat.min_eq_left (Nat.le_of_lt hk)]
theorem mid_set (ls:List (List UInt8))(k:Nat)(hk:k<ls.length):((ls.take k).map Pl.runs++ls.drop k).set k (Pl.runs ls[k])=(ls.take (k+1)).map Pl.runs++ls.drop (k+1):=by
 have hl:((ls.take k).map Pl.runs).length=k:=by simp;omega
 rw[List.set_append,if_neg (by omega),hl,Nat.sub_self,List.drop_eq_getElem_cons hk,List.set_cons_zero,List.take_succ_eq_append_getElem hk,List.map_append,List.map_singleton,List.append_assoc,List.singleton_append]
set_option maxRecDepth 10000 in
theorem specCanonBody0 (s:ByteArray)(w:World)(hs:s.size≤100000) :
  Calls Tryz.prog 15 #[.string s,.int .i64 0] w fun e w'=>e=.returned (.string ⟨(canonB s 0).toArray⟩)∧Below w.heap.size w w':=by
 obtain⟨i0,hi,hy0,hy1,hy2⟩:=info_parts Tryz.info5
 have hL:=specLines s w hs
 obtain⟨R,hR⟩:∃R,canonB s 0=R:=⟨_,rfl⟩
 obtain⟨hcount,hmem⟩:=Pl.lines_count 100000 s.data.toList (by rw[Pl.len_list];exact hs)
 rw[Pl.len_list] at hcount
 obtain⟨ls,hls⟩:∃ls,Pl.lines s.data.toList=ls:=⟨_,rfl⟩
 obtain⟨D,hD⟩:∃D,Pl.dt ls=D:=⟨_,rfl⟩
 have hB:bodyL s 0=D:=by unfold bodyL;rw[if_neg (by decide),hls,hD]
 have HRne:Hid (¬D=[]→Pl.ends D=R):=show _→_ from fun h=>by rw[← hR,canonB,hB,if_neg (fun e=>h e.1)]
 have HRnil:Hid (D=[]→([13,10]:List UInt8)=R):=show _→_ from fun h=>by rw[← hR,canonB,hB,if_pos ⟨h,rfl⟩]
 rw[hR]
 rw[hls] at hL hcount hmem
 have Hmem:Hid (∀x ∈ ls,x.length≤100000):=hmem
 have Hd:Hid (Pl.dt ls=D):=hD
 clear hls hmem hR hB hD
 obtain⟨L,hLen⟩:∃L,ls.length=L:=⟨_,rfl⟩
 rw[hLen] at hcount
 go_enter Tryz.func15,Tryz.ntmps15
 go_wp2_with fail
 refine hL.mono ?_
 rintro e w1 ⟨v1,rfl,hown1,hb1⟩
 rcases hown1.form with ⟨rfl,hnil⟩|⟨g,cap,rfl,hg,hgl⟩
 ·skip
  have hDn:D=[]:=by rw[← Hd.out,hnil];rfl
  have HRz2:Hid (([13,10]:List UInt8)=R):=HRnil.out hDn
  have hbz:Hid (Below w.heap.size w (w1.alloc (.cells #[] 5))):=hb1.alloc hb1.size _
  have hbk:(convert 22 9 (.slice (some ⟨w1.heap.size,0,none⟩) 0 0)).run Tryz.prog (w1.alloc (.cells #[] 5))=.ok (.string ⟨([]:List UInt8).toArray⟩) (w1.alloc (.cells #[] 5)):=(Own.made w1.heap.size w1 (Nat.le_refl _)).back (P:=Tryz.prog) 22 9 Tryz.underlying22 Tryz.underlying5 Tryz.underlying9
  clear hDn hL hown1 hb1 hnil HRnil HRne
  go_wp2
  go_loopw [7] (fun n wr=>n=.int .i64 0∧wr=w1) (fun _ _=>0)
  case atStart=>exact⟨rfl,rfl⟩
  case round=>
   obtain⟨rfl,rfl⟩:=hrel
   obtain⟨V,hV⟩:∃V,V=wr:=⟨_,rfl⟩
   subst hV
   go_wp2
   go_loopw [8,9] (fun u i wr=>i=.int .i64 0∧u=.slice (some ⟨V.heap.size,0,none⟩) 0 0∧wr=V.alloc (.cells #[] 5)) (fun _ _ _=>0)
   case atStart=>exact⟨rfl,rfl,rfl⟩
   case round=>
    obtain⟨rfl,rfl,rfl⟩:=hrel
    go_wp2
    go_ret
    exact⟨by rw[← HRz2.out];rfl,hbz.out⟩
 ·rw[hLen] at hown1 ⊢
  have Hown:Hid (OwnS w.heap.size (.slice (some ⟨g,0,none⟩) L cap) ls w1):=hown1
  have Hb1:Hid (Below w.heap.size w w1):=hb1
  clear hL hown1 hb1
  go_wp2
  go_loopw [7] (fun n wr=>∃ k:Nat,k≤L∧n=.int .i64 k∧Hid (Pl.dt (ls.take k)=D)∧wr=w1) (fun n _=>(Lib.intOf n).toNat)
  case atStart=>exact⟨L,Nat.le_refl _,rfl,(by show _=_;rw[List.take_of_length_le (by omega)];exact Hd.out),rfl⟩
  case round=>
   obtain⟨k,hk,rfl,hp,rfl⟩:=hrel
   by_cases h0:0<k
   ·obtain⟨j,hkj⟩:∃j,k=j+1:=⟨k-1,by omega⟩
    have hj:j<ls.length:=by omega
    have hc:wr.cell? ⟨g,j,none⟩=some (.string ⟨ls[j].toArray⟩):=OwnS.cell Hown.out j hj
    have hidx:(k:Int)-1=(j:Int):=by omega
    have hjL:j<L:=by omega
    have hjk:j<k∧k≤j+1:=by omega
    rw[hkj] at hp
    have HKJ:Hid (k=j+1):=hkj
    clear hkj
    cases he:ls[j].isEmpty
    ·have HD:Hid (ls.take (j+1)=D):=by
      show _=_
      rw[← hp.out,Pl.dt_stop ls j hj he]
     rw[← HKJ.out] at HD
     have HX:Hid (([]:List UInt8)++Pl.ends ((ls.take k).drop 0)=R):=by
      show _=_
      have hne:¬(D=[]):=by
       rw[← HD.out]
       intro e
       have hl:=congrArg List.length e
       rw[List.length_take,List.length_nil] at hl
       omega
      rw[List.drop_zero,HD.out,List.nil_append]
      exact HRne.out hne
     have het:(⟨ls[j].toArray⟩:ByteArray).toList.isEmpty=false:=by rw[ByteArray.toList_eq];exact he
     clear hp he HD
     generalize (⟨ls[j].toArray⟩:ByteArray)=tj at hc het
     obtain⟨V,hV⟩:∃V,V=wr:=⟨_,rfl⟩
     subst hV
     go_wp2
     go_loopw [8,9] (fun u i wr=>∃ (m:Nat) (p:List UInt8),m≤k∧i=.int .i64 m∧p.length≤100002*m∧Hid (p++Pl.ends ((ls.take k).drop m)=R)∧Hid (Own V.heap.size u p wr)∧Hid (Below V.heap.size V wr)) (fun _ i _=>k-(Lib.intOf i).toNat)
     case atStart=>exact⟨0,[],Nat.zero_le _,rfl,by simp,HX,Own.made V.heap.size V (Nat.le_refl _),(Below.refl _ _).alloc (Nat.le_refl _) _⟩
     case round=>
      clear HX
      obtain⟨m,p,hm,rfl,hpl,HX,HO,HB⟩:=hrel
      by_cases hmj:m<k
      ·have hml:m<(ls.take k).length:=by rw[List.length_take];omega
       have hel:(ls.take k)[m]=ls[m]'(by omega):=List.getElem_take
       have HX2:=Pl.ends_step (ls.take k) p R m hml HX
       rw[hel] at HX2
       have hcm:wr.cell? ⟨g,m,none⟩=some (.string ⟨(ls[m]'(by omega)).toArray⟩):=(HB.out.cell (World.block_lt_of_cell? _ _ (OwnS.cell Hown.out m (by omega)))).trans (OwnS.cell Hown.out m (by omega))
       have hsz:(ls[m]'(by omega)).length≤100000:=Hmem.out _ (List.getElem_mem _)
       have hsz2:(⟨(ls[m]'(by omega)).toArray⟩:ByteArray).size≤100000:=by show(ls[m]'(by omega)).toArray.size≤_;rw[List.size_toArray];exact hsz
       have HD2:Hid ((⟨(ls[m]'(by omega)).toArray⟩:ByteArray).data.toList=ls[m]'(by omega)):=show _=_ from rfl
       have hown2:=HO.out
       clear HX hel
       generalize (⟨(ls[m]'(by omega)).toArray⟩:ByteArray)=tm at *
       generalize ls[m]'(by omega)=lm at HX2 HD2 hsz
       go_wp2_with (at_builtin;go_must (first
        | (refine wp_app (W:=V) rfl _ _ 22 rfl i0 Tryz.underlying22 hi hy0 hy1 hy2 V.heap.size v' (p++tm.data.toList) rfl hown' _ [13,10] rfl 2 2 rfl rfl (by simp;omega) (Nat.le_refl _) hb' ?_;intro v3 w3 hown3 hb3)
        | (refine wp_apps (W:=V) rfl _ _ 22 9 rfl i0 Tryz.underlying22 Tryz.underlying9 hi hy0 hy1 hy2 V.heap.size u8 p rfl hown2 tm rfl (by omega) (Nat.le_refl _) HB.out ?_;intro v' w' hown' hb')))
       rw[HD2.out] at hown3
       go_roundw
       case rel=>exact⟨m+1,_,by omega,by go_num,(by simp;omega),HX2,hown3,hb3⟩
       case measure=>simp[Lib.intOf];omega
      ·have hpR:p=R:=by
        rw[← HX.out,List.drop_eq_nil_of_le (by rw[List.length_take];omega)]
        simp[Pl.ends]
       have HpR:Hid (p=R):=hpR
       have hbk:=HO.out.back (P:=Tryz.prog) 22 9 Tryz.underlying22 Tryz.underlying5 Tryz.underlying9
       have hn0:((k:Int)==0)=false:=beq_eq_false_iff_ne.2 (by omega)
       have hbe:=Hb1.out.trans (HB.out.mono Hb1.out.size)
       clear HX hpR HB HO
       go_wp2
       go_ret
       exact⟨by rw[← HpR.out];rfl,hbe⟩
    ·have HN:Hid (Pl.dt (ls.take j)=D):=by
      show _=_
      rw[Pl.dt_step ls j hj he];exact hp.out
     have het:(⟨ls[j].toArray⟩:ByteArray).toList.isEmpty=true:=by rw[ByteArray.toList_eq];exact he
     clear hp he
     generalize (⟨ls[j].toArray⟩:ByteArray)=tj at hc het
     go_wp2
     go_roundw
     case rel=>exact⟨j,by omega,by go_num,HN,trivial⟩
     case measure=>simp[Lib.intOf];omega
   ·obtain rfl:k=0:=by omega
    have HZ:Hid (D=[]):=by
     show _=_
     rw[← hp.out,List.take_zero];rfl
    have HRz:=HRnil.out HZ.out
    have HRz2:Hid (([13,10]:List UInt8)=R):=HRz
    have hbz:Hid (Below w.heap.size w (wr.alloc (.cells #[] 5))):=Hb1.out.alloc Hb1.out.size _
    have hbk:(convert 22 9 (.slice (some ⟨wr.heap.size,0,none⟩) 0 0)).run Tryz.prog (wr.alloc (.cells #[] 5))=.ok (.string ⟨([]:List UInt8).toArray⟩) (wr.alloc (.cells #[] 5)):=(Own.made wr.heap.size wr (Nat.le_refl _)).back (P:=Tryz.prog) 22 9 Tryz.underlying22 Tryz.underlying5 Tryz.underlying9
    clear hp HZ HRz h0
    obtain⟨V,hV⟩:∃V,V=wr:=⟨_,rfl⟩
    subst hV
    go_wp2
    go_loopw [8,9] (fun u i wr=>i=.int .i64 0∧u=.slice (some ⟨V.heap.size,0,none⟩) 0 0∧wr=V.alloc (.cells #[] 5)) (fun _ _ _=>0)
    case atStart=>exact⟨rfl,rfl,rfl⟩
    case round=>
     obtain⟨rfl,rfl,rfl⟩:=hrel
     go_wp2
     go_ret
     exact⟨by rw[← HRz2.out];rfl,hbz.out⟩
set_option maxRecDepth 10000 in
theorem specCanonBody1 (s:ByteArray)(w:World)(hs:s.size≤100000) :
  Calls Tryz.prog 15 #[.string s,.int .i64 1] w fun e w'=>e=.returned (.string ⟨(canonB s 1).toArray⟩)∧Below w.heap.size w w':=by
 obtain⟨i0,hi,hy0,hy1,hy2⟩:=info_parts Tryz.info5
 have hL:=specLines s w hs
 obtain⟨R,hR⟩:∃R,canonB s 1=R:=⟨_,rfl⟩
 obtain⟨hcount,hmem⟩:=Pl.lines_count 100000 s.data.toList (by rw[Pl.len_list];exact hs)
 rw[Pl.len_list] at hcount
 obtain⟨l0,hls⟩:∃ls,Pl.lines s.data.toList=ls:=⟨_,rfl⟩
 obtain⟨ls,hlm⟩:∃ls,l0.map Pl.runs=ls:=⟨_,rfl⟩
 obtain⟨D,hD⟩:∃D,Pl.dt ls=D:=⟨_,rfl⟩
 have hB:bodyL s 1=D:=by unfold bodyL;rw[if_pos rfl,hls,hlm,hD]
 have HRne:Hid (¬D=[]→Pl.ends D=R):=show _→_ from fun h=>by rw[← hR,canonB,hB,if_neg (fun e=>h e.1)]
 have HRnil:Hid (D=[]→([]:List UInt8)=R):=show _→_ from fun h=>by rw[← hR,canonB,hB,if_neg (fun e=>by have:=e.2;omega),h];rfl
 rw[hR]
 rw[hls] at hL hcount hmem
 have Hmem0:Hid (∀x ∈ l0,x.length≤100000):=hmem
 have Hmem:Hid (∀x ∈ ls,x.length≤100000):=by
  intro x hx
  rw[← hlm] at hx
  obtain⟨y,hy,rfl⟩:=List.mem_map.1 hx
  exact Nat.le_trans (Pl.runs_len y) (hmem y hy)
 have Hd:Hid (Pl.dt ls=D):=hD
 have Hlm:Hid (l0.map Pl.runs=ls):=hlm
 clear hls hmem hR hB hD hlm
 obtain⟨L,hLen0⟩:∃L,l0.length=L:=⟨_,rfl⟩
 have hLen:ls.length=L:=by rw[← Hlm.out,List.length_map];exact hLen0
 rw[hLen0] at hcount
 go_enter Tryz.func15,Tryz.ntmps15
 go_wp2_with fail
 refine hL.mono ?_
 rintro e w1 ⟨v1,rfl,hown1,hb1⟩
 rcases hown1.form with ⟨rfl,hnil⟩|⟨g,cap,rfl,hg,hgl⟩
 ·skip
  have hDn:D=[]:=by rw[← Hd.out,← Hlm.out,hnil];rfl
  have HRz2:Hid (([]:List UInt8)=R):=HRnil.out hDn
  have hbz:Hid (Below w.heap.size w (w1.alloc (.cells #[] 5))):=hb1.alloc hb1.size _
  have hbk:(convert 22 9 (.slice (some ⟨w1.heap.size,0,none⟩) 0 0)).run Tryz.prog (w1.alloc (.cells #[] 5))=.ok (.string ⟨([]:List UInt8).toArray⟩) (w1.alloc (.cells #[] 5)):=(Own.made w1.heap.size w1 (Nat.le_refl _)).back (P:=Tryz.prog) 22 9 Tryz.underlying22 Tryz.underlying5 Tryz.underlying9
  clear hDn hL hown1 hb1 hnil HRnil HRne
  go_wp2
  go_loopw [6] (fun i wr=>i=.int .i64 0∧wr=w1) (fun _ _=>0)
  case atStart=>exact⟨rfl,rfl⟩
  case round=>
   obtain⟨rfl,rfl⟩:=hrel
   obtain⟨U,hU⟩:∃U,U=wr:=⟨_,rfl⟩
   subst hU
   go_wp2
   go_loopw [7] (fun n wr=>n=.int .i64 0∧wr=U) (fun _ _=>0)
   case atStart=>exact⟨rfl,rfl⟩
   case round=>
    obtain⟨rfl,rfl⟩:=hrel
    obtain⟨V,hV⟩:∃V,V=wr:=⟨_,rfl⟩
    subst hV
    go_wp2
    go_loopw [8,9] (fun u i wr=>i=.int .i64 0∧u=.slice (some ⟨V.heap.size,0,none⟩) 0 0∧wr=V.alloc (.cells #[] 5)) (fun _ _ _=>0)
    case atStart=>exact⟨rfl,rfl,rfl⟩
    case round=>
     obtain⟨rfl,rfl,rfl⟩:=hrel
     go_wp2
     go_ret
     exact⟨by rw[← HRz2.out];rfl,hbz.out⟩
 ·rw[hLen0] at hown1 ⊢
  have Hown0:Hid (OwnS w.heap.size (.slice (some ⟨g,0,none⟩) L cap) ((l0.take 0).map Pl.runs++l0.drop 0) w1):=show OwnS _ _ _ _ from by simpa using hown1
  have Hb0:Hid (Below w.heap.size w w1):=hb1
  clear hL hown1 hb1
  go_wp2
  go_loopw [6] (fun i wr=>∃ k:Nat,k≤L∧i=.int .i64 k∧Hid (OwnS w.heap.size (.slice (some ⟨g,0,none⟩) L cap) ((l0.take k).map Pl.runs++l0.drop k) wr)∧Hid (Below w.heap.size w wr)) (fun i _=>L-(Lib.intOf i).toNat)
  case atStart=>exact⟨0,Nat.zero_le _,rfl,Hown0,Hb0⟩
  case round=>
   clear Hown0 Hb0
   obtain⟨k,hk,rfl,HO,HB⟩:=hrel
   by_cases hlt:k<L
   ·have hk0:k<l0.length:=by omega
    have hc:=OwnS.cell HO.out k (by simp;omega)
    rw[mid_get l0 k hk0] at hc
    have hc2:wr.cell? ⟨g,k,none⟩=some (.string ⟨l0[k].toArray⟩):=hc
    have hsz:(⟨l0[k].toArray⟩:ByteArray).size≤100000:=by show l0[k].toArray.size≤_;rw[List.size_toArray];exact Hmem0.out _ (List.getElem_mem _)
    have hRu:∀w:World,Calls Tryz.prog 44 #[.string ⟨l0[k].toArray⟩] w fun e w'=>e=.returned (.string ⟨(Pl.runs l0[k]).toArray⟩)∧Below w.heap.size w w':=fun w=>specRuns ⟨l0[k].toArray⟩ w hsz
    have HS:=(show Hid _ from mid_set l0 k hk0)
    clear hc
    generalize (⟨l0[k].toArray⟩:ByteArray)=tk at hc2 hsz hRu
    generalize l0[k]=lk at hRu HS
    go_wp2_with fail
    refine(hRu _).mono ?_
    rintro e w2 ⟨rfl,hb2⟩
    have HO2:Hid (OwnS w.heap.size (.slice (some ⟨g,0,none⟩) L cap) ((l0.take k).map Pl.runs++l0.drop k) w2):=OwnS.keep HO.out (Nat.le_refl _) hb2
    have hfr:=OwnS.free HO2.out k
    have hc3:=(hb2.cell (World.block_lt_of_cell? _ _ hc2)).trans hc2
    have HO3:Hid (OwnS w.heap.size (.slice (some ⟨g,0,none⟩) L cap) ((l0.take (k+1)).map Pl.runs++l0.drop (k+1)) (w2.setCell ⟨g,k,none⟩ (.string ⟨(Pl.runs lk).toArray⟩))):=by
     have:=OwnS.stored HO2.out (by simp;omega) k (Pl.runs lk)
     rw[HS.out] at this
     exact this
    have HB3:Hid (Below w.heap.size w (w2.setCell ⟨g,k,none⟩ (.string ⟨(Pl.runs lk).toArray⟩))):=(HB.out.trans (hb2.mono HB.out.size)).setCell hg _
    clear HO HO2 hRu HS hb2 HB
    go_wp2
    go_roundw
    case rel=>exact⟨k+1,by omega,by go_num,HO3,HB3⟩
    case measure=>simp[Lib.intOf];omega
   ·obtain⟨V0,hV0⟩:∃V0,V0=wr:=⟨_,rfl⟩
    subst hV0
    have Hown:Hid (OwnS w.heap.size (.slice (some ⟨g,0,none⟩) L cap) ls V0):=by
     have:=HO.out
     rw[List.take_of_length_le (by omega),List.drop_eq_nil_of_le (by omega),List.append_nil,Hlm.out] at this
     exact this
    have Hb1:Hid (Below w.heap.size w V0):=HB.out
    clear HO HB
    go_wp2
    go_loopw [7] (fun n wr=>∃ k:Nat,k≤L∧n=.int .i64 k∧Hid (Pl.dt (ls.take k)=D)∧wr=V0) (fun n _=>(Lib.intOf n).toNat)
    case atStart=>exact⟨L,Nat.le_refl _,rfl,(by show _=_;rw[List.take_of_length_le (by omega)];exact Hd.out),rfl⟩
    case round=>
     obtain⟨k,hk,rfl,hp,rfl⟩:=hrel
     by_cases h0:0<k
     ·obtain⟨j,hkj⟩:∃j,k=j+1:=⟨k-1,by omega⟩
      have hj:j<ls.length:=by omega
      have hc:wr.cell? ⟨g,j,none⟩=some (.string ⟨ls[j].toArray⟩):=OwnS.cell Hown.out j hj
      have hidx:(k:Int)-1=(j:Int):=by omega
      have hjL:j<L:=by omega
      have hjk:j<k∧k≤j+1:=by omega
      rw[hkj] at hp
      have HKJ:Hid (k=j+1):=hkj
      clear hkj
      cases he:ls[j].isEmpty
      ·have HD:Hid (ls.take (j+1)=D):=by
        show _=_
        rw[← hp.out,Pl.dt_stop ls j hj he]
       rw[← HKJ.out] at HD
       have HX:Hid (([]:List UInt8)++Pl.ends ((ls.take k).drop 0)=R):=by
        show _=_
        have hne:¬(D=[]):=by
         rw[← HD.out]
         intro e
         have hl:=congrArg List.length e
         rw[List.length_take,List.length_nil] at hl
         omega
        rw[List.drop_zero,HD.out,List.nil_append]
        exact HRne.out hne
       have het:(⟨ls[j].toArray⟩:ByteArray).toList.isEmpty=false:=by rw[ByteArray.toList_eq];exact he
       clear hp he HD
       generalize (⟨ls[j].toArray⟩:ByteArray)=tj at hc het
       obtain⟨V,hV⟩:∃V,V=wr:=⟨_,rfl⟩
       subst hV
       go_wp2
       go_loopw [8,9] (fun u i wr=>∃ (m:Nat) (p:List UInt8),m≤k∧i=.int .i64 m∧p.length≤100002*m∧Hid (p++Pl.ends ((ls.take k).drop m)=R)∧Hid (Own V.heap.size u p wr)∧Hid (Below V.heap.size V wr)) (fun _ i _=>k-(Lib.intOf i).toNat)
       case atStart=>exact⟨0,[],Nat.zero_le _,rfl,by simp,HX,Own.made V.heap.size V (Nat.le_refl _),(Below.refl _ _).alloc (Nat.le_refl _) _⟩
       case round=>
        clear HX
        obtain⟨m,p,hm,rfl,hpl,HX,HO,HB⟩:=hrel
        by_cases hmj:m<k
        ·have hml:m<(ls.take k).length:=by rw[List.length_take];omega
         have hel:(ls.take k)[m]=ls[m]'(by omega):=List.getElem_take
         have HX2:=Pl.ends_step (ls.take k) p R m hml HX
         rw[hel] at HX2
         have hcm:wr.cell? ⟨g,m,none⟩=some (.string ⟨(ls[m]'(by omega)).toArray⟩):=(HB.out.cell (World.block_lt_of_cell? _ _ (OwnS.cell Hown.out m (by omega)))).trans (OwnS.cell Hown.out m (by omega))
         have hsz:(ls[m]'(by omega)).length≤100000:=Hmem.out _ (List.getElem_mem _)
         have hsz2:(⟨(ls[m]'(by omega)).toArray⟩:ByteArray).size≤100000:=by show(ls[m]'(by omega)).toArray.size≤_;rw[List.size_toArray];exact hsz
         have HD2:Hid ((⟨(ls[m]'(by omega)).toArray⟩:ByteArray).data.toList=ls[m]'(by omega)):=show _=_ from rfl
         have hown2:=HO.out
         clear HX hel
         generalize (⟨(ls[m]'(by omega)).toArray⟩:ByteArray)=tm at *
         generalize ls[m]'(by omega)=lm at HX2 HD2 hsz
         go_wp2_with (at_builtin;go_must (first
          | (refine wp_app (W:=V) rfl _ _ 22 rfl i0 Tryz.underlying22 hi hy0 hy1 hy2 V.heap.size v' (p++tm.data.toList) rfl hown' _ [13,10] rfl 2 2 rfl rfl (by simp;omega) (Nat.le_refl _) hb' ?_;intro v3 w3 hown3 hb3)
          | (refine wp_apps (W:=V) rfl _ _ 22 9 rfl i0 Tryz.underlying22 Tryz.underlying9 hi hy0 hy1 hy2 V.heap.size u8 p rfl hown2 tm rfl (by omega) (Nat.le_refl _) HB.out ?_;intro v' w' hown' hb')))
         rw[HD2.out] at hown3
         go_roundw
         case rel=>exact⟨m+1,_,by omega,by go_num,(by simp;omega),HX2,hown3,hb3⟩
         case measure=>simp[Lib.intOf];omega
        ·have hpR:p=R:=by
          rw[← HX.out,List.drop_eq_nil_of_le (by rw[List.length_take];omega)]
          simp[Pl.ends]
         have HpR:Hid (p=R):=hpR
         have hbk:=HO.out.back (P:=Tryz.prog) 22 9 Tryz.underlying22 Tryz.underlying5 Tryz.underlying9
         have hn0:((k:Int)==0)=false:=beq_eq_false_iff_ne.2 (by omega)
         have hbe:=Hb1.out.trans (HB.out.mono Hb1.out.size)
         clear HX hpR HB HO
         go_wp2
         go_ret
         exact⟨by rw[← HpR.out];rfl,hbe⟩
      ·have HN:Hid (Pl.dt (ls.take j)=D):=by
        show _=_
        rw[Pl.dt_step ls j hj he];exact hp.out
       have het:(⟨ls[j].toArray⟩:ByteArray).toList.isEmpty=true:=by rw[ByteArray.toList_eq];exact he
       clear hp he
       generalize (⟨ls[j].toArray⟩:ByteArray)=tj at hc het
       go_wp2
       go_roundw
       case rel=>exact⟨j,by omega,by go_num,HN,trivial⟩
       case measure=>simp[Lib.intOf];omega
     ·obtain rfl:k=0:=by omega
      have HZ:Hid (D=[]):=by
       show _=_
       rw[← hp.out,List.take_zero];rfl
      have HRz:=HRnil.out HZ.out
      have HRz2:Hid (([]:List UInt8)=R):=HRz
      have hbz:Hid (Below w.heap.size w (wr.alloc (.cells #[] 5))):=Hb1.out.alloc Hb1.out.size _
      have hbk:(convert 22 9 (.slice (some ⟨wr.heap.size,0,none⟩) 0 0)).run Tryz.prog (wr.alloc (.cells #[] 5))=.ok (.string ⟨([]:List UInt8).toArray⟩) (wr.alloc (.cells #[] 5)):=(Own.made wr.heap.size wr (Nat.le_refl _)).back (P:=Tryz.prog) 22 9 Tryz.underlying22 Tryz.underlying5 Tryz.underlying9
      clear hp HZ HRz h0
      obtain⟨V,hV⟩:∃V,V=wr:=⟨_,rfl⟩
      subst hV
      go_wp2
      go_loopw [8,9] (fun u i wr=>i=.int .i64 0∧u=.slice (some ⟨V.heap.size,0,none⟩) 0 0∧wr=V.alloc (.cells #[] 5)) (fun _ _ _=>0)
      case atStart=>exact⟨rfl,rfl,rfl⟩
      case round=>
       obtain⟨rfl,rfl,rfl⟩:=hrel
       go_wp2
       go_ret
       exact⟨by rw[← HRz2.out];rfl,hbz.out⟩
def canonAny (s:ByteArray)(x:Int):ByteArray:=if 100000<s.size∨(¬x=0∧¬x=1) then ⟨#[]⟩ else ⟨(canonB s x).toArray⟩
end Go.Proofs.YtibbpmhbgbafhaaGreatDoor
namespace Go.Proofs.YtibbpmhbgbafhaaGreatDoor
namespace Ps
def none_ (p:Nat):Nat→Nat→Bool
 | 0,_=>true
 | f+1,d=>!(p % d==0) && none_ p f (d+1)
theorem none_spec (p:Nat):∀(f d:Nat),none_ p f d=true→∀x,d≤x→x<d+f→¬p % x=0
 | 0,d,_,x,h1,h2=>by omega
 | f+1,d,h,x,h1,h2=>by
  rw[none_,Bool.and_eq_true] at h
  by_cases e:x=d
  ·subst e
   simpa using h.1
  ·exact none_spec p f (d+1) h.2 x (by omega) (by omega)
abbrev P:Nat:=2147483647
set_option maxRecDepth 1000000 in
theorem none_P:none_ P 46340 2=true:=by decide +kernel
theorem small_div (x:Nat)(h2:2≤x)(h:x*x≤P):¬P % x=0:=by
 refine none_spec P 46340 2 none_P x h2 ?_
 have h3:x<46341:=by
  by_cases hx:x<46341
  ·exact hx
  ·have:46341*46341≤x*x:=Nat.mul_le_mul (by omega) (by omega)
   unfold P at h
   omega
 omega
theorem coprime_P (x:Nat)(h0:1≤x)(h1:x<P):Nat.Coprime P x:=by
 have hg:Nat.gcd P x ∣ P:=Nat.gcd_dvd_left P x
 have hgx:Nat.gcd P x ∣ x:=Nat.gcd_dvd_right P x
 have hle:Nat.gcd P x≤x:=Nat.le_of_dvd (by omega) hgx
 obtain⟨g,hgg⟩:∃g,Nat.gcd P x=g:=⟨_,rfl⟩
 show Nat.gcd P x=1
 rw[hgg] at hg hgx hle ⊢
 obtain⟨q,hq⟩:=hg
 by_cases hg1:g≤1
 ·have:g≠0:=by
   rintro rfl
   rw[Nat.zero_mul] at hq
   exact absurd hq (by decide)
  omega
 ·exfalso
  have hq2:2≤q:=by
   by_cases hq2:2≤q
   ·exact hq2
   ·have:q=0∨q=1:=by omega
    rcases this with rfl|rfl
    ·rw[Nat.mul_zero] at hq;exact absurd hq (by decide)
    ·rw[Nat.mul_one] at hq;omega
  rcases Nat.le_total g q with hgq|hgq
  ·have hs:g*g≤P:=by rw[hq];exact Nat.mul_le_mul_left g hgq
   exact small_div g (by omega) hs (by rw[hq];exact Nat.mul_mod_right g q)
  ·have hs:q*q≤P:=by rw[hq];exact Nat.mul_le_mul_right q hgq
   exact small_div q hq2 hs (by rw[hq,Nat.mul_comm];exact Nat.mul_mod_right q g)
def sm (A:Nat):Nat→List UInt8→Nat
 | s,[]=>s
 | s,c::r=>sm A ((s*A+c.toNat+1) % P) r
theorem sm_lt (A:Nat):∀(l:List UInt8)(s:Nat),s<P→sm A s l<P
 | [],s,h=>h
 | c::r,s,h=>by
  rw[sm]
  exact sm_lt A r _ (Nat.mod_lt _ (by decide))
theorem step_inj (A s t k:Nat)(hA0:1≤A)(hA:A<P)(_hs:s<P)(ht:t<P)(hst:s<t):(s*A+k) % P≠(t*A+k) % P:=by
 intro e
 have hle:s*A≤t*A:=Nat.mul_le_mul_right A (by omega)
 have hd:P ∣ (t*A+k)-(s*A+k):=Nat.dvd_of_mod_eq_zero (Nat.sub_mod_eq_zero_of_mod_eq e.symm)
 rw[show t*A+k-(s*A+k)=(t-s)*A from by rw[Nat.sub_mul];omega] at hd
 have hc:=coprime_P A hA0 hA
 have h2:P ∣ t-s:=Nat.Coprime.dvd_of_dvd_mul_right hc hd
 have:=Nat.le_of_dvd (by omega) h2
 omega
theorem step_ne (A s t k:Nat)(hA0:1≤A)(hA:A<P)(hs:s<P)(ht:t<P)(hst:s≠t):(s*A+k) % P≠(t*A+k) % P:=by
 rcases Nat.lt_or_gt_of_ne hst with h|h
 ·exact step_inj A s t k hA0 hA hs ht h
 ·exact(step_inj A t s k hA0 hA ht hs h).symm
theorem sm_ne (A:Nat)(hA0:1≤A)(hA:A<P):∀(l:List UInt8)(s t:Nat),s<P→t<P→s≠t→sm A s l≠sm A t l
 | [],_,_,_,_,h=>h
 | c::r,s,t,hs,ht,h=>by
  rw[sm,sm]
  refine sm_ne A hA0 hA r _ _ (Nat.mod_lt _ (by decide)) (Nat.mod_lt _ (by decide)) ?_
  rw[Nat.add_assoc,Nat.add_assoc]
  exact step_ne A s t _ hA0 hA hs ht h
theorem sm_app (A:Nat):∀(p r:List UInt8)(s:Nat),sm A s (p++r)=sm A (sm A s p) r
 | [],_,_=>rfl
 | c::p,r,s=>by
  rw[List.cons_append,sm,sm]
  exact sm_app A p r _
theorem near_ne (x c d:Nat)(hc:c<256)(hd:d<256)(h:c<d):(x+c+1) % P≠(x+d+1) % P:=by
 intro e
 have hdv:P ∣ (x+d+1)-(x+c+1):=Nat.dvd_of_mod_eq_zero (Nat.sub_mod_eq_zero_of_mod_eq e.symm)
 have:=Nat.le_of_dvd (by omega) hdv
 unfold P at this
 omega
theorem sm_turn (A s:Nat)(hA0:1≤A)(hA:A<P)(p r:List UInt8)(c d:UInt8)(h:c≠d):sm A s (p++c::r)≠sm A s (p++d::r):=by
 rw[sm_app,sm_app,sm,sm]
 refine sm_ne A hA0 hA r _ _ (Nat.mod_lt _ (by decide)) (Nat.mod_lt _ (by decide)) ?_
 have hc:c.toNat<256:=UInt8.toNat_lt _
 have hd:d.toNat<256:=UInt8.toNat_lt _
 have hn:c.toNat≠d.toNat:=fun e=>h (UInt8.toNat_inj.1 e)
 rcases Nat.lt_or_gt_of_ne hn with h'|h'
 ·exact near_ne _ _ _ hc hd h'
 ·exact(near_ne _ _ _ hd hc h').symm
end Ps
end Go.Proofs.YtibbpmhbgbafhaaGreatDoor
namespace Go.Proofs.YtibbpmhbgbafhaaGreatDoor
open Go.Lib
namespace Pl
def odd (e:UInt8):Prop:=e≠13∧e≠10
theorem index_turn (r:List UInt8):∀(p:List UInt8),∃ i:Int,(∀e,odd e→Lib.index (p++e::r) crs=i) ∧ -1≤i∧(0≤i→i+2≤(p.length:Int)∨(p.length:Int)<i)
 | []=>by
  have hg:=index_ge r crs
  refine⟨if Lib.index r crs == -1 then -1 else Lib.index r crs+1,fun e he=>?_,?_,fun h=>?_⟩
  ·rw[List.nil_append,Lib.index,if_neg]
   unfold crs
   simp[List.isPrefixOf,he.1.symm]
  ·split<;>omega
  ·right
   split at h
   ·omega
   ·rename_i h2
    rw[if_neg h2]
    have:Lib.index r crs ≠ -1:=fun e=>h2 (by rw[e];rfl)
    show((0:Nat):Int)<_
    omega
 | x::p=>by
  obtain⟨i,hi,hg,hp2⟩:=index_turn r p
  refine⟨if crs.isPrefixOf (x::p) then 0 else if i == -1 then -1 else i+1,fun e he=>?_,?_,fun h=>?_⟩
  ·have hp:crs.isPrefixOf (x::(p++e::r))=crs.isPrefixOf (x::p):=by
    unfold crs
    cases p with
    | nil=>simp[List.isPrefixOf,he.2.symm]
    | cons y q=>simp[List.isPrefixOf]
   rw[List.cons_append,Lib.index,hi e he,hp]
  ·split
   ·omega
   ·split<;>omega
  ·split at h
   ·rename_i h1
    rw[if_pos h1]
    left
    have:=List.IsPrefix.length_le (List.isPrefixOf_iff_prefix.1 h1)
    have e:crs.length=2:=rfl
    omega
   ·rename_i h1
    rw[if_neg h1]
    split at h
    ·omega
    ·rename_i h2
     rw[if_neg h2]
     have:i ≠ -1:=fun e=>h2 (by rw[e];rfl)
     have:=hp2 (by omega)
     rw[List.length_cons]
     omega
theorem lines_turn:∀(f:Nat)(p r:List UInt8),p.length+1+r.length≤f→∃(X Y:List (List UInt8))(pl pr:List UInt8),∀e,odd e→linesF f (p++e::r)=X++(pl++e::pr)::Y
 | 0,p,r,h=>by omega
 | f+1,p,r,h=>by
  obtain⟨i,hi,hg,hp2⟩:=index_turn r p
  by_cases h0:0≤i
  ·obtain⟨k,rfl⟩:∃k:Nat,i=k:=⟨i.toNat,by omega⟩
   rcases hp2 h0 with h1|h1
   ·obtain⟨X,Y,pl,pr,hX⟩:=lines_turn f (p.drop (k+2)) r (by rw[List.length_drop];omega)
    refine⟨p.take k::X,Y,pl,pr,fun e he=>?_⟩
    rw[linesF,if_neg (by simp)]
    have hc:Lib.cut (p++e::r) crs=(p.take k,p.drop (k+2)++e::r,true):=by
     unfold Lib.cut
     rw[hi e he,if_pos h0,Int.toNat_natCast]
     have e2:crs.length=2:=rfl
     rw[e2,List.take_append_of_le_length (by omega),List.drop_append_of_le_length (by omega)]
    rw[hc]
    simp only
    rw[hX e he,List.cons_append]
   ·refine⟨[],linesF f (r.drop (k+2-(p.length+1))),p,r.take (k-(p.length+1)),fun e he=>?_⟩
    rw[linesF,if_neg (by simp)]
    have hc:Lib.cut (p++e::r) crs=(p++e::r.take (k-(p.length+1)),r.drop (k+2-(p.length+1)),true):=by
     unfold Lib.cut
     rw[hi e he,if_pos h0,Int.toNat_natCast]
     have e2:crs.length=2:=rfl
     have e3:p++e::r=(p ++ [e])++r:=by simp
     have e4:(p ++ [e]).length=p.length+1:=by simp
     rw[e2,e3,List.take_append,List.drop_append,List.take_of_length_le (by omega),List.drop_eq_nil_of_le (by omega),e4]
     simp
    rw[hc]
    rfl
  ·refine⟨[],linesF f [],p,r,fun e he=>?_⟩
   rw[linesF,if_neg (by simp)]
   have hc:Lib.cut (p++e::r) crs=(p++e::r,[],false):=by
    unfold Lib.cut
    rw[hi e he,if_neg h0]
   rw[hc]
   rfl
theorem drop_mid {α:Type} (q:α→Bool)(A B:List α)(m:α)(hm:q m=false):(A++m::B).dropWhile q=A.dropWhile q++m::B:=by
 induction A with
 | nil=>rw[List.nil_append,List.dropWhile_cons,if_neg (by rw[hm];simp)];rfl
 | cons a A ih=>
  rw[List.cons_append,List.dropWhile_cons,List.dropWhile_cons]
  split
  ·exact ih
  ·rfl
theorem dt_mid (X Y:List (List UInt8))(l:List UInt8)(hl:l ≠ []):dt (X++l::Y)=X++l::dt Y:=by
 unfold dt
 rw[List.reverse_append,List.reverse_cons,List.append_assoc,List.singleton_append,drop_mid _ _ _ _ (by cases l with|nil=>exact absurd rfl hl|cons a r=>rfl)]
 simp
end Pl
theorem canon_turn (p r:List UInt8):∃P R:List UInt8,∀e,Pl.odd e→canonB ⟨(p++e::r).toArray⟩ 0=P++e::R:=by
 obtain⟨X,Y,pl,pr,hX⟩:=Pl.lines_turn (p.length+1+r.length) p r (Nat.le_refl _)
 refine⟨Pl.ends X++pl,pr ++ [13,10]++Pl.ends (Pl.dt Y),fun e he=>?_⟩
 have hb:bodyL ⟨(p++e::r).toArray⟩ 0=X++(pl++e::pr)::Pl.dt Y:=by
  unfold bodyL
  rw[if_neg (by decide)]
  show Pl.dt (Pl.lines (p++e::r))=_
  unfold Pl.lines
  rw[show(p++e::r).length=p.length+1+r.length by simp;omega,hX e he,Pl.dt_mid _ _ _ (by simp)]
 unfold canonB
 rw[hb,if_neg (by simp)]
 unfold Pl.ends
 simp
theorem canon_sum (A:Nat)(h0:1≤A)(h1:A<Ps.P)(p r:List UInt8)(c d:UInt8)(hc:Pl.odd c)(hd:Pl.odd d)(hcd:c≠d) :
  Ps.sm A 1 (canonB ⟨(p++c::r).toArray⟩ 0)≠Ps.sm A 1 (canonB ⟨(p++d::r).toArray⟩ 0):=by
 obtain⟨P,R,h⟩:=canon_turn p r
 rw[h c hc,h d hd]
 exact Ps.sm_turn A 1 h0 h1 P R c d hcd
namespace Pl
def tb (c:UInt8):Bool:=decide (32≤c.toNat) && !(c==127)
def signs:List UInt8:=[33,35,36,37,38,39,42,43,45,47,61,63,94,95,123,124,125,126,96]
def signs0:List UInt8:=[33,35,36,37,38,39,42,43,45,47,61,63,94,95,123,124,125,126]
def alnum (c:UInt8):Bool:=decide (65≤c.toNat∧c.toNat≤90) || (decide (97≤c.toNat∧c.toNat≤122) || (decide (48≤c.toNat∧c.toNat≤57) || decide (128≤c.toNat)))
def atom (c:UInt8):Bool:=alnum c || decide (0≤indexByte signs c)
def atom' (c:UInt8):Bool:=alnum c || (c==96 || (decide (32<c.toNat) && (decide (c.toNat<127) && decide (0≤indexByte signs0 c))))
theorem atom_all:∀n,n<256→atom (UInt8.ofNat n)=atom' (UInt8.ofNat n):=by decide +kernel
theorem atom_eq (c:UInt8):atom' c=atom c:=by
 have:=atom_all c.toNat (UInt8.toNat_lt c)
 rw[UInt8.ofNat_toNat] at this
 exact this.symm
theorem atom_point:atom 46=false:=by decide +kernel
def scan (d:UInt8):Bool→List UInt8→Bool
 | was,[]=>was
 | was,c::r=>if atom c then scan d true r else if c==d && was then scan d false r else false
def sp (d:UInt8):List UInt8→List (List UInt8)
 | []=>[[]]
 | c::r=>if c=d then []::sp d r else match sp d r with|h::t=>(c::h)::t | []=>[[c]]
def okA (p:List UInt8):Bool:=!p.isEmpty && p.all atom
theorem sp_ne (d:UInt8)(l:List UInt8):∃h t,sp d l=h::t:=by
 cases l with
 | nil=>exact⟨[],[],rfl⟩
 | cons c r=>
  unfold sp
  split
  ·exact⟨_,_,rfl⟩
  ·cases sp d r with
   | nil=>exact⟨_,_,rfl⟩
   | cons h t=>exact⟨_,_,rfl⟩
theorem scan_sp (d:UInt8)(hd:atom d=false):∀(l h:List UInt8)(t:List (List UInt8)),sp d l=h::t→scan d true l=(h.all atom && t.all okA)∧scan d false l=(okA h && t.all okA)
 | [],h,t,e=>by
  simp only[sp,List.cons.injEq] at e
  obtain⟨rfl,rfl⟩:=e
  exact⟨rfl,rfl⟩
 | c::r,h,t,e=>by
  obtain⟨h',t',e'⟩:=sp_ne d r
  obtain⟨i1,i2⟩:=scan_sp d hd r h' t' e'
  by_cases hc:c=d
  ·subst hc
   rw[sp,if_pos rfl,List.cons.injEq] at e
   obtain⟨rfl,rfl⟩:=e
   constructor
   ·rw[scan,if_neg (by rw[hd];simp),if_pos (by simp),i2,e']
    rfl
   ·rw[scan,if_neg (by rw[hd];simp),if_neg (by simp)]
    rfl
  ·rw[sp,if_neg hc,e'] at e
   simp only[List.cons.injEq] at e
   obtain⟨rfl,rfl⟩:=e
   by_cases ha:atom c=true
   ·constructor
    ·rw[scan,if_pos ha,i1,List.all_cons,ha,Bool.true_and]
    ·rw[scan,if_pos ha,i1,okA,List.all_cons,ha,Bool.true_and]
     rfl
   ·rw[Bool.not_eq_true] at ha
    have hn:(c==d)=false:=by simpa using hc
    constructor
    ·rw[scan,if_neg (by rw[ha];simp),hn,List.all_cons,ha]
     rfl
    ·rw[scan,if_neg (by rw[ha];simp),hn,okA,List.all_cons,ha]
     simp
theorem scan_all (d:UInt8)(hd:atom d=false)(l:List UInt8):(sp d l).all okA=scan d false l:=by
 obtain⟨h,t,e⟩:=sp_ne d l
 rw[(scan_sp d hd l h t e).2,e,List.all_cons]
theorem split_sp (d:UInt8):∀l:List UInt8,splitK [d] 0 (count l [d]) l=sp d l
 | []=>by rw[count_miss (by simp[index])];rfl
 | c::r=>by
  have ih:=split_sp d r
  by_cases hc:c=d
  ·subst hc
   have hix:index (c::r) [c]=0:=by rw[index];simp[List.isPrefixOf]
   rw[count_cons_eq,Nat.add_comm,splitK,hix,if_neg (by decide),sp,if_pos rfl,← ih]
   rfl
  ·have hp:([d]:List UInt8).isPrefixOf (c::r)=false:=by simp[List.isPrefixOf,Ne.symm hc]
   have hix:index (c::r) [d]=if index r [d] == -1 then -1 else index r [d]+1:=by rw[index,hp];simp
   rw[count_cons_ne c d r hc,sp,if_neg hc,← ih]
   by_cases hm:index r [d] = -1
   ·rw[count_miss hm]
    rfl
   ·have hge:=index_ge r [d]
    obtain⟨j,hj⟩:∃j:Nat,index r [d]=j:=⟨(index r [d]).toNat,by omega⟩
    have hne:(index r [d] == -1)=false:=by rw[hj];simp
    rw[hne] at hix
    simp only[Bool.false_eq_true,if_false] at hix
    have hne2:(index (c::r) [d] == -1)=false:=by rw[hix,hj];simp;omega
    obtain⟨k,hk⟩:∃k,count r [d]=k+1:=⟨count (r.drop (j+1)) [d],by rw[count_hit (by simp) hj];simp;omega⟩
    rw[hk,splitK,splitK,hne,hne2,hix,hj]
    have e1:((j:Int)+1).toNat=j+1:=by omega
    simp only[Bool.false_eq_true,if_false,e1,Int.toNat_natCast,Nat.add_zero,List.take_succ_cons,List.length_cons,List.length_nil]
    rfl
def qs:List UInt8→List UInt8
 | []=>[]
 | c::r=>if c==34 || c==92 then 92::c::qs r else c::qs r
theorem qs_esc (l p x:List UInt8)(k:Nat)(hk:k<l.length)(h:(l[k]==34 || l[k]==92)=true)(hp:p++qs (l.drop k)=x):(p ++ [92] ++ [l[k]])++qs (l.drop (k+1))=x:=by
 rw[drop_cons l k hk,qs,if_pos h] at hp
 simpa using hp
theorem qs_plain (l p x:List UInt8)(k:Nat)(hk:k<l.length)(h:(l[k]==34 || l[k]==92)=false)(hp:p++qs (l.drop k)=x):(p ++ [l[k]])++qs (l.drop (k+1))=x:=by
 rw[drop_cons l k hk,qs,if_neg (by rw[h];simp)] at hp
 simpa using hp
theorem qs_done (l p x:List UInt8)(k:Nat)(hk:l.length≤k)(hp:p++qs (l.drop k)=x):p=x:=by
 rw[List.drop_eq_nil_of_le hk] at hp
 simpa [qs] using hp
def phrase (l:List UInt8):List UInt8:=if l.all tb then (if scan 32 false l then l else 34::qs l ++ [34]) else []
end Pl
end Go.Proofs.YtibbpmhbgbafhaaGreatDoor
