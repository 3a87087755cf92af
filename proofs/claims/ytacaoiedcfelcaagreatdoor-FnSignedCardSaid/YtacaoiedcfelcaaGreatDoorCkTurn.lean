import Derived.Test.YtacaoiedcfelcaaGreatDoorAllOf
import Derived.Laws.IdiomStrings
import Derived.Lib.UnsafeStr
import Derived.WalkSmall
import Derived.Test.YtacaoiedcfelcaaGreatDoorRunsSpec
import Derived.Test.YtacaoiedcfelcaaGreatDoorOwnF
import Derived.Test.YtacaoiedcfelcaaGreatDoorReadLine
import Derived.Lib.QuietBelow
import Derived.Deep.QuietTactic
import Derived.BigQuiet
set_option maxRecDepth 20000
set_option maxHeartbeats 4000000
namespace Go.Proofs.YtacaoiedcfelcaaGreatDoor
open Go.RowKit Go.Lib
namespace Pl
def endB (l:List UInt8):List UInt8:=(l.reverse.dropWhile blank).reverse
def trimB (l:List UInt8):List UInt8:=endB (l.dropWhile blank)
theorem tail_list (t:ByteArray):(t.extract 1 t.size).data.toList=t.data.toList.drop 1:=by
 rw[ext_data,List.take_of_length_le (by simp)]
theorem drop_head (t:ByteArray)(h:0<t.size)(hb:blank t[0]=true):(t.data.toList.drop 1).dropWhile blank=t.data.toList.dropWhile blank:=by
 obtain⟨⟨l⟩⟩:=t
 match l,h,hb with
 | c::r,_,hb=>
  show r.dropWhile blank=(c::r).dropWhile blank
  rw[List.dropWhile_cons,if_pos (show blank c=true from hb)]
theorem keep_head (t:ByteArray)(h:0<t.size)(hb:blank t[0]=false):t.data.toList.dropWhile blank=t.data.toList:=by
 obtain⟨⟨l⟩⟩:=t
 match l,h,hb with
 | c::r,_,hb=>
  show(c::r).dropWhile blank=c::r
  rw[List.dropWhile_cons,if_neg (by rw[show blank c=false from hb];simp)]
theorem snoc_list (t:ByteArray)(h:0<t.size):t.data.toList=(t.extract 0 (t.size-1)).data.toList ++ [t[t.size-1]]:=by
 rw[ext_data,List.drop_zero,Nat.sub_zero]
 have hl:t.data.toList.length=t.size:=len_list t
 have e:t.data.toList=t.data.toList.take (t.size-1)++t.data.toList.drop (t.size-1):=(List.take_append_drop _ _).symm
 have d:t.data.toList.drop (t.size-1)=[t[t.size-1]]:=by
  rw[List.drop_eq_getElem_cons (by omega),List.drop_eq_nil_of_le (by omega)]
  rfl
 rw[d] at e
 exact e
theorem drop_last (t:ByteArray)(h:0<t.size)(hb:blank (t[t.size-1])=true):endB (t.extract 0 (t.size-1)).data.toList=endB t.data.toList:=by
 conv=>rhs;rw[snoc_list t h]
 unfold endB
 rw[List.reverse_append,List.reverse_singleton,List.singleton_append,List.dropWhile_cons,if_pos hb]
theorem keep_last (t:ByteArray)(h:0<t.size)(hb:blank (t[t.size-1])=false):endB t.data.toList=t.data.toList:=by
 have e:=snoc_list t h
 unfold endB
 rw[e,List.reverse_append,List.reverse_singleton,List.singleton_append,List.dropWhile_cons,if_neg (by rw[hb];simp),List.reverse_cons,List.reverse_reverse]
theorem endB_nil (t:ByteArray)(h:¬0<t.size):endB t.data.toList=t.data.toList:=by
 have:t.data.toList=[]:=List.length_eq_zero_iff.1 (by rw[len_list];omega)
 rw[this];rfl
theorem dropW_nil (t:ByteArray)(h:¬0<t.size):t.data.toList.dropWhile blank=t.data.toList:=by
 have:t.data.toList=[]:=List.length_eq_zero_iff.1 (by rw[len_list];omega)
 rw[this];rfl
theorem mk_list (t:ByteArray)(R:List UInt8)(h:t.data.toList=R):t=⟨R.toArray⟩:=by
 rw[← h]
end Pl
theorem specTrimB (s:ByteArray)(w:World)(_hs:s.size≤1100000) :
  Calls Tryz.prog 114 #[.string s] w fun e w'=>e=.returned (.string ⟨(Pl.trimB s.data.toList).toArray⟩)∧w=w':=by
 obtain⟨R,hR⟩:∃R,Pl.trimB s.data.toList=R:=⟨_,rfl⟩
 have HR:Hid (Pl.endB (s.data.toList.dropWhile Pl.blank)=R):=hR
 rw[hR]
 clear hR
 go_enter Tryz.func114,Tryz.ntmps114
 go_wp2
 go_loopw [0] (fun x wr=>∃ t:ByteArray,t.size≤s.size∧x=.string t∧Hid (t.data.toList.dropWhile Pl.blank=s.data.toList.dropWhile Pl.blank)∧wr=w) (fun x _=>match x with | .string t=>t.size|_=>0)
 case atStart=>exact⟨s,Nat.le_refl _,rfl,rfl,rfl⟩
 case round=>
  obtain⟨t,ht,rfl,hp,rfl⟩:=hrel
  by_cases h0:0<t.size
  ·have h8:t[0].toNat<256:=UInt8.toNat_lt _
   have hc:=fun w=>specBlank t[0] w
   cases hb:Pl.blank t[0]<;>simp only[hb] at hc
   ·have HE:Hid (Pl.endB t.data.toList=R):=by
     show _=_
     rw[← HR.out,← hp.out,Pl.keep_head t h0 hb]
    clear hb
    go_wp2_with fail
    refine(hc _).mono ?_
    rintro e w2 ⟨rfl,rfl⟩
    go_wp2
    go_loopw [0] (fun x wx=>∃ t:ByteArray,t.size≤s.size∧x=.string t∧Hid (Pl.endB t.data.toList=R)∧wx=wr) (fun x _=>match x with | .string t=>t.size|_=>0)
    case atStart=>exact⟨t,ht,rfl,HE,rfl⟩
    case round=>
     clear hp ht
     obtain⟨t,ht,rfl,hp,rfl⟩:=hrel
     by_cases h0:0<t.size
     ·have h8:t[t.size-1].toNat<256:=UInt8.toNat_lt _
      have hc:=fun w=>specBlank t[t.size-1] w
      cases hb:Pl.blank t[t.size-1]<;>simp only[hb] at hc
      ·have Hb:Hid (t=⟨R.toArray⟩):=Pl.mk_list t R (by rw[← hp.out,Pl.keep_last t h0 hb])
       clear hb hp
       go_wp2_with fail
       refine(hc _).mono ?_
       rintro e w2 ⟨rfl,rfl⟩
       go_wp2
       go_ret
       exact⟨by rw[← Hb.out];rfl,rfl⟩
      ·have Hb:Hid (Pl.endB (t.extract 0 (t.size-1)).data.toList=R):=by
        show _=_
        rw[Pl.drop_last t h0 hb];exact hp.out
       clear hb hp
       go_wp2_with fail
       refine(hc _).mono ?_
       rintro e w2 ⟨rfl,rfl⟩
       go_wp2
       go_roundw
       case rel=>exact⟨_,by simp;omega,rfl,Hb,trivial⟩
       case measure=>simp;omega
     ·have Hb:Hid (t=⟨R.toArray⟩):=Pl.mk_list t R (by rw[← hp.out,Pl.endB_nil t h0])
      clear hp
      go_wp2
      go_ret
      exact⟨by rw[← Hb.out];rfl,rfl⟩
   ·have Hb:Hid ((t.extract 1 t.size).data.toList.dropWhile Pl.blank=s.data.toList.dropWhile Pl.blank):=by
     show _=_
     rw[Pl.tail_list,Pl.drop_head t h0 hb];exact hp.out
    clear hb hp
    go_wp2_with fail
    refine(hc _).mono ?_
    rintro e w2 ⟨rfl,rfl⟩
    go_wp2
    go_roundw
    case rel=>exact⟨_,by simp;omega,rfl,Hb,trivial⟩
    case measure=>simp;omega
  ·have HE:Hid (Pl.endB t.data.toList=R):=by
    show _=_
    rw[← HR.out,← hp.out,Pl.dropW_nil t h0]
   go_wp2
   go_loopw [0] (fun x wx=>∃ t:ByteArray,t.size≤s.size∧x=.string t∧Hid (Pl.endB t.data.toList=R)∧wx=wr) (fun x _=>match x with | .string t=>t.size|_=>0)
   case atStart=>exact⟨t,ht,rfl,HE,rfl⟩
   case round=>
    clear hp ht
    obtain⟨t,ht,rfl,hp,rfl⟩:=hrel
    by_cases h0:0<t.size
    ·have h8:t[t.size-1].toNat<256:=UInt8.toNat_lt _
     have hc:=fun w=>specBlank t[t.size-1] w
     cases hb:Pl.blank t[t.size-1]<;>simp only[hb] at hc
     ·have Hb:Hid (t=⟨R.toArray⟩):=Pl.mk_list t R (by rw[← hp.out,Pl.keep_last t h0 hb])
      clear hb hp
      go_wp2_with fail
      refine(hc _).mono ?_
      rintro e w2 ⟨rfl,rfl⟩
      go_wp2
      go_ret
      exact⟨by rw[← Hb.out];rfl,rfl⟩
     ·have Hb:Hid (Pl.endB (t.extract 0 (t.size-1)).data.toList=R):=by
       show _=_
       rw[Pl.drop_last t h0 hb];exact hp.out
      clear hb hp
      go_wp2_with fail
      refine(hc _).mono ?_
      rintro e w2 ⟨rfl,rfl⟩
      go_wp2
      go_roundw
      case rel=>exact⟨_,by simp;omega,rfl,Hb,trivial⟩
      case measure=>simp;omega
    ·have Hb:Hid (t=⟨R.toArray⟩):=Pl.mk_list t R (by rw[← hp.out,Pl.endB_nil t h0])
     clear hp
     go_wp2
     go_ret
     exact⟨by rw[← Hb.out];rfl,rfl⟩
theorem mkH {p:Prop} (h:p):Hid p:=h
def small (c:UInt8):UInt8:=if 65≤c.toNat∧c.toNat≤90 then UInt8.ofNat (c.toNat+32) else c
def lower (l:List UInt8):List UInt8:=l.map small
theorem small_yes (c:UInt8)(h:65≤c.toNat∧c.toNat≤90):((small c).toNat:Int)=(c.toNat:Int)+32:=by
 unfold small
 rw[if_pos h,UInt8.toNat_ofNat_of_lt' (by simp[UInt8.size];omega)]
 omega
theorem small_no (c:UInt8)(h:¬(65≤c.toNat∧c.toNat≤90)):small c=c:=by
 unfold small
 rw[if_neg h]
def lowTo (l:List UInt8)(k:Nat):List UInt8:=lower (l.take k)++l.drop k
theorem lowTo_len (l:List UInt8)(k:Nat):(lowTo l k).length=l.length:=by
 simp only[lowTo,lower,List.length_append,List.length_map,List.length_take,List.length_drop];omega
theorem lowTo_zero (l:List UInt8):lowTo l 0=l:=by simp[lowTo,lower]
theorem lowTo_all (l:List UInt8)(k:Nat)(h:l.length≤k):lowTo l k=lower l:=by
 rw[lowTo,List.take_of_length_le h,List.drop_eq_nil_of_le h,List.append_nil]
theorem lowTo_get (l:List UInt8)(k:Nat)(h:k<l.length):(lowTo l k)[k]'(by rw[lowTo_len];exact h)=l[k]:=by
 simp only[lowTo,lower]
 rw[List.getElem_append_right (by simp;omega)]
 simp[List.length_take,Nat.min_eq_left (Nat.le_of_lt h)]
theorem lowTo_set (l:List UInt8)(k:Nat)(h:k<l.length):(lowTo l k).set k (small l[k])=lowTo l (k+1):=by
 have e1:l.take (k+1)=l.take k ++ [l[k]]:=by rw[List.take_succ_eq_append_getElem h]
 have hl:(lower (l.take k)).length=k:=by simp[lower];omega
 rw[lowTo,List.set_append,if_neg (by omega),hl,Nat.sub_self,List.drop_eq_getElem_cons h,List.set_cons_zero,lowTo,e1,lower,lower,List.map_append,List.append_assoc]
 rfl
theorem lowTo_same (l:List UInt8)(k:Nat)(h:k<l.length)(hs:small l[k]=l[k]):lowTo l k=lowTo l (k+1):=by
 rw[← lowTo_set l k h,hs,← lowTo_get l k h,List.set_getElem_self]
def HoldsB (g:Nat)(p:List UInt8)(w:World):Prop:=∀(j:Nat)(hj:j<p.length),w.cell? ⟨g,j,none⟩=some (.int .u8 (p[j].toNat:Int))∧w.frozen? ⟨g,j,none⟩=false
theorem HoldsB.back {P:Program} {g cap:Nat} {p:List UInt8} {w:World} (h:HoldsB g p w)(src dst:TypeId)(hs:P.underlying src=some (.slice 5))(he:P.underlying 5=some (.int .u8))(hd:P.underlying dst=some .string) :
  (convert src dst (.slice (some ⟨g,0,none⟩) p.length cap)).run P w=.ok (.string ⟨p.toArray⟩) w:=
 run_convert_bytes_back w src dst 5 ⟨g,0,none⟩ cap p hs he hd (fun j hj=>by rw[add_off];exact(h j hj).1)
theorem bytesOf {P:Program} (src dst:TypeId)(hs:P.underlying src=some .string)(hd:P.underlying dst=some (.slice 5))(he:P.underlying 5=some (.int .u8))(s:ByteArray)(w:World) :
  ∃ cap W,(convert src dst (.string s)).run P w=.ok (.slice (some ⟨w.heap.size,0,none⟩) s.size cap) W∧HoldsB w.heap.size s.data.toList W∧Below w.heap.size w W:=by
 refine⟨_,_,run_bytes_of_string w src dst 5 s hs hd he,?_,(Below.refl _ _).drew.alloc (Nat.le_refl _) _⟩
 intro j hj
 have hj':j<s.data.size:=by simpa using hj
 have hsz:j<(bytesRow s (grownCap w s.size 0 5)).size:=by
  simp only[bytesRow,Array.size_append,Array.size_map];omega
 constructor
 ·have e:=World.cell?_alloc_mark w.drew (bytesRow s (grownCap w s.size 0 5)) 5 ((bytesRow s (grownCap w s.size 0 5)).size,(bytesRow s (grownCap w s.size 0 5)).size+1) j
  refine e.trans ?_
  unfold bytesRow
  rw[Array.getElem?_append_left (by simpa using hj')]
  rw[Array.getElem?_map,Array.getElem?_eq_getElem hj']
  rfl
 ·have e:=World.frozen?_alloc_mark w.drew (bytesRow s (grownCap w s.size 0 5)) 5 (bytesRow s (grownCap w s.size 0 5)).size ((bytesRow s (grownCap w s.size 0 5)).size+1) j
  refine e.trans ?_
  simp only[Bool.and_eq_false_imp,decide_eq_true_eq,decide_eq_false_iff_not]
  omega
theorem HoldsB.set {g:Nat} {p:List UInt8} {w:World} (h:HoldsB g p w)(k:Nat)(hk:k<p.length)(c:UInt8):HoldsB g (p.set k c) (w.setCell ⟨g,k,none⟩ (.int .u8 (c.toNat:Int))):=by
 intro j hj
 have hj':j<p.length:=by simpa using hj
 refine⟨?_,by rw[World.frozen?_setCell];exact(h j hj').2⟩
 by_cases e:k=j
 ·subst e
  rw[World.cell?_setCell_same w _ _ (h k hk).1,List.getElem_set_self]
 ·rw[World.cell?_setCell_other w ⟨g,k,none⟩ ⟨g,j,none⟩ _ (by simp),List.getElem_set_ne e]
  exact(h j hj').1
theorem implLoweredB (s:ByteArray)(w:World)(hs:s.size≤4000000) :
  Calls Tryz.prog 77 #[.string s] w fun e w'=>e=.returned (.string ⟨(lower s.data.toList).toArray⟩)∧Below w.heap.size w w':=by
 obtain⟨cap,W,hcv,hh,hbW⟩:=bytesOf (P:=Tryz.prog) 9 22 Tryz.underlying9 Tryz.underlying22 Tryz.underlying5 s w
 go_enter Tryz.func77,Tryz.ntmps77
 go_wp2
 clear hcv
 go_loopw [10] (fun i wr=>∃ k:Nat,k≤s.size∧i=.int .i64 k∧HoldsB w.heap.size (lowTo s.data.toList k) wr∧Below w.heap.size w wr) (fun i _=>s.size-(Lib.intOf i).toNat)
 case atStart=>exact⟨0,by omega,rfl,by rw[lowTo_zero];exact hh,hbW⟩
 case round=>
  obtain⟨k,hk,rfl,hold,hb⟩:=hrel
  have hll:s.data.toList.length=s.size:=by simp
  by_cases hlt:k<s.size
  ·obtain⟨hc,hf⟩:=hold k (by rw[lowTo_len];omega)
   rw[lowTo_get _ _ (by omega)] at hc
   have hset:=lowTo_set s.data.toList k (by omega)
   have hsame:=lowTo_same s.data.toList k (by omega)
   have hst:=fun c=>hold.set k (by rw[lowTo_len];omega) c
   generalize s.data.toList[k]=c at hc hset hsame
   have h8:c.toNat<256:=UInt8.toNat_lt _
   by_cases hc1:65≤c.toNat∧c.toNat≤90
   ·have hv:=small_yes c hc1
    have hst':=mkH (hst (small c))
    rw[hset,hv] at hst'
    obtain⟨h65,h90⟩:=hc1
    clear hset hsame hst hold hv hll
    have hb':=hb.setCell (p:=⟨w.heap.size,k,none⟩) (Nat.le_refl _) (.int .u8 ((c.toNat:Int)+32))
    have hb'':=mkH hb'
    clear hb'
    go_wp2
    rw[show(c.toNat:Int)-65+97=(c.toNat:Int)+32 by omega]
    go_roundw
    case rel=>exact⟨k+1,by omega,by go_num,hst'.out,hb''.out⟩
    case measure=>simp[Lib.intOf];omega
   ·have hv:=mkH (hsame (small_no c hc1))
    clear hset hsame hst hll
    by_cases h65:65≤c.toNat
    ·have h90:90<c.toNat:=by omega
     clear hc1
     go_wp2
     go_roundw
     case rel=>exact⟨k+1,by omega,by go_num,by rw[← hv.out];exact hold,hb⟩
     case measure=>simp[Lib.intOf];omega
    ·clear hc1
     go_wp2
     go_roundw
     case rel=>exact⟨k+1,by omega,by go_num,by rw[← hv.out];exact hold,hb⟩
     case measure=>simp[Lib.intOf];omega
  ·rw[lowTo_all _ _ (by omega)] at hold
   have hlen:(lower s.data.toList).length=s.size:=by simp[lower]
   have hbk:=hold.back (P:=Tryz.prog) (cap:=cap) 22 9 Tryz.underlying22 Tryz.underlying5 Tryz.underlying9
   rw[hlen] at hbk
   clear hlen hll hold
   go_wp2
   go_ret
   exact⟨rfl,hb⟩
theorem implLowered (s:ByteArray)(w:World)(hs:s.size≤100000) :
  Calls Tryz.prog 77 #[.string s] w fun e w'=>e=.returned (.string ⟨(lower s.data.toList).toArray⟩)∧Below w.heap.size w w':=implLoweredB s w (by omega)
theorem specSmall (c:UInt8)(w:World) :
  Calls Tryz.prog 171 #[.int .u8 (c.toNat:Int)] w fun e w'=>e=.returned (.int .u8 ((small c).toNat:Int))∧w=w':=by
 have h8:c.toNat<256:=UInt8.toNat_lt _
 by_cases hc:65≤c.toNat∧c.toNat≤90
 ·rw[small_yes c hc]
  obtain⟨h65,h90⟩:=hc
  go_enter Tryz.func171,Tryz.ntmps171
  go_wp2
  go_ret
  exact⟨rfl,rfl⟩
 ·rw[small_no c hc]
  by_cases h65:65≤c.toNat
  ·have h90:90<c.toNat:=by omega
   clear hc
   go_enter Tryz.func171,Tryz.ntmps171
   go_wp2
   go_ret
   exact⟨rfl,rfl⟩
  ·clear hc
   go_enter Tryz.func171,Tryz.ntmps171
   go_wp2
   go_ret
   exact⟨rfl,rfl⟩
theorem specLower (s:ByteArray)(w:World)(hs:s.size≤100000) :
  Calls Tryz.prog 113 #[.string s] w fun e w'=>e=.returned (.string ⟨(lower s.data.toList).toArray⟩)∧Below w.heap.size w w':=by
 obtain⟨i0,hi,hz0,hz1,hz2⟩:=info_parts Tryz.info5
 go_enter Tryz.func113,Tryz.ntmps113
 go_wp2
 go_loopw [3,4] (fun v i wr=>∃ k:Nat,k≤s.size∧i=.int .i64 k∧Own w.heap.size v (lower (s.data.toList.take k)) wr∧Below w.heap.size w wr) (fun _ i _=>s.size-(Lib.intOf i).toNat)
 case atStart=>exact⟨0,Nat.zero_le _,rfl,Own.made _ _ (Nat.le_refl _),(Below.refl _ _).alloc (Nat.le_refl _) _⟩
 case round=>
  obtain⟨k,hk,rfl,hown,hb⟩:=hrel
  by_cases hlt:k<s.size
  ·have hll:s.data.toList.length=s.size:=by simp
   have hlen:(lower (s.data.toList.take k)).length=k:=by simp only[lower,List.length_map,List.length_take];omega
   have hstep:Hid (lower (s.data.toList.take k) ++ [small s[k]]=lower (s.data.toList.take (k+1))):=by
    rw[List.take_succ_eq_append_getElem (by omega),lower,lower,List.map_append];exact rfl
   have h8:(small s[k]).toNat<256:=UInt8.toNat_lt _
   generalize lower (s.data.toList.take k)=p at *
   clear hll
   go_wp2_with fail
   refine(specSmall s[k] _).mono ?_
   rintro e w2 ⟨rfl,rfl⟩
   generalize small s[k]=c at *
   go_wp2_with (at_builtin;go_must (refine wp_app (W:=w) rfl _ _ 22 rfl i0 Tryz.underlying22 hi hz0 hz1 hz2 w.heap.size u3 p rfl hown _ [c] rfl 1 1 rfl rfl (by simp;omega) (Nat.le_refl _) hb ?_;intro v' w' hown' hb'))
   go_roundw
   case rel=>exact⟨k+1,by omega,by go_num,by rw[← hstep.out];exact hown',hb'⟩
   case measure=>simp[Lib.intOf];omega
  ·rw[List.take_of_length_le (by simp;omega)] at hown
   have hbk:=hown.back (P:=Tryz.prog) 22 9 Tryz.underlying22 Tryz.underlying5 Tryz.underlying9
   go_wp2
   go_ret
   exact⟨rfl,hb⟩
def relaxV (v:ByteArray):List UInt8:=Pl.trimB (Pl.runs (Pl.unf false v.data.toList))
def canonF (n v:ByteArray)(x:Int):ByteArray:=
 if Pl.hd [] [(n,v)]=[] then ⟨#[]⟩
 else if x=0 then n++⟨#[58]⟩++v++⟨#[13,10]⟩
 else if x=1 then ⟨(lower n.data.toList).toArray⟩++⟨#[58]⟩++⟨(relaxV v).toArray⟩++⟨#[13,10]⟩
 else ⟨#[]⟩
namespace Pl
theorem rn_len:∀(l:List UInt8)(b:Bool),(rn b l).length≤l.length
 | [],b=>by simp[rn]
 | c::r,b=>by
  have h1:=rn_len r true
  have h2:=rn_len r false
  rw[rn]
  split
  ·split
   ·simp;omega
   ·simp;omega
  ·simp;omega
theorem runs_len (l:List UInt8):(runs l).length≤l.length:=by
 have:=rn_len l false
 unfold runs bareEnd
 split
 ·rw[List.length_dropLast];omega
 ·exact this
theorem dropW_len:∀(l:List UInt8),(l.dropWhile blank).length≤l.length
 | []=>by simp
 | c::r=>by
  rw[List.dropWhile_cons]
  split
  ·have:=dropW_len r;simp;omega
  ·simp
theorem trimB_len (l:List UInt8):(trimB l).length≤l.length:=by
 unfold trimB endB
 rw[List.length_reverse]
 have h1:=dropW_len (l.dropWhile blank).reverse
 have h2:=dropW_len l
 rw[List.length_reverse] at h1
 omega
end Pl
theorem hd_one (n v:ByteArray)(h:¬Pl.hd [] [(n,v)]=[]):n.size≤100000∧v.size≤100000:=by
 rw[Pl.hd] at h
 split at h
 ·split at h
  ·exact absurd rfl h
  ·rename_i hl
   rw[List.nil_append,Pl.line_len] at hl
   exact⟨by show n.size≤_;simp at hl;omega,by show v.size≤_;simp at hl;omega⟩
 ·exact absurd rfl h
theorem one_fld (n v:ByteArray)(w:World):Fld (((w.alloc (.cells #[.string n,.string v] 38)).alloc (.cells #[.string n,.string v] 38))).heap.size ((w.alloc (.cells #[.string n,.string v] 38)).alloc (.cells #[.string n,.string v] 38)) (some ⟨w.heap.size+1,0,none⟩) [(n,v)]:=by
 intro i hi
 obtain rfl:i=0:=by simp at hi;omega
 refine⟨_,rfl,by simp,?_,?_⟩
 ·rw[add_off];simp
 ·rw[add_off];simp
theorem specCanonField (n v:ByteArray)(x:Int)(w:World)(hn:n.size≤1048576)(hv:v.size≤1048576) :
  Calls Tryz.prog 75 #[.agg #[.string n,.string v],.int .i64 x] w fun e w'=>e=.returned (.string (canonF n v x))∧Below w.heap.size w w':=by
 have hW:=specWriteHead (some ⟨w.heap.size+1,0,none⟩) [(n,v)] 1 _ (one_fld n v w) (by simp) (fun f hf=>by obtain rfl:=List.mem_singleton.1 hf;exact⟨hn,hv⟩)
 have hA:Below w.heap.size w ((w.alloc (.cells #[.string n,.string v] 38)).alloc (.cells #[.string n,.string v] 38)):=((Below.refl _ _).alloc (Nat.le_refl _) _).alloc (by simp) _
 have hk:((w.alloc (.cells #[.string n,.string v] 38)).alloc (.cells #[.string n,.string v] 38)).cell? ⟨w.heap.size,0,none⟩=some (.string n)∧((w.alloc (.cells #[.string n,.string v] 38)).alloc (.cells #[.string n,.string v] 38)).cell? ⟨w.heap.size,1,none⟩=some (.string v):=by
  constructor<;>simp[World.cell?_alloc_old]
 obtain⟨T,hT⟩:∃T:ByteArray,T=⟨(Pl.hd [] [(n,v)]).toArray⟩:=⟨_,rfl⟩
 rw[← hT] at hW
 have HT:Hid (T.toList.isEmpty=true↔Pl.hd [] [(n,v)]=[]):=show _↔_ from by
  rw[hT,ByteArray.toList_eq]
  simp
 clear hT
 obtain⟨R,hR⟩:∃R,canonF n v x=R:=⟨_,rfl⟩
 have HR:Hid (canonF n v x=R):=hR
 rw[hR]
 clear hR
 go_enter Tryz.func75,Tryz.ntmps75
 go_wp2_with fail
 refine hW.mono ?_
 rintro e w2 ⟨rfl,hb2⟩
 have Hbw:Hid (Below w.heap.size w w2):=hA.trans (hb2.mono hA.size)
 have k0:=(hb2.cell (World.block_lt_of_cell? _ _ hk.1)).trans hk.1
 have k1:=(hb2.cell (World.block_lt_of_cell? _ _ hk.2)).trans hk.2
 clear hW hA hb2 hk
 cases hTe:T.toList.isEmpty
 ·have hne:¬Pl.hd [] [(n,v)]=[]:=fun e=>by have:=HT.out.2 e;rw[hTe] at this;cases this
  have hs:=hd_one n v hne
  have Hne:Hid (¬Pl.hd [] [(n,v)]=[]):=hne
  clear hne HT
  by_cases h0:x=0
  ·have e0:(x==0)=true:=by rw[h0];rfl
   have H0:Hid (x=0):=h0
   clear h0
   go_wp2
   go_ret
   exact⟨by rw[← HR.out,canonF,if_neg Hne.out,if_pos H0.out];rfl,Hbw.out⟩
  ·have e0:(x==0)=false:=beq_eq_false_iff_ne.2 h0
   have H0:Hid (¬x=0):=h0
   clear h0
   by_cases h1:x=1
   ·have e1:(x==1)=true:=by rw[h1];rfl
    have H1:Hid (x=1):=h1
    clear h1
    have hlu:(Pl.unf false v.data.toList).length≤100000:=by
     have:=Pl.unf_len v.data.toList false
     rw[Pl.len_list] at this
     omega
    have hlr:(Pl.runs (Pl.unf false v.data.toList)).length≤100000:=Nat.le_trans (Pl.runs_len _) hlu
    have hlt:(relaxV v).length≤100000:=Nat.le_trans (Pl.trimB_len _) hlr
    have bs:∀l:List UInt8,l.length≤100000→(⟨l.toArray⟩:ByteArray).size≤100000:=fun l h=>by show l.toArray.size≤_;rw[List.size_toArray];exact h
    have hL:=fun w=>specLower n w hs.1
    have hU:=fun w=>specUnfold v w hs.2
    have hN:=fun w=>specRuns ⟨(Pl.unf false v.data.toList).toArray⟩ w (bs _ hlu)
    have hM:=fun w=>specTrimB ⟨(Pl.runs (Pl.unf false v.data.toList)).toArray⟩ w (Nat.le_trans (bs _ hlr) (by omega))
    have zl:(⟨(lower n.data.toList).toArray⟩:ByteArray).size≤100000:=bs _ (by unfold lower;rw[List.length_map,Pl.len_list];exact hs.1)
    have zt:(⟨(relaxV v).toArray⟩:ByteArray).size≤100000:=bs _ hlt
    have HR2:Hid ((⟨(lower n.data.toList).toArray⟩:ByteArray)++⟨#[58]⟩++⟨(relaxV v).toArray⟩++⟨#[13,10]⟩=R):=by
     show _=_
     rw[← HR.out,canonF,if_neg Hne.out,if_neg H0.out,if_pos H1.out]
    have hM2:∀w:World,Calls Tryz.prog 114 #[.string ⟨(Pl.runs (Pl.unf false v.data.toList)).toArray⟩] w fun e w'=>e=.returned (.string ⟨(relaxV v).toArray⟩)∧w=w':=hM
    have hN2:∀w:World,Calls Tryz.prog 39 #[.string ⟨(Pl.unf false v.data.toList).toArray⟩] w fun e w'=>e=.returned (.string ⟨(Pl.runs (Pl.unf false v.data.toList)).toArray⟩)∧Below w.heap.size w w':=hN
    clear hM hN HR Hne H0 H1 hlu hlr hlt bs
    generalize (⟨(relaxV v).toArray⟩:ByteArray)=tt at *
    generalize (⟨(Pl.runs (Pl.unf false v.data.toList)).toArray⟩:ByteArray)=tr at *
    generalize (⟨(Pl.unf false v.data.toList).toArray⟩:ByteArray)=tu at *
    generalize (⟨(lower n.data.toList).toArray⟩:ByteArray)=tl at *
    have k0':=cell_regrown k0
    have k1':=cell_regrown k1
    have cL:∀d os,Calls Tryz.prog 113 #[.string n] (Go.Sort.grow (redrawn w2 d) os) fun e w''=>e=.returned (.string tl)∧∃p:Regrown,w''=Go.Sort.grow (redrawn w2 p.d) p.os:=fun d os=>Calls.regrown_of (hL _)
    have cU:∀d os,Calls Tryz.prog 115 #[.string v] (Go.Sort.grow (redrawn w2 d) os) fun e w''=>e=.returned (.string tu)∧∃p:Regrown,w''=Go.Sort.grow (redrawn w2 p.d) p.os:=fun d os=>Calls.regrown_of (hU _)
    have cN:∀d os,Calls Tryz.prog 39 #[.string tu] (Go.Sort.grow (redrawn w2 d) os) fun e w''=>e=.returned (.string tr)∧∃p:Regrown,w''=Go.Sort.grow (redrawn w2 p.d) p.os:=fun d os=>Calls.regrown_of (hN2 _)
    have cM:∀d os,Calls Tryz.prog 114 #[.string tr] (Go.Sort.grow (redrawn w2 d) os) fun e w''=>e=.returned (.string tt)∧∃p:Regrown,w''=Go.Sort.grow (redrawn w2 p.d) p.os:=fun d os=>Calls.regrown_of ((hM2 _).mono fun e w' ⟨he,hw⟩=>⟨he,by rw[hw];exact Below.refl _ _⟩)
    have HL:=(show Hid _ from cL)
    have HU:=(show Hid _ from cU)
    have HN:=(show Hid _ from cN)
    have HM:=(show Hid _ from cM)
    clear cL cU cN cM hL hU hN2 hM2
    have n0:¬9223372036854775807<tl.size+1:=by omega
    have n1:¬9223372036854775807<tl.size+1+tt.size:=by omega
    have n2:¬9223372036854775807<tl.size+1+tt.size+2:=by omega
    go_wp2
    refine wp_region_quiet_below (by kernel_rfl) (by kernel_rfl) ?_
    quiet_step (fail)
    quiet_step (fail)
    quiet_step (exact HL.out _ _)
    quiet_step (fail)
    quiet_step (fail)
    quiet_step (fail)
    quiet_step (exact HU.out _ _)
    quiet_step (exact HN.out _ _)
    quiet_step (exact HM.out _ _)
    repeat (quiet_step (fail))
    refine wpQuiet_nil ?_
    intro _ hw'
    obtain⟨⟨dq,osq⟩,hw''⟩:=hw'
    subst hw''
    have hbq:=Hbw.out.trans ((below_regrown w2 dq osq).mono Hbw.out.size)
    go_wp2
    go_ret
    exact⟨by rw[← HR2.out];rfl,hbq⟩
   ·have e1:(x==1)=false:=beq_eq_false_iff_ne.2 h1
    have H1:Hid (¬x=1):=h1
    clear h1
    go_wp2
    go_ret
    exact⟨by rw[← HR.out,canonF,if_neg Hne.out,if_neg H0.out,if_neg H1.out];rfl,Hbw.out⟩
 ·have he:Pl.hd [] [(n,v)]=[]:=HT.out.1 hTe
  have He:Hid (Pl.hd [] [(n,v)]=[]):=he
  clear he HT
  go_wp2
  go_ret
  exact⟨by rw[← HR.out,canonF,if_pos He.out];rfl,Hbw.out⟩
namespace Pl
def dt (ls:List (List UInt8)):List (List UInt8):=(ls.reverse.dropWhile (fun l=>l.isEmpty)).reverse
def ends (ls:List (List UInt8)):List UInt8:=ls.flatMap fun l=>l ++ [13,10]
theorem dt_step (ls:List (List UInt8))(k:Nat)(hk:k<ls.length)(h:ls[k].isEmpty=true):dt (ls.take k)=dt (ls.take (k+1)):=by
 unfold dt
 rw[List.take_succ_eq_append_getElem hk,List.reverse_append,List.reverse_singleton,List.singleton_append,List.dropWhile_cons,if_pos h]
theorem dt_stop (ls:List (List UInt8))(k:Nat)(hk:k<ls.length)(h:ls[k].isEmpty=false):dt (ls.take (k+1))=ls.take (k+1):=by
 unfold dt
 rw[List.take_succ_eq_append_getElem hk,List.reverse_append,List.reverse_singleton,List.singleton_append,List.dropWhile_cons,if_neg (by rw[h];simp),List.reverse_cons,List.reverse_reverse]
theorem ends_step (ms:List (List UInt8))(p X:List UInt8)(j:Nat)(hj:j<ms.length)(h:Hid (p++ends (ms.drop j)=X)):Hid ((p++ms[j] ++ [13,10])++ends (ms.drop (j+1))=X):=by
 have h:=h.out
 rw[List.drop_eq_getElem_cons hj] at h
 show _=_
 rw[← h]
 unfold ends
 rw[List.flatMap_cons]
 simp
theorem lines_count:∀(n:Nat)(l:List UInt8),l.length≤n→(lines l).length≤l.length∧∀x ∈ lines l,x.length≤n
 | 0,l,h=>by
  obtain rfl:l=[]:=List.length_eq_zero_iff.1 (by omega)
  rw[lines_nil]
  exact⟨by simp,fun x hx=>absurd hx (List.not_mem_nil)⟩
 | n+1,l,h=>by
  by_cases hl:l=[]
  ·subst hl
   rw[lines_nil]
   exact⟨by simp,fun x hx=>absurd hx (List.not_mem_nil)⟩
  ·have h1:=cut_rest l hl
   have h2:=cut_fst l
   obtain⟨a,b⟩:=lines_count n (cut l crs).2.1 (by omega)
   rw[lines_step l hl]
   refine⟨by rw[List.length_cons];omega,?_⟩
   intro x hx
   rcases List.mem_cons.1 hx with rfl|hx
   ·omega
   ·have:=b x hx;omega
end Pl
def bodyL (s:ByteArray)(x:Int):List (List UInt8):=Pl.dt (if x=1 then (Pl.lines s.data.toList).map Pl.runs else Pl.lines s.data.toList)
def canonB (s:ByteArray)(x:Int):List UInt8:=if bodyL s x=[]∧x=0 then [13,10] else Pl.ends (bodyL s x)
theorem OwnS.stored {B g cap n:Nat} {ps:List (List UInt8)} {w:World} (h:OwnS B (.slice (some ⟨g,0,none⟩) n cap) ps w)(hn:n=ps.length)(j:Nat)(c:List UInt8) :
  OwnS B (.slice (some ⟨g,0,none⟩) n cap) (ps.set j c) (w.setCell ⟨g,j,none⟩ (txtL c)):=by
 subst hn
 have:=(World.ownsRow.stored h j (txtL c)).1
 unfold OwnS
 rw[List.length_set,List.map_set]
 exact this
theorem OwnS.free {B g cap n:Nat} {ps:List (List UInt8)} {w:World} (h:OwnS B (.slice (some ⟨g,0,none⟩) n cap) ps w)(j:Nat):w.frozen? ⟨g,j,none⟩=false:=by
 rcases h.2 with ⟨h2,-⟩|⟨g',cap',cur,e1,e2,e3,-⟩
 ·cases h2
 ·cases e1
  simp[World.frozen?,e3]
theorem mid_get (ls:List (List UInt8))(k:Nat)(hk:k<ls.length):((ls.take k).map Pl.runs++ls.drop k)[k]'(by simp;omega)=ls[k]:=by
 rw[List.getElem_append_right (by simp;omega)]
 simp[List.getElem_drop,Nat.min_eq_left (Nat.le_of_lt hk)]
theorem mid_set (ls:List (List UInt8))(k:Nat)(hk:k<ls.length):((ls.take k).map Pl.runs++ls.drop k).set k (Pl.runs ls[k])=(ls.take (k+1)).map Pl.runs++ls.drop (k+1):=by
 have hl:((ls.take k).map Pl.runs).length=k:=by simp;omega
 rw[List.set_append,if_neg (by omega),hl,Nat.sub_self,List.drop_eq_getElem_cons hk,List.set_cons_zero,List.take_succ_eq_append_getElem hk,List.map_append,List.map_singleton,List.append_assoc,List.singleton_append]
set_option maxRecDepth 10000 in
theorem specCanonBody0 (s:ByteArray)(w:World)(hs:s.size≤100000) :
  Calls Tryz.prog 10 #[.string s,.int .i64 0] w fun e w'=>e=.returned (.string ⟨(canonB s 0).toArray⟩)∧Below w.heap.size w w':=by
 obtain⟨i0,hi,hy0,hy1,hy2⟩:=info_parts Tryz.info5
 have hL:=specLines s w hs
 obtain⟨R,hR⟩:∃R,canonB s 0=R:=⟨_,rfl⟩
 obtain⟨hcount,hmem⟩:=Pl.lines_count 100000 s.data.toList (by rw[Pl.len_list];exact hs)
 rw[Pl.len_list] at hcount
 obtain⟨ls,hls⟩:∃ls,Pl.lines s.data.toList=ls:=⟨_,rfl⟩
 obtain⟨D,hD⟩:∃D,Pl.dt ls=D:=⟨_,rfl⟩
 have hB:bodyL s 0=D:=by unfold bodyL;rw[if_neg (by decide),hls,hD]
 have HRne:Hid (¬D=[]→Pl.ends D=R):=show _→_ from fun h=>by rw[← hR,canonB,hB,if_neg (fun e=>h e.1)]
 have HRnil:Hid (D=[]→([13,10]:List UInt8)=R):=show _→_ from fun h=>by rw[← hR,canonB,hB,if_pos ⟨h,rfl⟩]
 rw[hR]
 rw[hls] at hL hcount hmem
 have Hmem:Hid (∀x ∈ ls,x.length≤100000):=hmem
 have Hd:Hid (Pl.dt ls=D):=hD
 clear hls hmem hR hB hD
 obtain⟨L,hLen⟩:∃L,ls.length=L:=⟨_,rfl⟩
 rw[hLen] at hcount
 go_enter Tryz.func10,Tryz.ntmps10
 go_wp2_with fail
 refine hL.mono ?_
 rintro e w1 ⟨v1,rfl,hown1,hb1⟩
 rcases hown1.form with ⟨rfl,hnil⟩|⟨g,cap,rfl,hg,hgl⟩
 ·skip
  have hDn:D=[]:=by rw[← Hd.out,hnil];rfl
  have HRz2:Hid (([13,10]:List UInt8)=R):=HRnil.out hDn
  have hbz:Hid (Below w.heap.size w (w1.alloc (.cells #[] 5))):=hb1.alloc hb1.size _
  have hbk:(convert 22 9 (.slice (some ⟨w1.heap.size,0,none⟩) 0 0)).run Tryz.prog (w1.alloc (.cells #[] 5))=.ok (.string ⟨([]:List UInt8).toArray⟩) (w1.alloc (.cells #[] 5)):=(Own.made w1.heap.size w1 (Nat.le_refl _)).back (P:=Tryz.prog) 22 9 Tryz.underlying22 Tryz.underlying5 Tryz.underlying9
  clear hDn hL hown1 hb1 hnil HRnil HRne
  go_wp2
  go_loopw [7] (fun n wr=>n=.int .i64 0∧wr=w1) (fun _ _=>0)
  case atStart=>exact⟨rfl,rfl⟩
  case round=>
   obtain⟨rfl,rfl⟩:=hrel
   obtain⟨V,hV⟩:∃V,V=wr:=⟨_,rfl⟩
   subst hV
   go_wp2
   go_loopw [8,9] (fun u i wr=>i=.int .i64 0∧u=.slice (some ⟨V.heap.size,0,none⟩) 0 0∧wr=V.alloc (.cells #[] 5)) (fun _ _ _=>0)
   case atStart=>exact⟨rfl,rfl,rfl⟩
   case round=>
    obtain⟨rfl,rfl,rfl⟩:=hrel
    go_wp2
    go_ret
    exact⟨by rw[← HRz2.out];rfl,hbz.out⟩
 ·rw[hLen] at hown1 ⊢
  have Hown:Hid (OwnS w.heap.size (.slice (some ⟨g,0,none⟩) L cap) ls w1):=hown1
  have Hb1:Hid (Below w.heap.size w w1):=hb1
  clear hL hown1 hb1
  go_wp2
  go_loopw [7] (fun n wr=>∃ k:Nat,k≤L∧n=.int .i64 k∧Hid (Pl.dt (ls.take k)=D)∧wr=w1) (fun n _=>(Lib.intOf n).toNat)
  case atStart=>exact⟨L,Nat.le_refl _,rfl,(by show _=_;rw[List.take_of_length_le (by omega)];exact Hd.out),rfl⟩
  case round=>
   obtain⟨k,hk,rfl,hp,rfl⟩:=hrel
   by_cases h0:0<k
   ·obtain⟨j,hkj⟩:∃j,k=j+1:=⟨k-1,by omega⟩
    have hj:j<ls.length:=by omega
    have hc:wr.cell? ⟨g,j,none⟩=some (.string ⟨ls[j].toArray⟩):=OwnS.cell Hown.out j hj
    have hidx:(k:Int)-1=(j:Int):=by omega
    have hjL:j<L:=by omega
    have hjk:j<k∧k≤j+1:=by omega
    rw[hkj] at hp
    have HKJ:Hid (k=j+1):=hkj
    clear hkj
    cases he:ls[j].isEmpty
    ·have HD:Hid (ls.take (j+1)=D):=by
      show _=_
      rw[← hp.out,Pl.dt_stop ls j hj he]
     rw[← HKJ.out] at HD
     have HX:Hid (([]:List UInt8)++Pl.ends ((ls.take k).drop 0)=R):=by
      show _=_
      have hne:¬(D=[]):=by
       rw[← HD.out]
       intro e
       have hl:=congrArg List.length e
       rw[List.length_take,List.length_nil] at hl
       omega
      rw[List.drop_zero,HD.out,List.nil_append]
      exact HRne.out hne
     have het:(⟨ls[j].toArray⟩:ByteArray).toList.isEmpty=false:=by rw[ByteArray.toList_eq];exact he
     clear hp he HD
     generalize (⟨ls[j].toArray⟩:ByteArray)=tj at hc het
     obtain⟨V,hV⟩:∃V,V=wr:=⟨_,rfl⟩
     subst hV
     go_wp2
     go_loopw [8,9] (fun u i wr=>∃ (m:Nat) (p:List UInt8),m≤k∧i=.int .i64 m∧p.length≤100002*m∧Hid (p++Pl.ends ((ls.take k).drop m)=R)∧Hid (Own V.heap.size u p wr)∧Hid (Below V.heap.size V wr)) (fun _ i _=>k-(Lib.intOf i).toNat)
     case atStart=>exact⟨0,[],Nat.zero_le _,rfl,by simp,HX,Own.made V.heap.size V (Nat.le_refl _),(Below.refl _ _).alloc (Nat.le_refl _) _⟩
     case round=>
      clear HX
      obtain⟨m,p,hm,rfl,hpl,HX,HO,HB⟩:=hrel
      by_cases hmj:m<k
      ·have hml:m<(ls.take k).length:=by rw[List.length_take];omega
       have hel:(ls.take k)[m]=ls[m]'(by omega):=List.getElem_take
       have HX2:=Pl.ends_step (ls.take k) p R m hml HX
       rw[hel] at HX2
       have hcm:wr.cell? ⟨g,m,none⟩=some (.string ⟨(ls[m]'(by omega)).toArray⟩):=(HB.out.cell (World.block_lt_of_cell? _ _ (OwnS.cell Hown.out m (by omega)))).trans (OwnS.cell Hown.out m (by omega))
       have hsz:(ls[m]'(by omega)).length≤100000:=Hmem.out _ (List.getElem_mem _)
       have hsz2:(⟨(ls[m]'(by omega)).toArray⟩:ByteArray).size≤100000:=by show(ls[m]'(by omega)).toArray.size≤_;rw[List.size_toArray];exact hsz
       have HD2:Hid ((⟨(ls[m]'(by omega)).toArray⟩:ByteArray).data.toList=ls[m]'(by omega)):=show _=_ from rfl
       have hown2:=HO.out
       clear HX hel
       generalize (⟨(ls[m]'(by omega)).toArray⟩:ByteArray)=tm at *
       generalize ls[m]'(by omega)=lm at HX2 HD2 hsz
       go_wp2_with (at_builtin;go_must (first
        | (refine wp_app (W:=V) rfl _ _ 22 rfl i0 Tryz.underlying22 hi hy0 hy1 hy2 V.heap.size v' (p++tm.data.toList) rfl hown' _ [13,10] rfl 2 2 rfl rfl (by simp;omega) (Nat.le_refl _) hb' ?_;intro v3 w3 hown3 hb3)
        | (refine wp_apps (W:=V) rfl _ _ 22 9 rfl i0 Tryz.underlying22 Tryz.underlying9 hi hy0 hy1 hy2 V.heap.size u8 p rfl hown2 tm rfl (by omega) (Nat.le_refl _) HB.out ?_;intro v' w' hown' hb')))
       rw[HD2.out] at hown3
       go_roundw
       case rel=>exact⟨m+1,_,by omega,by go_num,(by simp;omega),HX2,hown3,hb3⟩
       case measure=>simp[Lib.intOf];omega
      ·have hpR:p=R:=by
        rw[← HX.out,List.drop_eq_nil_of_le (by rw[List.length_take];omega)]
        simp[Pl.ends]
       have HpR:Hid (p=R):=hpR
       have hbk:=HO.out.back (P:=Tryz.prog) 22 9 Tryz.underlying22 Tryz.underlying5 Tryz.underlying9
       have hn0:((k:Int)==0)=false:=beq_eq_false_iff_ne.2 (by omega)
       have hbe:=Hb1.out.trans (HB.out.mono Hb1.out.size)
       clear HX hpR HB HO
       go_wp2
       go_ret
       exact⟨by rw[← HpR.out];rfl,hbe⟩
    ·have HN:Hid (Pl.dt (ls.take j)=D):=by
      show _=_
      rw[Pl.dt_step ls j hj he];exact hp.out
     have het:(⟨ls[j].toArray⟩:ByteArray).toList.isEmpty=true:=by rw[ByteArray.toList_eq];exact he
     clear hp he
     generalize (⟨ls[j].toArray⟩:ByteArray)=tj at hc het
     go_wp2
     go_roundw
     case rel=>exact⟨j,by omega,by go_num,HN,trivial⟩
     case measure=>simp[Lib.intOf];omega
   ·obtain rfl:k=0:=by omega
    have HZ:Hid (D=[]):=by
     show _=_
     rw[← hp.out,List.take_zero];rfl
    have HRz:=HRnil.out HZ.out
    have HRz2:Hid (([13,10]:List UInt8)=R):=HRz
    have hbz:Hid (Below w.heap.size w (wr.alloc (.cells #[] 5))):=Hb1.out.alloc Hb1.out.size _
    have hbk:(convert 22 9 (.slice (some ⟨wr.heap.size,0,none⟩) 0 0)).run Tryz.prog (wr.alloc (.cells #[] 5))=.ok (.string ⟨([]:List UInt8).toArray⟩) (wr.alloc (.cells #[] 5)):=(Own.made wr.heap.size wr (Nat.le_refl _)).back (P:=Tryz.prog) 22 9 Tryz.underlying22 Tryz.underlying5 Tryz.underlying9
    clear hp HZ HRz h0
    obtain⟨V,hV⟩:∃V,V=wr:=⟨_,rfl⟩
    subst hV
    go_wp2
    go_loopw [8,9] (fun u i wr=>i=.int .i64 0∧u=.slice (some ⟨V.heap.size,0,none⟩) 0 0∧wr=V.alloc (.cells #[] 5)) (fun _ _ _=>0)
    case atStart=>exact⟨rfl,rfl,rfl⟩
    case round=>
     obtain⟨rfl,rfl,rfl⟩:=hrel
     go_wp2
     go_ret
     exact⟨by rw[← HRz2.out];rfl,hbz.out⟩
set_option maxRecDepth 10000 in
theorem specCanonBody1 (s:ByteArray)(w:World)(hs:s.size≤100000) :
  Calls Tryz.prog 10 #[.string s,.int .i64 1] w fun e w'=>e=.returned (.string ⟨(canonB s 1).toArray⟩)∧Below w.heap.size w w':=by
 obtain⟨i0,hi,hy0,hy1,hy2⟩:=info_parts Tryz.info5
 have hL:=specLines s w hs
 obtain⟨R,hR⟩:∃R,canonB s 1=R:=⟨_,rfl⟩
 obtain⟨hcount,hmem⟩:=Pl.lines_count 100000 s.data.toList (by rw[Pl.len_list];exact hs)
 rw[Pl.len_list] at hcount
 obtain⟨l0,hls⟩:∃ls,Pl.lines s.data.toList=ls:=⟨_,rfl⟩
 obtain⟨ls,hlm⟩:∃ls,l0.map Pl.runs=ls:=⟨_,rfl⟩
 obtain⟨D,hD⟩:∃D,Pl.dt ls=D:=⟨_,rfl⟩
 have hB:bodyL s 1=D:=by unfold bodyL;rw[if_pos rfl,hls,hlm,hD]
 have HRne:Hid (¬D=[]→Pl.ends D=R):=show _→_ from fun h=>by rw[← hR,canonB,hB,if_neg (fun e=>h e.1)]
 have HRnil:Hid (D=[]→([]:List UInt8)=R):=show _→_ from fun h=>by rw[← hR,canonB,hB,if_neg (fun e=>by have:=e.2;omega),h];rfl
 rw[hR]
 rw[hls] at hL hcount hmem
 have Hmem0:Hid (∀x ∈ l0,x.length≤100000):=hmem
 have Hmem:Hid (∀x ∈ ls,x.length≤100000):=by
  intro x hx
  rw[← hlm] at hx
  obtain⟨y,hy,rfl⟩:=List.mem_map.1 hx
  exact Nat.le_trans (Pl.runs_len y) (hmem y hy)
 have Hd:Hid (Pl.dt ls=D):=hD
 have Hlm:Hid (l0.map Pl.runs=ls):=hlm
 clear hls hmem hR hB hD hlm
 obtain⟨L,hLen0⟩:∃L,l0.length=L:=⟨_,rfl⟩
 have hLen:ls.length=L:=by rw[← Hlm.out,List.length_map];exact hLen0
 rw[hLen0] at hcount
 go_enter Tryz.func10,Tryz.ntmps10
 go_wp2_with fail
 refine hL.mono ?_
 rintro e w1 ⟨v1,rfl,hown1,hb1⟩
 rcases hown1.form with ⟨rfl,hnil⟩|⟨g,cap,rfl,hg,hgl⟩
 ·skip
  have hDn:D=[]:=by rw[← Hd.out,← Hlm.out,hnil];rfl
  have HRz2:Hid (([]:List UInt8)=R):=HRnil.out hDn
  have hbz:Hid (Below w.heap.size w (w1.alloc (.cells #[] 5))):=hb1.alloc hb1.size _
  have hbk:(convert 22 9 (.slice (some ⟨w1.heap.size,0,none⟩) 0 0)).run Tryz.prog (w1.alloc (.cells #[] 5))=.ok (.string ⟨([]:List UInt8).toArray⟩) (w1.alloc (.cells #[] 5)):=(Own.made w1.heap.size w1 (Nat.le_refl _)).back (P:=Tryz.prog) 22 9 Tryz.underlying22 Tryz.underlying5 Tryz.underlying9
  clear hDn hL hown1 hb1 hnil HRnil HRne
  go_wp2
  go_loopw [6] (fun i wr=>i=.int .i64 0∧wr=w1) (fun _ _=>0)
  case atStart=>exact⟨rfl,rfl⟩
  case round=>
   obtain⟨rfl,rfl⟩:=hrel
   obtain⟨U,hU⟩:∃U,U=wr:=⟨_,rfl⟩
   subst hU
   go_wp2
   go_loopw [7] (fun n wr=>n=.int .i64 0∧wr=U) (fun _ _=>0)
   case atStart=>exact⟨rfl,rfl⟩
   case round=>
    obtain⟨rfl,rfl⟩:=hrel
    obtain⟨V,hV⟩:∃V,V=wr:=⟨_,rfl⟩
    subst hV
    go_wp2
    go_loopw [8,9] (fun u i wr=>i=.int .i64 0∧u=.slice (some ⟨V.heap.size,0,none⟩) 0 0∧wr=V.alloc (.cells #[] 5)) (fun _ _ _=>0)
    case atStart=>exact⟨rfl,rfl,rfl⟩
    case round=>
     obtain⟨rfl,rfl,rfl⟩:=hrel
     go_wp2
     go_ret
     exact⟨by rw[← HRz2.out];rfl,hbz.out⟩
 ·rw[hLen0] at hown1 ⊢
  have Hown0:Hid (OwnS w.heap.size (.slice (some ⟨g,0,none⟩) L cap) ((l0.take 0).map Pl.runs++l0.drop 0) w1):=show OwnS _ _ _ _ from by simpa using hown1
  have Hb0:Hid (Below w.heap.size w w1):=hb1
  clear hL hown1 hb1
  go_wp2
  go_loopw [6] (fun i wr=>∃ k:Nat,k≤L∧i=.int .i64 k∧Hid (OwnS w.heap.size (.slice (some ⟨g,0,none⟩) L cap) ((l0.take k).map Pl.runs++l0.drop k) wr)∧Hid (Below w.heap.size w wr)) (fun i _=>L-(Lib.intOf i).toNat)
  case atStart=>exact⟨0,Nat.zero_le _,rfl,Hown0,Hb0⟩
  case round=>
   clear Hown0 Hb0
   obtain⟨k,hk,rfl,HO,HB⟩:=hrel
   by_cases hlt:k<L
   ·have hk0:k<l0.length:=by omega
    have hc:=OwnS.cell HO.out k (by simp;omega)
    rw[mid_get l0 k hk0] at hc
    have hc2:wr.cell? ⟨g,k,none⟩=some (.string ⟨l0[k].toArray⟩):=hc
    have hsz:(⟨l0[k].toArray⟩:ByteArray).size≤100000:=by show l0[k].toArray.size≤_;rw[List.size_toArray];exact Hmem0.out _ (List.getElem_mem _)
    have hRu:∀w:World,Calls Tryz.prog 39 #[.string ⟨l0[k].toArray⟩] w fun e w'=>e=.returned (.string ⟨(Pl.runs l0[k]).toArray⟩)∧Below w.heap.size w w':=fun w=>specRuns ⟨l0[k].toArray⟩ w hsz
    have HS:=(show Hid _ from mid_set l0 k hk0)
    clear hc
    generalize (⟨l0[k].toArray⟩:ByteArray)=tk at hc2 hsz hRu
    generalize l0[k]=lk at hRu HS
    go_wp2_with fail
    refine(hRu _).mono ?_
    rintro e w2 ⟨rfl,hb2⟩
    have HO2:Hid (OwnS w.heap.size (.slice (some ⟨g,0,none⟩) L cap) ((l0.take k).map Pl.runs++l0.drop k) w2):=OwnS.keep HO.out (Nat.le_refl _) hb2
    have hfr:=OwnS.free HO2.out k
    have hc3:=(hb2.cell (World.block_lt_of_cell? _ _ hc2)).trans hc2
    have HO3:Hid (OwnS w.heap.size (.slice (some ⟨g,0,none⟩) L cap) ((l0.take (k+1)).map Pl.runs++l0.drop (k+1)) (w2.setCell ⟨g,k,none⟩ (.string ⟨(Pl.runs lk).toArray⟩))):=by
     have:=OwnS.stored HO2.out (by simp;omega) k (Pl.runs lk)
     rw[HS.out] at this
     exact this
    have HB3:Hid (Below w.heap.size w (w2.setCell ⟨g,k,none⟩ (.string ⟨(Pl.runs lk).toArray⟩))):=(HB.out.trans (hb2.mono HB.out.size)).setCell hg _
    clear HO HO2 hRu HS hb2 HB
    go_wp2
    go_roundw
    case rel=>exact⟨k+1,by omega,by go_num,HO3,HB3⟩
    case measure=>simp[Lib.intOf];omega
   ·obtain⟨V0,hV0⟩:∃V0,V0=wr:=⟨_,rfl⟩
    subst hV0
    have Hown:Hid (OwnS w.heap.size (.slice (some ⟨g,0,none⟩) L cap) ls V0):=by
     have:=HO.out
     rw[List.take_of_length_le (by omega),List.drop_eq_nil_of_le (by omega),List.append_nil,Hlm.out] at this
     exact this
    have Hb1:Hid (Below w.heap.size w V0):=HB.out
    clear HO HB
    go_wp2
    go_loopw [7] (fun n wr=>∃ k:Nat,k≤L∧n=.int .i64 k∧Hid (Pl.dt (ls.take k)=D)∧wr=V0) (fun n _=>(Lib.intOf n).toNat)
    case atStart=>exact⟨L,Nat.le_refl _,rfl,(by show _=_;rw[List.take_of_length_le (by omega)];exact Hd.out),rfl⟩
    case round=>
     obtain⟨k,hk,rfl,hp,rfl⟩:=hrel
     by_cases h0:0<k
     ·obtain⟨j,hkj⟩:∃j,k=j+1:=⟨k-1,by omega⟩
      have hj:j<ls.length:=by omega
      have hc:wr.cell? ⟨g,j,none⟩=some (.string ⟨ls[j].toArray⟩):=OwnS.cell Hown.out j hj
      have hidx:(k:Int)-1=(j:Int):=by omega
      have hjL:j<L:=by omega
      have hjk:j<k∧k≤j+1:=by omega
      rw[hkj] at hp
      have HKJ:Hid (k=j+1):=hkj
      clear hkj
      cases he:ls[j].isEmpty
      ·have HD:Hid (ls.take (j+1)=D):=by
        show _=_
        rw[← hp.out,Pl.dt_stop ls j hj he]
       rw[← HKJ.out] at HD
       have HX:Hid (([]:List UInt8)++Pl.ends ((ls.take k).drop 0)=R):=by
        show _=_
        have hne:¬(D=[]):=by
         rw[← HD.out]
         intro e
         have hl:=congrArg List.length e
         rw[List.length_take,List.length_nil] at hl
         omega
        rw[List.drop_zero,HD.out,List.nil_append]
        exact HRne.out hne
       have het:(⟨ls[j].toArray⟩:ByteArray).toList.isEmpty=false:=by rw[ByteArray.toList_eq];exact he
       clear hp he HD
       generalize (⟨ls[j].toArray⟩:ByteArray)=tj at hc het
       obtain⟨V,hV⟩:∃V,V=wr:=⟨_,rfl⟩
       subst hV
       go_wp2
       go_loopw [8,9] (fun u i wr=>∃ (m:Nat) (p:List UInt8),m≤k∧i=.int .i64 m∧p.length≤100002*m∧Hid (p++Pl.ends ((ls.take k).drop m)=R)∧Hid (Own V.heap.size u p wr)∧Hid (Below V.heap.size V wr)) (fun _ i _=>k-(Lib.intOf i).toNat)
       case atStart=>exact⟨0,[],Nat.zero_le _,rfl,by simp,HX,Own.made V.heap.size V (Nat.le_refl _),(Below.refl _ _).alloc (Nat.le_refl _) _⟩
       case round=>
        clear HX
        obtain⟨m,p,hm,rfl,hpl,HX,HO,HB⟩:=hrel
        by_cases hmj:m<k
        ·have hml:m<(ls.take k).length:=by rw[List.length_take];omega
         have hel:(ls.take k)[m]=ls[m]'(by omega):=List.getElem_take
         have HX2:=Pl.ends_step (ls.take k) p R m hml HX
         rw[hel] at HX2
         have hcm:wr.cell? ⟨g,m,none⟩=some (.string ⟨(ls[m]'(by omega)).toArray⟩):=(HB.out.cell (World.block_lt_of_cell? _ _ (OwnS.cell Hown.out m (by omega)))).trans (OwnS.cell Hown.out m (by omega))
         have hsz:(ls[m]'(by omega)).length≤100000:=Hmem.out _ (List.getElem_mem _)
         have hsz2:(⟨(ls[m]'(by omega)).toArray⟩:ByteArray).size≤100000:=by show(ls[m]'(by omega)).toArray.size≤_;rw[List.size_toArray];exact hsz
         have HD2:Hid ((⟨(ls[m]'(by omega)).toArray⟩:ByteArray).data.toList=ls[m]'(by omega)):=show _=_ from rfl
         have hown2:=HO.out
         clear HX hel
         generalize (⟨(ls[m]'(by omega)).toArray⟩:ByteArray)=tm at *
         generalize ls[m]'(by omega)=lm at HX2 HD2 hsz
         go_wp2_with (at_builtin;go_must (first
          | (refine wp_app (W:=V) rfl _ _ 22 rfl i0 Tryz.underlying22 hi hy0 hy1 hy2 V.heap.size v' (p++tm.data.toList) rfl hown' _ [13,10] rfl 2 2 rfl rfl (by simp;omega) (Nat.le_refl _) hb' ?_;intro v3 w3 hown3 hb3)
          | (refine wp_apps (W:=V) rfl _ _ 22 9 rfl i0 Tryz.underlying22 Tryz.underlying9 hi hy0 hy1 hy2 V.heap.size u8 p rfl hown2 tm rfl (by omega) (Nat.le_refl _) HB.out ?_;intro v' w' hown' hb')))
         rw[HD2.out] at hown3
         go_roundw
         case rel=>exact⟨m+1,_,by omega,by go_num,(by simp;omega),HX2,hown3,hb3⟩
         case measure=>simp[Lib.intOf];omega
        ·have hpR:p=R:=by
          rw[← HX.out,List.drop_eq_nil_of_le (by rw[List.length_take];omega)]
          simp[Pl.ends]
         have HpR:Hid (p=R):=hpR
         have hbk:=HO.out.back (P:=Tryz.prog) 22 9 Tryz.underlying22 Tryz.underlying5 Tryz.underlying9
         have hn0:((k:Int)==0)=false:=beq_eq_false_iff_ne.2 (by omega)
         have hbe:=Hb1.out.trans (HB.out.mono Hb1.out.size)
         clear HX hpR HB HO
         go_wp2
         go_ret
         exact⟨by rw[← HpR.out];rfl,hbe⟩
      ·have HN:Hid (Pl.dt (ls.take j)=D):=by
        show _=_
        rw[Pl.dt_step ls j hj he];exact hp.out
       have het:(⟨ls[j].toArray⟩:ByteArray).toList.isEmpty=true:=by rw[ByteArray.toList_eq];exact he
       clear hp he
       generalize (⟨ls[j].toArray⟩:ByteArray)=tj at hc het
       go_wp2
       go_roundw
       case rel=>exact⟨j,by omega,by go_num,HN,trivial⟩
       case measure=>simp[Lib.intOf];omega
     ·obtain rfl:k=0:=by omega
      have HZ:Hid (D=[]):=by
       show _=_
       rw[← hp.out,List.take_zero];rfl
      have HRz:=HRnil.out HZ.out
      have HRz2:Hid (([]:List UInt8)=R):=HRz
      have hbz:Hid (Below w.heap.size w (wr.alloc (.cells #[] 5))):=Hb1.out.alloc Hb1.out.size _
      have hbk:(convert 22 9 (.slice (some ⟨wr.heap.size,0,none⟩) 0 0)).run Tryz.prog (wr.alloc (.cells #[] 5))=.ok (.string ⟨([]:List UInt8).toArray⟩) (wr.alloc (.cells #[] 5)):=(Own.made wr.heap.size wr (Nat.le_refl _)).back (P:=Tryz.prog) 22 9 Tryz.underlying22 Tryz.underlying5 Tryz.underlying9
      clear hp HZ HRz h0
      obtain⟨V,hV⟩:∃V,V=wr:=⟨_,rfl⟩
      subst hV
      go_wp2
      go_loopw [8,9] (fun u i wr=>i=.int .i64 0∧u=.slice (some ⟨V.heap.size,0,none⟩) 0 0∧wr=V.alloc (.cells #[] 5)) (fun _ _ _=>0)
      case atStart=>exact⟨rfl,rfl,rfl⟩
      case round=>
       obtain⟨rfl,rfl,rfl⟩:=hrel
       go_wp2
       go_ret
       exact⟨by rw[← HRz2.out];rfl,hbz.out⟩
def canonAny (s:ByteArray)(x:Int):ByteArray:=if 100000<s.size∨(¬x=0∧¬x=1) then ⟨#[]⟩ else ⟨(canonB s x).toArray⟩
namespace Ps
abbrev P:Nat:=2147483647
def sm (A:Nat):Nat→List UInt8→Nat
 | s,[]=>s
 | s,c::r=>sm A ((s*A+c.toNat+1) % P) r
theorem sm_lt (A:Nat):∀(l:List UInt8)(s:Nat),s<P→sm A s l<P
 | [],s,h=>h
 | c::r,s,h=>by
  rw[sm]
  exact sm_lt A r _ (Nat.mod_lt _ (by decide))
end Ps
open Go.Lib
namespace Pl
end Pl
end Go.Proofs.YtacaoiedcfelcaaGreatDoor
