import Derived.Test.YtibbpmhbgbafhaaGreatDoorBlank
import Derived.Laws.OwnMore
import Derived.Lib.QuietBelow
import Derived.Deep.QuietTactic
import Derived.BigQuiet
import Derived.Deep.RegionWith
import Derived.Laws.IdiomStrings
import Derived.Lib.UnsafeStr
import Derived.WalkSmall
import Derived.Test.YtibbpmhbgbafhaaGreatDoorOwnF
import Derived.Test.YtibbpmhbgbafhaaGreatDoorReadPlain
set_option maxRecDepth 20000
set_option maxHeartbeats 4000000
namespace Go.Proofs.YtibbpmhbgbafhaaGreatDoor
open Go.RowKit Go.Lib
namespace Pl
def rn:Bool→List UInt8→List UInt8
 | _,[]=>[]
 | sp,c::r=>if blank c then (if sp then rn true r else 32::rn true r) else c::rn false r
def lastSp (p:List UInt8):Bool:=p.getLast?==some 32
def bareEnd (p:List UInt8):List UInt8:=if lastSp p then p.dropLast else p
def runs (l:List UInt8):List UInt8:=bareEnd (rn false l)
theorem last_snoc (p:List UInt8)(c:UInt8):lastSp (p ++ [c])=(c==32):=by
 unfold lastSp
 rw[List.getLast?_append,List.getLast?_singleton]
 simp
theorem rn_skip (l p X:List UInt8)(k:Nat)(hk:k<l.length)(hb:blank l[k]=true)(hs:lastSp p=true)(h:Hid (p++rn (lastSp p) (l.drop k)=X)):Hid (p++rn (lastSp p) (l.drop (k+1))=X):=by
 have h:=h.out
 rw[List.drop_eq_getElem_cons hk,rn,if_pos hb,hs,if_pos rfl] at h
 rw[hs]
 exact h
theorem rn_space (l p X:List UInt8)(k:Nat)(hk:k<l.length)(hb:blank l[k]=true)(hs:lastSp p=false)(h:Hid (p++rn (lastSp p) (l.drop k)=X)):Hid ((p ++ [32])++rn (lastSp (p ++ [32])) (l.drop (k+1))=X):=by
 have h:=h.out
 rw[List.drop_eq_getElem_cons hk,rn,if_pos hb,hs,if_neg (by simp)] at h
 show _=_
 rw[last_snoc,show((32:UInt8)==32)=true from rfl,← h]
 simp
theorem rn_byte (l p X:List UInt8)(k:Nat)(hk:k<l.length)(hb:blank l[k]=false)(h:Hid (p++rn (lastSp p) (l.drop k)=X)):Hid ((p ++ [l[k]])++rn (lastSp (p ++ [l[k]])) (l.drop (k+1))=X):=by
 have h:=h.out
 rw[List.drop_eq_getElem_cons hk,rn,if_neg (by rw[hb];simp)] at h
 have h32:(l[k]==32)=false:=by
  unfold blank at hb
  rw[Bool.or_eq_false_iff] at hb
  exact hb.1
 show _=_
 rw[last_snoc,h32,← h]
 simp
theorem rn_end (l p X:List UInt8)(k:Nat)(hk:l.length≤k)(h:Hid (p++rn (lastSp p) (l.drop k)=X)):p=X:=by
 have h:=h.out
 rw[List.drop_eq_nil_of_le hk,rn,List.append_nil] at h
 exact h
theorem last_get (p:List UInt8)(h:0<p.length):lastSp p=(p[p.length-1]==32):=by
 unfold lastSp
 rw[List.getLast?_eq_getElem?,List.getElem?_eq_getElem (by omega)]
 rfl
end Pl
theorem Own.cut {B g n cap:Nat} {p:List UInt8} {w:World} (h:Own B (.slice (some ⟨g,0,none⟩) n cap) p w)(k:Nat)(hk:k≤p.length):Own B (.slice (some ⟨g,0,none⟩) k cap) (p.take k) w:=by
 obtain⟨h1,h2⟩:=h
 have hl:(p.take k).length=k:=by rw[List.length_take];omega
 refine⟨by rw[byteCells_length,Nat.mul_one],.inr ?_⟩
 rcases h2 with ⟨h2,-⟩|⟨g',cap',cur,e1,e2,e3,e4,e5,e6,e7⟩
 ·cases h2
 ·have e8:=e1
  cases e8
  refine⟨g,cap,cur,by rw[hl],e2,e3,by omega,e5,e6,?_⟩
  rw[hl,Nat.mul_one]
  have e9:cur.toList.take p.length=byteCells p:=by rw[← e7,Nat.mul_one]
  have e10:=congrArg (List.take k) e9
  rw[List.take_take,Nat.min_eq_left hk] at e10
  rw[e10]
  simp[byteCells,List.map_take]
set_option maxRecDepth 10000 in
theorem specRuns (s:ByteArray)(w:World)(hs:s.size≤100000) :
  Calls Tryz.prog 44 #[.string s] w fun e w'=>e=.returned (.string ⟨(Pl.runs s.data.toList).toArray⟩)∧Below w.heap.size w w':=by
 obtain⟨i0,hi,hy0,hy1,hy2⟩:=info_parts Tryz.info5
 obtain⟨X,hX⟩:∃X,Pl.rn false s.data.toList=X:=⟨_,rfl⟩
 have HX:Hid (([]:List UInt8)++Pl.rn (Pl.lastSp []) (s.data.toList.drop 0)=X):=hX
 have hR:Pl.runs s.data.toList=Pl.bareEnd X:=by unfold Pl.runs;rw[hX]
 rw[hR]
 clear hX hR
 have Hown0:Hid (Own w.heap.size (.slice (some ⟨w.heap.size,0,none⟩) 0 0) [] (w.alloc (.cells #[] 5))):=Own.made w.heap.size w (Nat.le_refl _)
 go_enter Tryz.func44,Tryz.ntmps44
 go_wp2
 go_loopw [3,4] (fun v i wr=>∃ (k:Nat) (p:List UInt8),k≤s.size∧i=.int .i64 k∧p.length≤k∧Hid (p++Pl.rn (Pl.lastSp p) (s.data.toList.drop k)=X)∧Own w.heap.size v p wr∧Below w.heap.size w wr) (fun _ i _=>s.size-(Lib.intOf i).toNat)
 case atStart=>exact⟨0,[],Nat.zero_le _,rfl,by simp,HX,Hown0.out,(Below.refl _ _).alloc (Nat.le_refl _) _⟩
 case round=>
  clear HX Hown0
  obtain⟨k,p,hk,rfl,hpl,hp,hown,hb⟩:=hrel
  by_cases hlt:k<s.size
  ·have hll:k<s.data.toList.length:=by simpa using hlt
   have hB:=specBlank s[k]
   have h8:s[k].toNat<256:=UInt8.toNat_lt _
   cases hbl:Pl.blank s[k]
   ·have Hn:Hid ((p ++ [s[k]])++Pl.rn (Pl.lastSp (p ++ [s[k]])) (s.data.toList.drop (k+1))=X):=Pl.rn_byte s.data.toList p X k hll hbl hp
    rw[hbl] at hB
    clear hp hbl
    go_wp2_with fail
    refine(hB _).mono ?_
    rintro e w2 ⟨rfl,rfl⟩
    go_wp2_with (at_builtin;go_must (refine wp_app (W:=w) rfl _ _ 22 rfl i0 Tryz.underlying22 hi hy0 hy1 hy2 w.heap.size u3 p rfl hown _ [s[k]] rfl 1 1 rfl rfl (by simp;omega) (Nat.le_refl _) hb ?_;intro v' w' hown' hb'))
    go_roundw
    case rel=>exact⟨k+1,_,by omega,by go_num,(by first|(simp;done)|(simp;omega)),Hn,hown',hb'⟩
    case measure=>simp[Lib.intOf];omega
   ·rw[hbl] at hB
    by_cases h0:p.length=0
    ·obtain rfl:p=[]:=List.length_eq_zero_iff.1 h0
     have Hn:Hid (([] ++ [32])++Pl.rn (Pl.lastSp ([] ++ [32])) (s.data.toList.drop (k+1))=X):=Pl.rn_space s.data.toList [] X k hll hbl rfl hp
     clear hp hbl h0
     rcases hown.form with ⟨rfl,-⟩|⟨g,cap,rfl⟩
     ·go_wp2_with fail
      refine(hB _).mono ?_
      rintro e w2 ⟨rfl,rfl⟩
      go_wp2_with (at_builtin;go_must (refine wp_app (W:=w) rfl _ _ 22 rfl i0 Tryz.underlying22 hi hy0 hy1 hy2 w.heap.size (.slice none 0 0) [] rfl hown _ [32] rfl 1 1 rfl rfl (by first|(simp;done)|(simp;omega)) (Nat.le_refl _) hb ?_;intro v' w' hown' hb'))
      go_roundw
      case rel=>exact⟨k+1,_,by omega,by go_num,(by first|(simp;done)|(simp;omega)),Hn,hown',hb'⟩
      case measure=>simp[Lib.intOf];omega
     ·go_wp2_with fail
      refine(hB _).mono ?_
      rintro e w2 ⟨rfl,rfl⟩
      go_wp2_with (at_builtin;go_must (refine wp_app (W:=w) rfl _ _ 22 rfl i0 Tryz.underlying22 hi hy0 hy1 hy2 w.heap.size (.slice (some ⟨g,0,none⟩) 0 cap) [] rfl hown _ [32] rfl 1 1 rfl rfl (by first|(simp;done)|(simp;omega)) (Nat.le_refl _) hb ?_;intro v' w' hown' hb'))
      go_roundw
      case rel=>exact⟨k+1,_,by omega,by go_num,(by first|(simp;done)|(simp;omega)),Hn,hown',hb'⟩
      case measure=>simp[Lib.intOf];omega
    ·rcases hown.form with ⟨-,hnil⟩|⟨g,cap,rfl⟩
     ·rw[hnil] at h0;exact absurd rfl h0
     ·obtain⟨m,hm⟩:∃m,p.length=m+1:=⟨p.length-1,by omega⟩
      have hml:m<p.length:=by omega
      have hc:=hown.cell m hml
      have hidx:(p.length:Int)-1=(m:Int):=by omega
      have hn0:((p.length:Int)==0)=false:=beq_eq_false_iff_ne.2 (by omega)
      have hlast:Pl.lastSp p=(p[m]==32):=by
       rw[Pl.last_get p (by omega)]
       congr 2
       omega
      cases h32:((p[m].toNat:Int)==32)
      ·have hne:((p[m].toNat:Int) != 32)=true:=by rw[bne,h32];rfl
       have hls:Pl.lastSp p=false:=by rw[hlast];exact beq_eq_false_iff_ne.2 (Pl.byte_ne _ 32 _ rfl h32)
       have Hn:Hid ((p ++ [32])++Pl.rn (Pl.lastSp (p ++ [32])) (s.data.toList.drop (k+1))=X):=Pl.rn_space s.data.toList p X k hll hbl hls hp
       clear hp hbl hlast hls hm
       generalize p[m]=pc at *
       go_wp2_with fail
       refine(hB _).mono ?_
       rintro e w2 ⟨rfl,rfl⟩
       go_wp2_with (at_builtin;go_must (refine wp_app (W:=w) rfl _ _ 22 rfl i0 Tryz.underlying22 hi hy0 hy1 hy2 w.heap.size (.slice (some ⟨g,0,none⟩) p.length cap) p rfl hown _ [32] rfl 1 1 rfl rfl (by first|(simp;done)|(simp;omega)) (Nat.le_refl _) hb ?_;intro v' w' hown' hb'))
       go_roundw
       case rel=>exact⟨k+1,_,by omega,by go_num,(by first|(simp;done)|(simp;omega)),Hn,hown',hb'⟩
       case measure=>simp[Lib.intOf];omega
      ·have hne:((p[m].toNat:Int) != 32)=false:=by rw[bne,h32];rfl
       have hls:Pl.lastSp p=true:=by rw[hlast,Pl.byte_eq _ 32 _ rfl h32];rfl
       have Hn:Hid (p++Pl.rn (Pl.lastSp p) (s.data.toList.drop (k+1))=X):=Pl.rn_skip s.data.toList p X k hll hbl hls hp
       clear hp hbl hlast hls hm
       generalize p[m]=pc at *
       go_wp2_with fail
       refine(hB _).mono ?_
       rintro e w2 ⟨rfl,rfl⟩
       go_wp2
       go_roundw
       case rel=>exact⟨k+1,p,by omega,by go_num,by omega,Hn,hown,hb⟩
       case measure=>simp[Lib.intOf];omega
  ·have hpX:p=X:=Pl.rn_end s.data.toList p X k (by simp;omega) hp
   subst hpX
   clear hp
   by_cases h0:p.length=0
   ·obtain rfl:p=[]:=List.length_eq_zero_iff.1 h0
    have hbk:=hown.back (P:=Tryz.prog) 22 9 Tryz.underlying22 Tryz.underlying5 Tryz.underlying9
    have HR:Hid (Pl.bareEnd []=[]):=rfl
    clear h0
    rcases hown.form with ⟨rfl,-⟩|⟨g,cap,rfl⟩
    ·go_wp2
     go_ret
     exact⟨by rw[HR.out];rfl,hb⟩
    ·have hbk':(convert 22 9 (.slice (some ⟨g,0,none⟩) 0 cap)).run Tryz.prog wr=.ok (.string ⟨([]:List UInt8).toArray⟩) wr:=hbk
     go_wp2
     go_ret
     exact⟨by rw[HR.out];rfl,hb⟩
   ·rcases hown.form with ⟨-,hnil⟩|⟨g,cap,rfl⟩
    ·rw[hnil] at h0;exact absurd rfl h0
    ·obtain⟨m,hm⟩:∃m,p.length=m+1:=⟨p.length-1,by omega⟩
     have hml:m<p.length:=by omega
     have hc:=hown.cell m hml
     have hidx:(p.length:Int)-1=(m:Int):=by omega
     have hn0:(0:Int)<(p.length:Int):=by omega
     have hlast:Pl.lastSp p=(p[m]==32):=by
      rw[Pl.last_get p (by omega)]
      congr 2
      omega
     cases h32:((p[m].toNat:Int)==32)
     ·have hR:Pl.bareEnd p=p:=by
       unfold Pl.bareEnd
       rw[hlast,if_neg (by rw[beq_eq_false_iff_ne.2 (Pl.byte_ne _ 32 _ rfl h32)];simp)]
      have hbk:=hown.back (P:=Tryz.prog) 22 9 Tryz.underlying22 Tryz.underlying5 Tryz.underlying9
      have HR:Hid (Pl.bareEnd p=p):=hR
      clear hR hlast hm
      generalize p[m]=pc at *
      go_wp2
      go_ret
      exact⟨by rw[HR.out];rfl,hb⟩
     ·have hR:Pl.bareEnd p=p.take m:=by
       unfold Pl.bareEnd
       rw[hlast,Pl.byte_eq _ 32 _ rfl h32,if_pos (by decide),List.dropLast_eq_take]
       congr 1
       omega
      have hcut:=hown.cut m (by omega)
      have hbk:=hcut.back (P:=Tryz.prog) 22 9 Tryz.underlying22 Tryz.underlying5 Tryz.underlying9
      have HR:Hid (Pl.bareEnd p=p.take m):=hR
      have hmc:m≤cap:=by
       rcases hown.2 with ⟨h2,-⟩|⟨g',cap',cur,e1,e2,e3,e4,-⟩
       ·cases h2
       ·cases e1;omega
      clear hR hlast hm hcut
      generalize p[m]=pc at *
      go_wp2
      go_ret
      exact⟨by rw[HR.out];rfl,hb⟩
namespace Pl
def endB (l:List UInt8):List UInt8:=(l.reverse.dropWhile blank).reverse
def trimB (l:List UInt8):List UInt8:=endB (l.dropWhile blank)
theorem tail_list (t:ByteArray):(t.extract 1 t.size).data.toList=t.data.toList.drop 1:=by
 rw[ext_data,List.take_of_length_le (by simp)]
theorem drop_head (t:ByteArray)(h:0<t.size)(hb:blank t[0]=true):(t.data.toList.drop 1).dropWhile blank=t.data.toList.dropWhile blank:=by
 obtain⟨⟨l⟩⟩:=t
 match l,h,hb with
 | c::r,_,hb=>
  show r.dropWhile blank=(c::r).dropWhile blank
  rw[List.dropWhile_cons,if_pos (show blank c=true from hb)]
theorem keep_head (t:ByteArray)(h:0<t.size)(hb:blank t[0]=false):t.data.toList.dropWhile blank=t.data.toList:=by
 obtain⟨⟨l⟩⟩:=t
 match l,h,hb with
 | c::r,_,hb=>
  show(c::r).dropWhile blank=c::r
  rw[List.dropWhile_cons,if_neg (by rw[show blank c=false from hb];simp)]
theorem snoc_list (t:ByteArray)(h:0<t.size):t.data.toList=(t.extract 0 (t.size-1)).data.toList ++ [t[t.size-1]]:=by
 rw[ext_data,List.drop_zero,Nat.sub_zero]
 have hl:t.data.toList.length=t.size:=len_list t
 have e:t.data.toList=t.data.toList.take (t.size-1)++t.data.toList.drop (t.size-1):=(List.take_append_drop _ _).symm
 have d:t.data.toList.drop (t.size-1)=[t[t.size-1]]:=by
  rw[List.drop_eq_getElem_cons (by omega),List.drop_eq_nil_of_le (by omega)]
  rfl
 rw[d] at e
 exact e
theorem drop_last (t:ByteArray)(h:0<t.size)(hb:blank (t[t.size-1])=true):endB (t.extract 0 (t.size-1)).data.toList=endB t.data.toList:=by
 conv=>rhs;rw[snoc_list t h]
 unfold endB
 rw[List.reverse_append,List.reverse_singleton,List.singleton_append,List.dropWhile_cons,if_pos hb]
theorem keep_last (t:ByteArray)(h:0<t.size)(hb:blank (t[t.size-1])=false):endB t.data.toList=t.data.toList:=by
 have e:=snoc_list t h
 unfold endB
 rw[e,List.reverse_append,List.reverse_singleton,List.singleton_append,List.dropWhile_cons,if_neg (by rw[hb];simp),List.reverse_cons,List.reverse_reverse]
theorem endB_nil (t:ByteArray)(h:¬0<t.size):endB t.data.toList=t.data.toList:=by
 have:t.data.toList=[]:=List.length_eq_zero_iff.1 (by rw[len_list];omega)
 rw[this];rfl
theorem dropW_nil (t:ByteArray)(h:¬0<t.size):t.data.toList.dropWhile blank=t.data.toList:=by
 have:t.data.toList=[]:=List.length_eq_zero_iff.1 (by rw[len_list];omega)
 rw[this];rfl
theorem mk_list (t:ByteArray)(R:List UInt8)(h:t.data.toList=R):t=⟨R.toArray⟩:=by
 rw[← h]
end Pl
theorem specTrimB (s:ByteArray)(w:World)(_hs:s.size≤1100000) :
  Calls Tryz.prog 69 #[.string s] w fun e w'=>e=.returned (.string ⟨(Pl.trimB s.data.toList).toArray⟩)∧w=w':=by
 obtain⟨R,hR⟩:∃R,Pl.trimB s.data.toList=R:=⟨_,rfl⟩
 have HR:Hid (Pl.endB (s.data.toList.dropWhile Pl.blank)=R):=hR
 rw[hR]
 clear hR
 go_enter Tryz.func69,Tryz.ntmps69
 go_wp2
 go_loopw [0] (fun x wr=>∃ t:ByteArray,t.size≤s.size∧x=.string t∧Hid (t.data.toList.dropWhile Pl.blank=s.data.toList.dropWhile Pl.blank)∧wr=w) (fun x _=>match x with | .string t=>t.size|_=>0)
 case atStart=>exact⟨s,Nat.le_refl _,rfl,rfl,rfl⟩
 case round=>
  obtain⟨t,ht,rfl,hp,rfl⟩:=hrel
  by_cases h0:0<t.size
  ·have h8:t[0].toNat<256:=UInt8.toNat_lt _
   have hc:=fun w=>specBlank t[0] w
   cases hb:Pl.blank t[0]<;>simp only[hb] at hc
   ·have HE:Hid (Pl.endB t.data.toList=R):=by
     show _=_
     rw[← HR.out,← hp.out,Pl.keep_head t h0 hb]
    clear hb
    go_wp2_with fail
    refine(hc _).mono ?_
    rintro e w2 ⟨rfl,rfl⟩
    go_wp2
    go_loopw [0] (fun x wx=>∃ t:ByteArray,t.size≤s.size∧x=.string t∧Hid (Pl.endB t.data.toList=R)∧wx=wr) (fun x _=>match x with | .string t=>t.size|_=>0)
    case atStart=>exact⟨t,ht,rfl,HE,rfl⟩
    case round=>
     clear hp ht
     obtain⟨t,ht,rfl,hp,rfl⟩:=hrel
     by_cases h0:0<t.size
     ·have h8:t[t.size-1].toNat<256:=UInt8.toNat_lt _
      have hc:=fun w=>specBlank t[t.size-1] w
      cases hb:Pl.blank t[t.size-1]<;>simp only[hb] at hc
      ·have Hb:Hid (t=⟨R.toArray⟩):=Pl.mk_list t R (by rw[← hp.out,Pl.keep_last t h0 hb])
       clear hb hp
       go_wp2_with fail
       refine(hc _).mono ?_
       rintro e w2 ⟨rfl,rfl⟩
       go_wp2
       go_ret
       exact⟨by rw[← Hb.out];rfl,rfl⟩
      ·have Hb:Hid (Pl.endB (t.extract 0 (t.size-1)).data.toList=R):=by
        show _=_
        rw[Pl.drop_last t h0 hb];exact hp.out
       clear hb hp
       go_wp2_with fail
       refine(hc _).mono ?_
       rintro e w2 ⟨rfl,rfl⟩
       go_wp2
       go_roundw
       case rel=>exact⟨_,by simp;omega,rfl,Hb,trivial⟩
       case measure=>simp;omega
     ·have Hb:Hid (t=⟨R.toArray⟩):=Pl.mk_list t R (by rw[← hp.out,Pl.endB_nil t h0])
      clear hp
      go_wp2
      go_ret
      exact⟨by rw[← Hb.out];rfl,rfl⟩
   ·have Hb:Hid ((t.extract 1 t.size).data.toList.dropWhile Pl.blank=s.data.toList.dropWhile Pl.blank):=by
     show _=_
     rw[Pl.tail_list,Pl.drop_head t h0 hb];exact hp.out
    clear hb hp
    go_wp2_with fail
    refine(hc _).mono ?_
    rintro e w2 ⟨rfl,rfl⟩
    go_wp2
    go_roundw
    case rel=>exact⟨_,by simp;omega,rfl,Hb,trivial⟩
    case measure=>simp;omega
  ·have HE:Hid (Pl.endB t.data.toList=R):=by
    show _=_
    rw[← HR.out,← hp.out,Pl.dropW_nil t h0]
   go_wp2
   go_loopw [0] (fun x wx=>∃ t:ByteArray,t.size≤s.size∧x=.string t∧Hid (Pl.endB t.data.toList=R)∧wx=wr) (fun x _=>match x with | .string t=>t.size|_=>0)
   case atStart=>exact⟨t,ht,rfl,HE,rfl⟩
   case round=>
    clear hp ht
    obtain⟨t,ht,rfl,hp,rfl⟩:=hrel
    by_cases h0:0<t.size
    ·have h8:t[t.size-1].toNat<256:=UInt8.toNat_lt _
     have hc:=fun w=>specBlank t[t.size-1] w
     cases hb:Pl.blank t[t.size-1]<;>simp only[hb] at hc
     ·have Hb:Hid (t=⟨R.toArray⟩):=Pl.mk_list t R (by rw[← hp.out,Pl.keep_last t h0 hb])
      clear hb hp
      go_wp2_with fail
      refine(hc _).mono ?_
      rintro e w2 ⟨rfl,rfl⟩
      go_wp2
      go_ret
      exact⟨by rw[← Hb.out];rfl,rfl⟩
     ·have Hb:Hid (Pl.endB (t.extract 0 (t.size-1)).data.toList=R):=by
       show _=_
       rw[Pl.drop_last t h0 hb];exact hp.out
      clear hb hp
      go_wp2_with fail
      refine(hc _).mono ?_
      rintro e w2 ⟨rfl,rfl⟩
      go_wp2
      go_roundw
      case rel=>exact⟨_,by simp;omega,rfl,Hb,trivial⟩
      case measure=>simp;omega
    ·have Hb:Hid (t=⟨R.toArray⟩):=Pl.mk_list t R (by rw[← hp.out,Pl.endB_nil t h0])
     clear hp
     go_wp2
     go_ret
     exact⟨by rw[← Hb.out];rfl,rfl⟩
theorem mkH {p:Prop} (h:p):Hid p:=h
def small (c:UInt8):UInt8:=if 65≤c.toNat∧c.toNat≤90 then UInt8.ofNat (c.toNat+32) else c
def lower (l:List UInt8):List UInt8:=l.map small
theorem small_yes (c:UInt8)(h:65≤c.toNat∧c.toNat≤90):((small c).toNat:Int)=(c.toNat:Int)+32:=by
 unfold small
 rw[if_pos h,UInt8.toNat_ofNat_of_lt' (by simp[UInt8.size];omega)]
 omega
theorem small_no (c:UInt8)(h:¬(65≤c.toNat∧c.toNat≤90)):small c=c:=by
 unfold small
 rw[if_neg h]
def lowTo (l:List UInt8)(k:Nat):List UInt8:=lower (l.take k)++l.drop k
theorem lowTo_len (l:List UInt8)(k:Nat):(lowTo l k).length=l.length:=by
 simp only[lowTo,lower,List.length_append,List.length_map,List.length_take,List.length_drop];omega
theorem lowTo_zero (l:List UInt8):lowTo l 0=l:=by simp[lowTo,lower]
theorem lowTo_all (l:List UInt8)(k:Nat)(h:l.length≤k):lowTo l k=lower l:=by
 rw[lowTo,List.take_of_length_le h,List.drop_eq_nil_of_le h,List.append_nil]
theorem lowTo_get (l:List UInt8)(k:Nat)(h:k<l.length):(lowTo l k)[k]'(by rw[lowTo_len];exact h)=l[k]:=by
 simp only[lowTo,lower]
 rw[List.getElem_append_right (by simp;omega)]
 simp[List.length_take,Nat.min_eq_left (Nat.le_of_lt h)]
theorem lowTo_set (l:List UInt8)(k:Nat)(h:k<l.length):(lowTo l k).set k (small l[k])=lowTo l (k+1):=by
 have e1:l.take (k+1)=l.take k ++ [l[k]]:=by rw[List.take_succ_eq_append_getElem h]
 have hl:(lower (l.take k)).length=k:=by simp[lower];omega
 rw[lowTo,List.set_append,if_neg (by omega),hl,Nat.sub_self,List.drop_eq_getElem_cons h,List.set_cons_zero,lowTo,e1,lower,lower,List.map_append,List.append_assoc]
 rfl
theorem lowTo_same (l:List UInt8)(k:Nat)(h:k<l.length)(hs:small l[k]=l[k]):lowTo l k=lowTo l (k+1):=by
 rw[← lowTo_set l k h,hs,← lowTo_get l k h,List.set_getElem_self]
def HoldsB (g:Nat)(p:List UInt8)(w:World):Prop:=∀(j:Nat)(hj:j<p.length),w.cell? ⟨g,j,none⟩=some (.int .u8 (p[j].toNat:Int))∧w.frozen? ⟨g,j,none⟩=false
theorem HoldsB.back {P:Program} {g cap:Nat} {p:List UInt8} {w:World} (h:HoldsB g p w)(src dst:TypeId)(hs:P.underlying src=some (.slice 5))(he:P.underlying 5=some (.int .u8))(hd:P.underlying dst=some .string) :
  (convert src dst (.slice (some ⟨g,0,none⟩) p.length cap)).run P w=.ok (.string ⟨p.toArray⟩) w:=
 run_convert_bytes_back w src dst 5 ⟨g,0,none⟩ cap p hs he hd (fun j hj=>by rw[add_off];exact(h j hj).1)
theorem bytesOf {P:Program} (src dst:TypeId)(hs:P.underlying src=some .string)(hd:P.underlying dst=some (.slice 5))(he:P.underlying 5=some (.int .u8))(s:ByteArray)(w:World) :
  ∃ cap W,(convert src dst (.string s)).run P w=.ok (.slice (some ⟨w.heap.size,0,none⟩) s.size cap) W∧HoldsB w.heap.size s.data.toList W∧Below w.heap.size w W:=by
 refine⟨_,_,run_bytes_of_string w src dst 5 s hs hd he,?_,(Below.refl _ _).drew.alloc (Nat.le_refl _) _⟩
 intro j hj
 have hj':j<s.data.size:=by simpa using hj
 have hsz:j<(bytesRow s (grownCap w s.size 0 5)).size:=by
  simp only[bytesRow,Array.size_append,Array.size_map];omega
 constructor
 ·have e:=World.cell?_alloc_mark w.drew (bytesRow s (grownCap w s.size 0 5)) 5 ((bytesRow s (grownCap w s.size 0 5)).size,(bytesRow s (grownCap w s.size 0 5)).size+1) j
  refine e.trans ?_
  unfold bytesRow
  rw[Array.getElem?_append_left (by simpa using hj')]
  rw[Array.getElem?_map,Array.getElem?_eq_getElem hj']
  rfl
 ·have e:=World.frozen?_alloc_mark w.drew (bytesRow s (grownCap w s.size 0 5)) 5 (bytesRow s (grownCap w s.size 0 5)).size ((bytesRow s (grownCap w s.size 0 5)).size+1) j
  refine e.trans ?_
  simp only[Bool.and_eq_false_imp,decide_eq_true_eq,decide_eq_false_iff_not]
  omega
theorem HoldsB.set {g:Nat} {p:List UInt8} {w:World} (h:HoldsB g p w)(k:Nat)(hk:k<p.length)(c:UInt8):HoldsB g (p.set k c) (w.setCell ⟨g,k,none⟩ (.int .u8 (c.toNat:Int))):=by
 intro j hj
 have hj':j<p.length:=by simpa using hj
 refine⟨?_,by rw[World.frozen?_setCell];exact(h j hj').2⟩
 by_cases e:k=j
 ·subst e
  rw[World.cell?_setCell_same w _ _ (h k hk).1,List.getElem_set_self]
 ·rw[World.cell?_setCell_other w ⟨g,k,none⟩ ⟨g,j,none⟩ _ (by simp),List.getElem_set_ne e]
  exact(h j hj').1
theorem implLoweredB (s:ByteArray)(w:World)(hs:s.size≤4000000) :
  Calls Tryz.prog 54 #[.string s] w fun e w'=>e=.returned (.string ⟨(lower s.data.toList).toArray⟩)∧Below w.heap.size w w':=by
 obtain⟨cap,W,hcv,hh,hbW⟩:=bytesOf (P:=Tryz.prog) 9 22 Tryz.underlying9 Tryz.underlying22 Tryz.underlying5 s w
 go_enter Tryz.func54,Tryz.ntmps54
 go_wp2
 clear hcv
 go_loopw [10] (fun i wr=>∃ k:Nat,k≤s.size∧i=.int .i64 k∧HoldsB w.heap.size (lowTo s.data.toList k) wr∧Below w.heap.size w wr) (fun i _=>s.size-(Lib.intOf i).toNat)
 case atStart=>exact⟨0,by omega,rfl,by rw[lowTo_zero];exact hh,hbW⟩
 case round=>
  obtain⟨k,hk,rfl,hold,hb⟩:=hrel
  have hll:s.data.toList.length=s.size:=by simp
  by_cases hlt:k<s.size
  ·obtain⟨hc,hf⟩:=hold k (by rw[lowTo_len];omega)
   rw[lowTo_get _ _ (by omega)] at hc
   have hset:=lowTo_set s.data.toList k (by omega)
   have hsame:=lowTo_same s.data.toList k (by omega)
   have hst:=fun c=>hold.set k (by rw[lowTo_len];omega) c
   generalize s.data.toList[k]=c at hc hset hsame
   have h8:c.toNat<256:=UInt8.toNat_lt _
   by_cases hc1:65≤c.toNat∧c.toNat≤90
   ·have hv:=small_yes c hc1
    have hst':=mkH (hst (small c))
    rw[hset,hv] at hst'
    obtain⟨h65,h90⟩:=hc1
    clear hset hsame hst hold hv hll
    have hb':=hb.setCell (p:=⟨w.heap.size,k,none⟩) (Nat.le_refl _) (.int .u8 ((c.toNat:Int)+32))
    have hb'':=mkH hb'
    clear hb'
    go_wp2
    rw[show(c.toNat:Int)-65+97=(c.toNat:Int)+32 by omega]
    go_roundw
    case rel=>exact⟨k+1,by omega,by go_num,hst'.out,hb''.out⟩
    case measure=>simp[Lib.intOf];omega
   ·have hv:=mkH (hsame (small_no c hc1))
    clear hset hsame hst hll
    by_cases h65:65≤c.toNat
    ·have h90:90<c.toNat:=by omega
     clear hc1
     go_wp2
     go_roundw
     case rel=>exact⟨k+1,by omega,by go_num,by rw[← hv.out];exact hold,hb⟩
     case measure=>simp[Lib.intOf];omega
    ·clear hc1
     go_wp2
     go_roundw
     case rel=>exact⟨k+1,by omega,by go_num,by rw[← hv.out];exact hold,hb⟩
     case measure=>simp[Lib.intOf];omega
  ·rw[lowTo_all _ _ (by omega)] at hold
   have hlen:(lower s.data.toList).length=s.size:=by simp[lower]
   have hbk:=hold.back (P:=Tryz.prog) (cap:=cap) 22 9 Tryz.underlying22 Tryz.underlying5 Tryz.underlying9
   rw[hlen] at hbk
   clear hlen hll hold
   go_wp2
   go_ret
   exact⟨rfl,hb⟩
theorem implLowered (s:ByteArray)(w:World)(hs:s.size≤100000) :
  Calls Tryz.prog 54 #[.string s] w fun e w'=>e=.returned (.string ⟨(lower s.data.toList).toArray⟩)∧Below w.heap.size w w':=implLoweredB s w (by omega)
theorem specSmall (c:UInt8)(w:World) :
  Calls Tryz.prog 112 #[.int .u8 (c.toNat:Int)] w fun e w'=>e=.returned (.int .u8 ((small c).toNat:Int))∧w=w':=by
 have h8:c.toNat<256:=UInt8.toNat_lt _
 by_cases hc:65≤c.toNat∧c.toNat≤90
 ·rw[small_yes c hc]
  obtain⟨h65,h90⟩:=hc
  go_enter Tryz.func112,Tryz.ntmps112
  go_wp2
  go_ret
  exact⟨rfl,rfl⟩
 ·rw[small_no c hc]
  by_cases h65:65≤c.toNat
  ·have h90:90<c.toNat:=by omega
   clear hc
   go_enter Tryz.func112,Tryz.ntmps112
   go_wp2
   go_ret
   exact⟨rfl,rfl⟩
  ·clear hc
   go_enter Tryz.func112,Tryz.ntmps112
   go_wp2
   go_ret
   exact⟨rfl,rfl⟩
theorem specLower (s:ByteArray)(w:World)(hs:s.size≤100000) :
  Calls Tryz.prog 68 #[.string s] w fun e w'=>e=.returned (.string ⟨(lower s.data.toList).toArray⟩)∧Below w.heap.size w w':=by
 obtain⟨i0,hi,hz0,hz1,hz2⟩:=info_parts Tryz.info5
 go_enter Tryz.func68,Tryz.ntmps68
 go_wp2
 go_loopw [3,4] (fun v i wr=>∃ k:Nat,k≤s.size∧i=.int .i64 k∧Own w.heap.size v (lower (s.data.toList.take k)) wr∧Below w.heap.size w wr) (fun _ i _=>s.size-(Lib.intOf i).toNat)
 case atStart=>exact⟨0,Nat.zero_le _,rfl,Own.made _ _ (Nat.le_refl _),(Below.refl _ _).alloc (Nat.le_refl _) _⟩
 case round=>
  obtain⟨k,hk,rfl,hown,hb⟩:=hrel
  by_cases hlt:k<s.size
  ·have hll:s.data.toList.length=s.size:=by simp
   have hlen:(lower (s.data.toList.take k)).length=k:=by simp only[lower,List.length_map,List.length_take];omega
   have hstep:Hid (lower (s.data.toList.take k) ++ [small s[k]]=lower (s.data.toList.take (k+1))):=by
    rw[List.take_succ_eq_append_getElem (by omega),lower,lower,List.map_append];exact rfl
   have h8:(small s[k]).toNat<256:=UInt8.toNat_lt _
   generalize lower (s.data.toList.take k)=p at *
   clear hll
   go_wp2_with fail
   refine(specSmall s[k] _).mono ?_
   rintro e w2 ⟨rfl,rfl⟩
   generalize small s[k]=c at *
   go_wp2_with (at_builtin;go_must (refine wp_app (W:=w) rfl _ _ 22 rfl i0 Tryz.underlying22 hi hz0 hz1 hz2 w.heap.size u3 p rfl hown _ [c] rfl 1 1 rfl rfl (by simp;omega) (Nat.le_refl _) hb ?_;intro v' w' hown' hb'))
   go_roundw
   case rel=>exact⟨k+1,by omega,by go_num,by rw[← hstep.out];exact hown',hb'⟩
   case measure=>simp[Lib.intOf];omega
  ·rw[List.take_of_length_le (by simp;omega)] at hown
   have hbk:=hown.back (P:=Tryz.prog) 22 9 Tryz.underlying22 Tryz.underlying5 Tryz.underlying9
   go_wp2
   go_ret
   exact⟨rfl,hb⟩
def relaxV (v:ByteArray):List UInt8:=Pl.trimB (Pl.runs (Pl.unf false v.data.toList))
def canonF (n v:ByteArray)(x:Int):ByteArray:=
 if Pl.hd [] [(n,v)]=[] then ⟨#[]⟩
 else if x=0 then n++⟨#[58]⟩++v++⟨#[13,10]⟩
 else if x=1 then ⟨(lower n.data.toList).toArray⟩++⟨#[58]⟩++⟨(relaxV v).toArray⟩++⟨#[13,10]⟩
 else ⟨#[]⟩
namespace Pl
theorem rn_len:∀(l:List UInt8)(b:Bool),(rn b l).length≤l.length
 | [],b=>by simp[rn]
 | c::r,b=>by
  have h1:=rn_len r true
  have h2:=rn_len r false
  rw[rn]
  split
  ·split
   ·simp;omega
   ·simp;omega
  ·simp;omega
theorem runs_len (l:List UInt8):(runs l).length≤l.length:=by
 have:=rn_len l false
 unfold runs bareEnd
 split
 ·rw[List.length_dropLast];omega
 ·exact this
theorem dropW_len:∀(l:List UInt8),(l.dropWhile blank).length≤l.length
 | []=>by simp
 | c::r=>by
  rw[List.dropWhile_cons]
  split
  ·have:=dropW_len r;simp;omega
  ·simp
theorem trimB_len (l:List UInt8):(trimB l).length≤l.length:=by
 unfold trimB endB
 rw[List.length_reverse]
 have h1:=dropW_len (l.dropWhile blank).reverse
 have h2:=dropW_len l
 rw[List.length_reverse] at h1
 omega
end Pl
theorem hd_one (n v:ByteArray)(h:¬Pl.hd [] [(n,v)]=[]):n.size≤100000∧v.size≤100000:=by
 rw[Pl.hd] at h
 split at h
 ·split at h
  ·exact absurd rfl h
  ·rename_i hl
   rw[List.nil_append,Pl.line_len] at hl
   exact⟨by show n.size≤_;simp at hl;omega,by show v.size≤_;simp at hl;omega⟩
 ·exact absurd rfl h
theorem one_fld (n v:ByteArray)(w:World):Fld (((w.alloc (.cells #[.string n,.string v] 56)).alloc (.cells #[.string n,.string v] 56))).heap.size ((w.alloc (.cells #[.string n,.string v] 56)).alloc (.cells #[.string n,.string v] 56)) (some ⟨w.heap.size+1,0,none⟩) [(n,v)]:=by
 intro i hi
 obtain rfl:i=0:=by simp at hi;omega
 refine⟨_,rfl,by simp,?_,?_⟩
 ·rw[add_off];simp
 ·rw[add_off];simp
theorem specCanonField (n v:ByteArray)(x:Int)(w:World)(hn:n.size≤1048576)(hv:v.size≤1048576) :
  Calls Tryz.prog 47 #[.agg #[.string n,.string v],.int .i64 x] w fun e w'=>e=.returned (.string (canonF n v x))∧Below w.heap.size w w':=by
 have hW:=specWriteHead (some ⟨w.heap.size+1,0,none⟩) [(n,v)] 1 _ (one_fld n v w) (by simp) (fun f hf=>by obtain rfl:=List.mem_singleton.1 hf;exact⟨hn,hv⟩)
 have hA:Below w.heap.size w ((w.alloc (.cells #[.string n,.string v] 56)).alloc (.cells #[.string n,.string v] 56)):=((Below.refl _ _).alloc (Nat.le_refl _) _).alloc (by simp) _
 have hk:((w.alloc (.cells #[.string n,.string v] 56)).alloc (.cells #[.string n,.string v] 56)).cell? ⟨w.heap.size,0,none⟩=some (.string n)∧((w.alloc (.cells #[.string n,.string v] 56)).alloc (.cells #[.string n,.string v] 56)).cell? ⟨w.heap.size,1,none⟩=some (.string v):=by
  constructor<;>simp[World.cell?_alloc_old]
 obtain⟨T,hT⟩:∃T:ByteArray,T=⟨(Pl.hd [] [(n,v)]).toArray⟩:=⟨_,rfl⟩
 rw[← hT] at hW
 have HT:Hid (T.toList.isEmpty=true↔Pl.hd [] [(n,v)]=[]):=show _↔_ from by
  rw[hT,ByteArray.toList_eq]
  simp
 clear hT
 obtain⟨R,hR⟩:∃R,canonF n v x=R:=⟨_,rfl⟩
 have HR:Hid (canonF n v x=R):=hR
 rw[hR]
 clear hR
 go_enter Tryz.func47,Tryz.ntmps47
 go_wp2_with fail
 refine hW.mono ?_
 rintro e w2 ⟨rfl,hb2⟩
 have Hbw:Hid (Below w.heap.size w w2):=hA.trans (hb2.mono hA.size)
 have k0:=(hb2.cell (World.block_lt_of_cell? _ _ hk.1)).trans hk.1
 have k1:=(hb2.cell (World.block_lt_of_cell? _ _ hk.2)).trans hk.2
 clear hW hA hb2 hk
 cases hTe:T.toList.isEmpty
 ·have hne:¬Pl.hd [] [(n,v)]=[]:=fun e=>by have:=HT.out.2 e;rw[hTe] at this;cases this
  have hs:=hd_one n v hne
  have Hne:Hid (¬Pl.hd [] [(n,v)]=[]):=hne
  clear hne HT
  by_cases h0:x=0
  ·have e0:(x==0)=true:=by rw[h0];rfl
   have H0:Hid (x=0):=h0
   clear h0
   go_wp2
   go_ret
   exact⟨by rw[← HR.out,canonF,if_neg Hne.out,if_pos H0.out];rfl,Hbw.out⟩
  ·have e0:(x==0)=false:=beq_eq_false_iff_ne.2 h0
   have H0:Hid (¬x=0):=h0
   clear h0
   by_cases h1:x=1
   ·have e1:(x==1)=true:=by rw[h1];rfl
    have H1:Hid (x=1):=h1
    clear h1
    have hlu:(Pl.unf false v.data.toList).length≤100000:=by
     have:=Pl.unf_len v.data.toList false
     rw[Pl.len_list] at this
     omega
    have hlr:(Pl.runs (Pl.unf false v.data.toList)).length≤100000:=Nat.le_trans (Pl.runs_len _) hlu
    have hlt:(relaxV v).length≤100000:=Nat.le_trans (Pl.trimB_len _) hlr
    have bs:∀l:List UInt8,l.length≤100000→(⟨l.toArray⟩:ByteArray).size≤100000:=fun l h=>by show l.toArray.size≤_;rw[List.size_toArray];exact h
    have hL:=fun w=>specLower n w hs.1
    have hU:=fun w=>specUnfold v w hs.2
    have hN:=fun w=>specRuns ⟨(Pl.unf false v.data.toList).toArray⟩ w (bs _ hlu)
    have hM:=fun w=>specTrimB ⟨(Pl.runs (Pl.unf false v.data.toList)).toArray⟩ w (Nat.le_trans (bs _ hlr) (by omega))
    have zl:(⟨(lower n.data.toList).toArray⟩:ByteArray).size≤100000:=bs _ (by unfold lower;rw[List.length_map,Pl.len_list];exact hs.1)
    have zt:(⟨(relaxV v).toArray⟩:ByteArray).size≤100000:=bs _ hlt
    have HR2:Hid ((⟨(lower n.data.toList).toArray⟩:ByteArray)++⟨#[58]⟩++⟨(relaxV v).toArray⟩++⟨#[13,10]⟩=R):=by
     show _=_
     rw[← HR.out,canonF,if_neg Hne.out,if_neg H0.out,if_pos H1.out]
    have hM2:∀w:World,Calls Tryz.prog 69 #[.string ⟨(Pl.runs (Pl.unf false v.data.toList)).toArray⟩] w fun e w'=>e=.returned (.string ⟨(relaxV v).toArray⟩)∧w=w':=hM
    have hN2:∀w:World,Calls Tryz.prog 44 #[.string ⟨(Pl.unf false v.data.toList).toArray⟩] w fun e w'=>e=.returned (.string ⟨(Pl.runs (Pl.unf false v.data.toList)).toArray⟩)∧Below w.heap.size w w':=hN
    clear hM hN HR Hne H0 H1 hlu hlr hlt bs
    generalize (⟨(relaxV v).toArray⟩:ByteArray)=tt at *
    generalize (⟨(Pl.runs (Pl.unf false v.data.toList)).toArray⟩:ByteArray)=tr at *
    generalize (⟨(Pl.unf false v.data.toList).toArray⟩:ByteArray)=tu at *
    generalize (⟨(lower n.data.toList).toArray⟩:ByteArray)=tl at *
    have k0':=cell_regrown k0
    have k1':=cell_regrown k1
    have cL:∀d os,Calls Tryz.prog 68 #[.string n] (Go.Sort.grow (redrawn w2 d) os) fun e w''=>e=.returned (.string tl)∧∃p:Regrown,w''=Go.Sort.grow (redrawn w2 p.d) p.os:=fun d os=>Calls.regrown_of (hL _)
    have cU:∀d os,Calls Tryz.prog 70 #[.string v] (Go.Sort.grow (redrawn w2 d) os) fun e w''=>e=.returned (.string tu)∧∃p:Regrown,w''=Go.Sort.grow (redrawn w2 p.d) p.os:=fun d os=>Calls.regrown_of (hU _)
    have cN:∀d os,Calls Tryz.prog 44 #[.string tu] (Go.Sort.grow (redrawn w2 d) os) fun e w''=>e=.returned (.string tr)∧∃p:Regrown,w''=Go.Sort.grow (redrawn w2 p.d) p.os:=fun d os=>Calls.regrown_of (hN2 _)
    have cM:∀d os,Calls Tryz.prog 69 #[.string tr] (Go.Sort.grow (redrawn w2 d) os) fun e w''=>e=.returned (.string tt)∧∃p:Regrown,w''=Go.Sort.grow (redrawn w2 p.d) p.os:=fun d os=>Calls.regrown_of ((hM2 _).mono fun e w' ⟨he,hw⟩=>⟨he,by rw[hw];exact Below.refl _ _⟩)
    have HL:=(show Hid _ from cL)
    have HU:=(show Hid _ from cU)
    have HN:=(show Hid _ from cN)
    have HM:=(show Hid _ from cM)
    clear cL cU cN cM hL hU hN2 hM2
    have n0:¬9223372036854775807<tl.size+1:=by omega
    have n1:¬9223372036854775807<tl.size+1+tt.size:=by omega
    have n2:¬9223372036854775807<tl.size+1+tt.size+2:=by omega
    go_wp2
    refine wp_region_quiet_below (by kernel_rfl) (by kernel_rfl) ?_
    quiet_step (fail)
    quiet_step (fail)
    quiet_step (exact HL.out _ _)
    quiet_step (fail)
    quiet_step (fail)
    quiet_step (fail)
    quiet_step (exact HU.out _ _)
    quiet_step (exact HN.out _ _)
    quiet_step (exact HM.out _ _)
    repeat (quiet_step (fail))
    refine wpQuiet_nil ?_
    intro _ hw'
    obtain⟨⟨dq,osq⟩,hw''⟩:=hw'
    subst hw''
    have hbq:=Hbw.out.trans ((below_regrown w2 dq osq).mono Hbw.out.size)
    go_wp2
    go_ret
    exact⟨by rw[← HR2.out];rfl,hbq⟩
   ·have e1:(x==1)=false:=beq_eq_false_iff_ne.2 h1
    have H1:Hid (¬x=1):=h1
    clear h1
    go_wp2
    go_ret
    exact⟨by rw[← HR.out,canonF,if_neg Hne.out,if_neg H0.out,if_neg H1.out];rfl,Hbw.out⟩
 ·have he:Pl.hd [] [(n,v)]=[]:=HT.out.1 hTe
  have He:Hid (Pl.hd [] [(n,v)]=[]):=he
  clear he HT
  go_wp2
  go_ret
  exact⟨by rw[← HR.out,canonF,if_pos He.out];rfl,Hbw.out⟩
end Go.Proofs.YtibbpmhbgbafhaaGreatDoor
