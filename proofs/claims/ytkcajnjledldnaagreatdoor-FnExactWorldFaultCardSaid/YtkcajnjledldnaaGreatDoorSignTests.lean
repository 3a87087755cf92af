import Derived.Test.YtkcajnjledldnaaGreatDoorPhraseImpl
import Derived.Test.YtkcajnjledldnaaGreatDoorTk
import Derived.Test.YtkcajnjledldnaaGreatDoorGenBase
import Derived.Test.YtkcajnjledldnaaGreatDoorChecked
import Derived.WalkKit
import Derived.WalkLawsBesides
import Derived.WalkSpells
import Derived.WalkSmall
import Derived.Below
import Derived.Lib.Agree
import Derived.Lib.QuietBelow
import Derived.Deep.QuietTactic
import Derived.BigQuiet
import Derived.Deep.RegionWith
set_option maxRecDepth 20000
set_option maxHeartbeats 2000000
namespace Go.Proofs.YtkcajnjledldnaaGreatDoor
open Go.Lib
namespace Pl
def litB (c:UInt8):Bool:=decide (32≤c.toNat) && (decide (c.toNat≤126) && (!(c==91) && (!(c==93) && !(c==92))))
def mid (l:List UInt8):List UInt8:=(l.take (l.length-1)).drop 1
def isLit (l:List UInt8):Bool:=hasPrefix l [91] && (hasSuffix (trimPrefix l [91]) [93] && (trimSuffix (trimPrefix l [91]) [93]).all litB)
def domI (l:List UInt8):Bool:=decide (l.length≤255) && (scan 46 false l || isLit l)
theorem atom_open:atom 91=false:=by decide +kernel
theorem scan_open (r:List UInt8):scan 46 false (91::r)=false:=by
 rw[scan,if_neg (by rw[atom_open];simp),if_neg (by decide)]
theorem dom_atoms (l:List UInt8)(c:UInt8)(r:List UInt8)(e:l=c::r)(h:c≠91)(hn:l.length≤255):domI l=scan 46 false l:=by
 have hp:hasPrefix l [91]=false:=by rw[e,hasPrefix];simp[List.isPrefixOf,Ne.symm h]
 rw[domI,isLit,hp,decide_eq_true hn]
 simp
theorem suf (r:List UInt8)(d:UInt8)(h:1≤r.length):hasSuffix r [d]=(r[r.length-1]==d):=by
 obtain⟨x,y,rfl⟩:∃x y,r=x ++ [y]:=⟨r.dropLast,r.getLast (by intro e;rw[e] at h;simp at h),(List.dropLast_concat_getLast _).symm⟩
 rw[hasSuffix]
 simp[List.isSuffixOf,List.isPrefixOf]
 by_cases e:d=y
 ·subst e;simp
 ·have:(d==y)=false:=by simpa using e
  have:(y==d)=false:=by simpa using Ne.symm e
  simp[*]
theorem dom_lit (l:List UInt8)(r:List UInt8)(e:l=91::r)(hn:l.length≤255):domI l=isLit l:=by
 rw[domI,decide_eq_true hn,e,scan_open]
 simp
theorem lit_short (l:List UInt8)(r:List UInt8)(e:l=91::r)(h:l.length<2):isLit l=false:=by
 have:r=[]:=by rw[e] at h;simp at h;exact List.length_eq_zero_iff.1 (by omega)
 rw[e,this];rfl
theorem lit_open (l:List UInt8)(r:List UInt8)(e:l=91::r)(h:2≤l.length)(hl:l[l.length-1]≠93):isLit l=false:=by
 subst e
 have h1:1≤r.length:=by simpa using h
 have hp:hasPrefix (91::r) [91]=true:=by simp[hasPrefix,List.isPrefixOf]
 have hg:(91::r)[(91::r).length-1]'(by simp)=r[r.length-1]:=by
  have:(91::r).length-1=(r.length-1)+1:=by simp;omega
  simp only[this,List.getElem_cons_succ]
 rw[hg] at hl
 rw[isLit,trimPrefix,hp,if_pos rfl]
 simp only[List.length_cons,List.length_nil,List.drop_succ_cons,List.drop_zero]
 rw[suf r 93 h1]
 have:(r[r.length-1]==93)=false:=by simpa using hl
 rw[this]
 simp
theorem lit_mid (l:List UInt8)(r:List UInt8)(e:l=91::r)(h:2≤l.length)(hl:l[l.length-1]=93):isLit l=(mid l).all litB:=by
 subst e
 have h1:1≤r.length:=by simpa using h
 have hp:hasPrefix (91::r) [91]=true:=by simp[hasPrefix,List.isPrefixOf]
 have hg:(91::r)[(91::r).length-1]'(by simp)=r[r.length-1]:=by
  have:(91::r).length-1=(r.length-1)+1:=by simp;omega
  simp only[this,List.getElem_cons_succ]
 rw[hg] at hl
 have hs:hasSuffix r [93]=true:=by rw[suf r 93 h1,hl];rfl
 have e1:trimPrefix (91::r) [91]=r:=by rw[trimPrefix,hp,if_pos rfl];rfl
 rw[isLit,hp,e1,hs,trimSuffix,hs,if_pos rfl,mid]
 have:(91::r).length-1=(r.length-1)+1:=by simp;omega
 rw[this]
 simp
theorem mid_step (l:List UInt8)(k:Nat)(hk:k<l.length-1):(((l.take (l.length-1)).drop k).all litB)=(litB (l[k]'(by omega)) && ((l.take (l.length-1)).drop (k+1)).all litB):=by
 rw[List.drop_eq_getElem_cons (by simp;omega),List.all_cons]
 simp
theorem mid_done (l:List UInt8)(k:Nat)(hk:l.length-1≤k):(((l.take (l.length-1)).drop k).all litB)=true:=by
 rw[List.drop_eq_nil_of_le (by simp;omega)]
 rfl
end Pl
open Go.RowKit Go.Lib
theorem litB_cases (c:UInt8):(c.toNat<32∧Pl.litB c=false)∨(32≤c.toNat∧126<c.toNat∧Pl.litB c=false)∨(32≤c.toNat∧c.toNat≤126∧((c.toNat:Int)==91)=true∧Pl.litB c=false) ∨
  (32≤c.toNat∧c.toNat≤126∧((c.toNat:Int)==91)=false∧((c.toNat:Int)==93)=true∧Pl.litB c=false)∨(32≤c.toNat∧c.toNat≤126∧((c.toNat:Int)==91)=false∧((c.toNat:Int)==93)=false∧((c.toNat:Int)==92)=true∧Pl.litB c=false) ∨
  (32≤c.toNat∧c.toNat≤126∧((c.toNat:Int)==91)=false∧((c.toNat:Int)==93)=false∧((c.toNat:Int)==92)=false∧Pl.litB c=true):=by
 by_cases h1:c.toNat<32
 ·exact .inl ⟨h1,by simp[Pl.litB];omega⟩
 by_cases h2:126<c.toNat
 ·exact .inr (.inl ⟨by omega,h2,by simp[Pl.litB];omega⟩)
 cases h3:((c.toNat:Int)==91)
 ·have n3:=Pl.byte_ne c 91 _ rfl h3
  cases h4:((c.toNat:Int)==93)
  ·have n4:=Pl.byte_ne c 93 _ rfl h4
   cases h5:((c.toNat:Int)==92)
   ·have n5:=Pl.byte_ne c 92 _ rfl h5
    exact .inr (.inr (.inr (.inr (.inr ⟨by omega,by omega,rfl,rfl,rfl,by simp[Pl.litB,n3,n4,n5];omega⟩))))
   ·exact .inr (.inr (.inr (.inr (.inl ⟨by omega,by omega,rfl,rfl,rfl,by rw[Pl.byte_eq c 92 _ rfl h5];decide⟩))))
  ·exact .inr (.inr (.inr (.inl ⟨by omega,by omega,rfl,rfl,by rw[Pl.byte_eq c 93 _ rfl h4];decide⟩)))
 ·exact .inr (.inr (.inl ⟨by omega,by omega,rfl,by rw[Pl.byte_eq c 91 _ rfl h3];decide⟩))
theorem implLitByte (c:UInt8)(w:World):Calls Tryz.prog 189 #[.int .u8 (c.toNat:Int)] w fun e w'=>e=.returned (.bool (Pl.litB c))∧w=w':=by
 have h8:c.toNat<256:=UInt8.toNat_lt _
 rcases litB_cases c with ⟨h,hb⟩|⟨h,h1,hb⟩|⟨h,h1,h2,hb⟩|⟨h,h1,h2,h3,hb⟩|⟨h,h1,h2,h3,h4,hb⟩|⟨h,h1,h2,h3,h4,hb⟩<;>rw[hb]<;>clear hb
 all_goals
  try have g2:((c.toNat:Int) != 91) = !((c.toNat:Int)==91):=rfl
  try have g3:((c.toNat:Int) != 93) = !((c.toNat:Int)==93):=rfl
  try have g4:((c.toNat:Int) != 92) = !((c.toNat:Int)==92):=rfl
  try rw[h2] at g2
  try rw[h3] at g3
  try rw[h4] at g4
  try rw[Bool.not_true] at g2
  try rw[Bool.not_false] at g2
  try rw[Bool.not_true] at g3
  try rw[Bool.not_false] at g3
  try rw[Bool.not_true] at g4
  try rw[Bool.not_false] at g4
  go_enter Tryz.func189,Tryz.ntmps189
  go_wp2
  go_ret
  first|exact⟨rfl,rfl⟩|exact⟨congrArg (fun b=>Ending.returned (.bool b)) (by simp;omega),rfl⟩|exact⟨congrArg (fun b=>Ending.returned (.bool b)) (by first|exact g2|exact g3|exact g4),rfl⟩
theorem kindLit:Kind 189 Pl.litB:=⟨Go.Proofs.enters_of Tryz.func189 (by kernel_rfl) rfl,implLitByte⟩
theorem trimP_len (l p:List UInt8):(trimPrefix l p).length≤l.length:=by
 unfold trimPrefix
 split
 ·simp
 ·exact Nat.le_refl _
theorem trimS_len (l p:List UInt8):(trimSuffix l p).length≤l.length:=by
 unfold trimSuffix
 split
 ·simp
 ·exact Nat.le_refl _
theorem implIsLit (s:ByteArray)(w:World)(hs:s.size≤100000) :
  Calls Tryz.prog 163 #[.string s] w fun e w'=>e=.returned (.bool (Pl.isLit s.data.toList))∧w'=w:=by
 have hp:=Tryz.strings_CutPrefix s ⟨#[91]⟩ w
 have hl1:(trimPrefix s.data.toList [91]).length≤100000:=Nat.le_trans (trimP_len _ _) (by simpa using hs)
 have hl2:(trimSuffix (trimPrefix s.data.toList [91]) [93]).length≤100000:=Nat.le_trans (trimS_len _ _) hl1
 have hq:=Tryz.strings_CutSuffix ⟨(trimPrefix s.data.toList [91]).toArray⟩ ⟨#[93]⟩ w (by show(trimPrefix s.data.toList [91]).toArray.size≤_;simp;omega)
 have ha:=implAllOf kindLit ⟨(trimSuffix (trimPrefix s.data.toList [91]) [93]).toArray⟩ w (by show(trimSuffix (trimPrefix s.data.toList [91]) [93]).toArray.size≤_;simp;omega)
 unfold Pl.isLit
 simp only at hp
 simp only at hq
 simp only at ha
 clear hl1 hl2
 generalize trimSuffix (trimPrefix s.data.toList [91]) [93]=q at *
 generalize trimPrefix s.data.toList [91]=p at *
 generalize hasPrefix s.data.toList [91]=b1 at *
 generalize hasSuffix p [93]=b2 at *
 generalize q.all Pl.litB=b3 at *
 cases b1<;>cases b2
 all_goals
  go_enter Tryz.func163,Tryz.ntmps163
  go_wp2_with first|(go_at_call 187;go_must (refine hp.mono ?_;rintro e w2 ⟨rfl,rfl⟩))|(go_at_call 188;go_must (refine hq.mono ?_;rintro e w2 ⟨rfl,rfl⟩))|(go_at_call 120;go_must (refine ha.mono ?_;rintro e w2 ⟨rfl,rfl⟩))
  go_ret
  exact⟨rfl,rfl⟩
def dcode (b:Bool):Int:=if b then 0 else 1
theorem implDomain (s:ByteArray)(m:Int)(w:World)(hs:s.size≤1100000)(hm:w.cell? ⟨0,0,none⟩=some (.int .i64 m)) :
  Calls Tryz.prog 135 #[.string s] w fun e w'=>e=.returned (.int .i64 (dcode (Pl.domI s.data.toList)))∧Below w.heap.size w w':=by
 have hll:s.data.toList.length=s.size:=by simp
 by_cases hn:s.size≤255
 ·have ha:=implAreAtoms 46 Pl.atom_point s m w (by omega) hm
  have hb:=fun w=>implIsLit s w (by omega)
  rw[Pl.domI,decide_eq_true (by omega),Bool.true_and]
  generalize Pl.scan 46 false s.data.toList=b1 at ha ⊢
  generalize Pl.isLit s.data.toList=b2 at hb ⊢
  clear hm
  cases b1<;>cases b2
  all_goals
   go_enter Tryz.func135,Tryz.ntmps135
   go_wp2_with first|(go_at_call 162;go_must (refine ha.mono ?_;rintro e w2 ⟨rfl,hb2⟩))|(go_at_call 163;go_must (refine(hb _).mono ?_;rintro e w3 ⟨rfl,rfl⟩))
   go_ret
   exact⟨rfl,hb2⟩
 ·rw[Pl.domI,decide_eq_false (by omega),Bool.false_and]
  clear hm
  go_enter Tryz.func135,Tryz.ntmps135
  go_wp2
  go_ret
  exact⟨rfl,Below.refl _ _⟩
theorem specDomain (s:ByteArray)(w:World)(hs:s.size≤1100000) :
  Calls Tryz.prog 82 #[.string s] w fun e w'=>e=.returned (.int .i64 (dcode (Pl.domI s.data.toList)))∧Below w.heap.size w w':=by
 have hll:s.data.toList.length=s.size:=by simp
 by_cases h0:s.size<1
 ·rw[show Pl.domI s.data.toList=false from by
   have:s.data.toList=[]:=List.length_eq_zero_iff.1 (by omega)
   rw[this];rfl]
  go_enter Tryz.func82,Tryz.ntmps82
  go_wp2
  go_ret
  exact⟨rfl,Below.refl _ _⟩
 by_cases hn:255<s.size
 ·rw[Pl.domI,decide_eq_false (by omega),Bool.false_and]
  go_enter Tryz.func82,Tryz.ntmps82
  go_wp2
  go_ret
  exact⟨rfl,Below.refl _ _⟩
 have h0':0<s.size:=Nat.lt_of_not_le (fun h=>h0 (Nat.lt_of_le_of_lt h Nat.one_pos))
 have hcons:s.data.toList=s[0]'h0'::s.data.toList.drop 1:=by
  have:=Pl.drop_cons s.data.toList 0 (by omega)
  rw[List.drop_zero] at this
  exact this
 have h8:(s[0]'h0').toNat<256:=UInt8.toNat_lt _
 cases h91:((((s[0]'h0').toNat:Nat):Int)==91)
 ·have hne:((((s[0]'h0').toNat:Nat):Int) != 91)=true:=by rw[bne,h91];rfl
  have ha:=specAtoms 46 46 rfl s w hs
  rw[Pl.dom_atoms _ _ _ hcons (Pl.byte_ne _ 91 _ rfl h91) (by omega)]
  generalize Pl.scan 46 false s.data.toList=b1 at ha ⊢
  clear hcons hll
  cases b1
  all_goals
   go_enter Tryz.func82,Tryz.ntmps82
   go_wp2_with (go_at_call 127;go_must (refine ha.mono ?_;rintro e w2 ⟨rfl,hb2⟩))
   go_ret
   exact⟨rfl,hb2⟩
 ·have hne:((((s[0]'h0').toNat:Nat):Int) != 91)=false:=by rw[bne,h91];rfl
  have hc:s.data.toList=91::s.data.toList.drop 1:=by
   rw[← Pl.byte_eq _ 91 _ rfl h91];exact hcons
  rw[Pl.dom_lit _ _ hc (by omega)]
  by_cases h2:s.size<2
  ·rw[Pl.lit_short _ _ hc (by omega)]
   clear hcons hc hll
   go_enter Tryz.func82,Tryz.ntmps82
   go_wp2
   go_ret
   exact⟨rfl,Below.refl _ _⟩
  have hl':s.size-1<s.size:=Nat.sub_lt h0' Nat.one_pos
  have hidx:((s.size:Int)-1).toNat=s.size-1:=by omega
  have h8':(s[s.size-1]'hl').toNat<256:=UInt8.toNat_lt _
  have hlast:s.data.toList[s.data.toList.length-1]'(by omega)=s[s.size-1]'hl':=by simp;rfl
  cases h93:((((s[s.size-1]'hl').toNat:Nat):Int)==93)
  ·rw[Pl.lit_open _ _ hc (by omega) (by rw[hlast];exact Pl.byte_ne _ 93 _ rfl h93)]
   have hn3:((((s[s.size-1]'hl').toNat:Nat):Int) != 93)=true:=by rw[bne,h93];rfl
   clear hcons hc hll hlast
   go_enter Tryz.func82,Tryz.ntmps82
   go_wp2
   go_ret
   exact⟨rfl,Below.refl _ _⟩
  ·rw[Pl.lit_mid _ _ hc (by omega) (by rw[hlast];exact Pl.byte_eq _ 93 _ rfl h93),Pl.mid]
   have hn3:((((s[s.size-1]'hl').toNat:Nat):Int) != 93)=false:=by rw[bne,h93];rfl
   obtain⟨A,hA⟩:∃A,((s.data.toList.take (s.data.toList.length-1)).drop 1).all Pl.litB=A:=⟨_,rfl⟩
   rw[hA]
   have HA:Hid (((s.data.toList.take (s.data.toList.length-1)).drop 1).all Pl.litB=A):=hA
   clear hcons hc hll hlast hA
   go_enter Tryz.func82,Tryz.ntmps82
   go_wp2
   clear hn3 h93 h91 hne h8 h8'
   go_loopw [3] (fun i wr=>∃ k:Nat,1≤k∧k≤s.size-1∧i=.int .i64 k∧Hid (((s.data.toList.take (s.data.toList.length-1)).drop k).all Pl.litB=A)∧wr=w) (fun i _=>s.size-(Lib.intOf i).toNat)
   case atStart=>exact⟨1,Nat.le_refl _,by omega,rfl,HA,rfl⟩
   case round=>
    clear HA
    obtain⟨k,hk1,hk,rfl,hp,rfl⟩:=hrel
    by_cases hlt:k<s.size-1
    ·have h8:(s[k]'(by omega)).toNat<256:=UInt8.toNat_lt _
     have hst:Hid (((s.data.toList.take (s.data.toList.length-1)).drop k).all Pl.litB=(Pl.litB (s[k]'(by omega)) && ((s.data.toList.take (s.data.toList.length-1)).drop (k+1)).all Pl.litB)):=Pl.mid_step s.data.toList k (by simp;omega)
     have bad:Pl.litB (s[k]'(by omega))=false→Hid (A=false):=by
      intro h
      have:=hst.out
      rw[h,Bool.false_and,hp.out] at this
      exact this
     rcases litB_cases (s[k]'(by omega)) with ⟨h,hb⟩|⟨h,h1,hb⟩|⟨h,h1,h2,hb⟩|⟨h,h1,h2,h3,hb⟩|⟨h,h1,h2,h3,h4,hb⟩|⟨h,h1,h2,h3,h4,hb⟩
     iterate 5
      have hB:=bad hb
      clear bad hb hst hp
      go_wp2
      go_ret
      exact⟨by rw[hB.out];rfl,Below.refl _ _⟩
     ·have hg:Hid (((s.data.toList.take (s.data.toList.length-1)).drop (k+1)).all Pl.litB=A):=show _=_ from by
       have:=hst.out
       rw[hb,Bool.true_and,hp.out] at this
       exact this.symm
      clear bad hb hst hp
      go_wp2
      go_roundw
      case rel=>exact⟨k+1,by omega,by omega,by go_num,hg,trivial⟩
      case measure=>simp[Lib.intOf];omega
    ·have H0:Hid (A=true):=show _=_ from by rw[← hp.out];exact Pl.mid_done _ k (by simp;omega)
     clear hp
     go_wp2
     go_ret
     exact⟨by rw[H0.out];rfl,Below.refl _ _⟩
open Go.RowKit Go.Lib Go.Maps
namespace Au
def bars:ByteArray:=⟨#[34,40,41,123,92]⟩
def byte (c:UInt8):Bool:=decide (33≤c.toNat) && (decide (c.toNat≤126) && decide (indexByte bars.data.toList c<0))
def txt (t:ByteArray):Bool:=decide (1≤t.size) && (decide (t.size≤40) && t.data.toList.all byte)
def ok (u:GAccessUser):Bool:=txt u.name && txt u.password
theorem all_drop {α:Type} (K:α→Bool)(F:List α)(k:Nat)(h:k<F.length):(F.drop k).all K=(K F[k] && (F.drop (k+1)).all K):=by
 rw[List.drop_eq_getElem_cons h,List.all_cons]
theorem all_end {α:Type} (K:α→Bool)(F:List α)(k:Nat)(h:F.length≤k):(F.drop k).all K=true:=by
 rw[List.drop_eq_nil_of_le h,List.all_nil]
end Au
abbrev plAccessFault (F:List GAccessUser):Int:=dcode (decide (F.length≤20) && F.all Au.ok)
theorem auBars (c:UInt8)(w:World):Calls Tryz.prog 85 #[.string ⟨#[34,40,41,123,92]⟩,.string ⟨#[c]⟩,.int .i64 0] w fun e w'=>e=.returned (.int .i64 (indexByte Au.bars.data.toList c))∧w=w':=by
 refine(specIndex1 _ c w (by show 5≤1100000;omega)).mono ?_
 rintro e w' ⟨rfl,rfl⟩
 rw[ix_zero]
 exact⟨rfl,rfl⟩
theorem specPlainT (t:ByteArray)(w:World)(hs:t.size≤1048576) :
  Calls Tryz.prog 45 #[.string t] w fun e w'=>e=.returned (.bool (Au.txt t))∧w=w':=by
 have hll:t.data.toList.length=t.size:=by simp
 unfold Au.txt
 by_cases h1:1≤t.size
 rotate_left
 ·have x1:decide ((t.size:Int)<1)=true:=decide_eq_true (by omega)
  rw[decide_eq_false h1,Bool.false_and]
  go_enter Tryz.func45,Tryz.ntmps45
  go_wp2
  go_ret
  exact⟨rfl,rfl⟩
 have x1:decide ((t.size:Int)<1)=false:=decide_eq_false (by omega)
 rw[decide_eq_true h1,Bool.true_and]
 by_cases h2:t.size≤40
 rotate_left
 ·have x2:decide ((40:Int)<(t.size:Int))=true:=decide_eq_true (by omega)
  rw[decide_eq_false h2,Bool.false_and]
  go_enter Tryz.func45,Tryz.ntmps45
  go_wp2
  go_ret
  exact⟨rfl,rfl⟩
 have x2:decide ((40:Int)<(t.size:Int))=false:=decide_eq_false (by omega)
 rw[decide_eq_true h2,Bool.true_and]
 obtain⟨R,hR⟩:∃R,t.data.toList.all Au.byte=R:=⟨_,rfl⟩
 have HR:Hid ((t.data.toList.drop 0).all Au.byte=R):=hR
 rw[hR]
 have Hll:=mkHid hll
 clear hR hll
 go_enter Tryz.func45,Tryz.ntmps45
 go_wp2
 go_loopw [3] (fun iv wr=>∃ i:Nat,i≤t.size∧iv=.int .i64 i∧Hid ((t.data.toList.drop i).all Au.byte=R)∧wr=w) (fun iv _=>t.size-(Lib.intOf iv).toNat)
 case atStart=>exact⟨0,Nat.zero_le _,rfl,HR,rfl⟩
 case round=>
  clear HR
  obtain⟨i,hi,rfl,hp,rfl⟩:=hrel
  by_cases hlt:i<t.size
  ·have hli:i<t.data.toList.length:=by rw[Hll.out];exact hlt
   have hst:=hp.out
   rw[Au.all_drop Au.byte t.data.toList i hli,show t.data.toList[i]'hli=t[i] from rfl] at hst
   have Hst:=mkHid hst
   clear hst hp
   have hex:t.extract i (i+1)=⟨#[t[i]]⟩:=by
    apply ByteArray.ext
    apply Array.toList_inj.1
    rw[Pl.ext_data,show i+1-i=1 by omega,List.drop_eq_getElem_cons hli]
    rfl
   have cX:=mkHid (fun w'=>auBars t[i] w')
   have h8:t[i].toNat<256:=UInt8.toNat_lt _
   unfold Au.byte at Hst
   by_cases y0:33≤t[i].toNat
   ·have u0:decide ((t[i].toNat:Int)<33)=false:=decide_eq_false (by omega)
    rw[decide_eq_true y0,Bool.true_and] at Hst
    by_cases y1:t[i].toNat≤126
    ·have u1:decide ((126:Int)<(t[i].toNat:Int))=false:=decide_eq_false (by omega)
     rw[decide_eq_true y1,Bool.true_and] at Hst
     obtain⟨z,hz⟩:∃z,indexByte Au.bars.data.toList t[i]=z:=⟨_,rfl⟩
     rw[hz] at cX Hst
     clear hz
     by_cases y2:z<0
     ·have u2:decide (0≤z)=false:=decide_eq_false (by omega)
      have hn:Hid ((t.data.toList.drop (i+1)).all Au.byte=R):=show _=_ from by rw[← Hst.out,decide_eq_true y2,Bool.true_and];rfl
      clear Hst
      go_wp2_with (go_at_call 85;fail)
      refine(cX.out _).mono ?_
      rintro e w2 ⟨rfl,rfl⟩
      go_wp2
      go_roundw
      case rel=>exact⟨i+1,by omega,by go_num,hn,trivial⟩
      case measure=>simp[Lib.intOf];omega
     ·have u2:decide (0≤z)=true:=decide_eq_true (by omega)
      have hr:Hid (R=false):=show _=_ from by rw[← Hst.out,decide_eq_false y2,Bool.false_and]
      clear Hst
      go_wp2_with (go_at_call 85;fail)
      refine(cX.out _).mono ?_
      rintro e w2 ⟨rfl,rfl⟩
      go_wp2
      go_ret
      rw[hr.out]
      exact⟨rfl,rfl⟩
    ·have u1:decide ((126:Int)<(t[i].toNat:Int))=true:=decide_eq_true (by omega)
     have hr:Hid (R=false):=show _=_ from by rw[← Hst.out,decide_eq_false y1,Bool.false_and,Bool.false_and]
     clear Hst cX
     go_wp2
     go_ret
     rw[hr.out]
     exact⟨rfl,rfl⟩
   ·have u0:decide ((t[i].toNat:Int)<33)=true:=decide_eq_true (by omega)
    have hr:Hid (R=false):=show _=_ from by rw[← Hst.out,decide_eq_false y0,Bool.false_and,Bool.false_and]
    clear Hst cX
    go_wp2
    go_ret
    rw[hr.out]
    exact⟨rfl,rfl⟩
  ·have hr:Hid (R=true):=show _=_ from by rw[← hp.out,Au.all_end _ _ i (by rw[Hll.out];omega)]
   clear hp
   go_wp2
   go_ret
   rw[hr.out]
   exact⟨rfl,rfl⟩
theorem specAccessFault (o:Option Addr)(F:List GAccessUser)(cap lo:Nat)(w:World)(hF:GAccessUsersL lo w.heap.size w o F)(hl:F.length≤1048576)(hf:∀f ∈ F,f.fits 1048576) :
  Calls Tryz.prog 15 #[.slice o F.length cap] w fun e w'=>e=.returned (.int .i64 (plAccessFault F))∧Below w.heap.size w w':=by
 unfold plAccessFault
 by_cases h1:F.length≤20
 rotate_left
 ·have x1:decide ((20:Int)<(F.length:Int))=true:=decide_eq_true (by omega)
  rw[decide_eq_false h1,Bool.false_and]
  go_enter Tryz.func15,Tryz.ntmps15
  go_wp2
  go_ret
  exact⟨rfl,Below.refl _ _⟩
 have x1:decide ((20:Int)<(F.length:Int))=false:=decide_eq_false (by omega)
 rw[decide_eq_true h1,Bool.true_and]
 obtain⟨R,hR⟩:∃R,dcode (F.all Au.ok)=R:=⟨_,rfl⟩
 have HR:Hid (dcode ((F.drop 0).all Au.ok)=R):=hR
 rw[hR]
 have HF:=mkHid hF
 have Hf:=mkHid hf
 clear hR hF hf
 go_enter Tryz.func15,Tryz.ntmps15
 go_wp2
 go_loopw [3] (fun iv wr=>∃ i:Nat,i≤F.length∧iv=.int .i64 i∧Hid (dcode ((F.drop i).all Au.ok)=R)∧wr=w) (fun iv _=>F.length-(Lib.intOf iv).toNat)
 case atStart=>exact⟨0,Nat.zero_le _,rfl,HR,rfl⟩
 case round=>
  clear HR
  obtain⟨i,hi,rfl,hp,rfl⟩:=hrel
  by_cases hlt:i<F.length
  ·obtain⟨a,rfl,ha1,ha2,hAt⟩:=HF.out i hlt
   have d0:=hAt.c0
   have d1:=hAt.c1
   obtain⟨f0,f1⟩:=Hf.out F[i] (List.getElem_mem hlt)
   have hst:=hp.out
   rw[Au.all_drop Au.ok F i hlt] at hst
   have Hst:=mkHid hst
   clear hst hp hAt
   generalize F[i]=u at *
   unfold Au.ok at Hst
   have cA:=mkHid (fun w'=>specPlainT u.name w' f0)
   have cB:=mkHid (fun w'=>specPlainT u.password w' f1)
   generalize Au.txt u.name=b1 at *
   generalize Au.txt u.password=b2 at *
   cases b1
   ·have hr:Hid (R=1):=show _=_ from by rw[← Hst.out];simp[dcode]
    clear Hst
    go_wp2_with (go_at_call 45;fail)
    refine(cA.out _).mono ?_
    rintro e w2 ⟨rfl,rfl⟩
    go_wp2
    go_ret
    rw[hr.out]
    exact⟨rfl,Below.refl _ _⟩
   ·cases b2
    ·have hr:Hid (R=1):=show _=_ from by rw[← Hst.out];simp[dcode]
     clear Hst
     go_wp2_with (go_at_call 45;fail)
     refine(cA.out _).mono ?_
     rintro e w2 ⟨rfl,rfl⟩
     go_wp2_with (go_at_call 45;fail)
     refine(cB.out _).mono ?_
     rintro e w2 ⟨rfl,rfl⟩
     go_wp2
     go_ret
     rw[hr.out]
     exact⟨rfl,Below.refl _ _⟩
    ·have hn:Hid (dcode ((F.drop (i+1)).all Au.ok)=R):=show _=_ from by rw[← Hst.out,Bool.and_self,Bool.true_and];rfl
     clear Hst
     go_wp2_with (go_at_call 45;fail)
     refine(cA.out _).mono ?_
     rintro e w2 ⟨rfl,rfl⟩
     go_wp2_with (go_at_call 45;fail)
     refine(cB.out _).mono ?_
     rintro e w2 ⟨rfl,rfl⟩
     go_wp2
     go_roundw
     case rel=>exact⟨i+1,by omega,by go_num,hn,trivial⟩
     case measure=>simp[Lib.intOf];omega
  ·have hr:Hid (R=0):=show _=_ from by rw[← hp.out,Au.all_end _ _ i (by omega)];rfl
   clear hp
   go_wp2
   go_ret
   rw[hr.out]
   exact⟨rfl,Below.refl _ _⟩
namespace Au
def queryB (c:UInt8):Bool:=decide (33≤c.toNat) && (decide (c.toNat≤126) && (((c.toNat:Int) != 34) && (((c.toNat:Int) != 40) && ((c.toNat:Int) != 41))))
def userB (c:UInt8):Bool:=queryB c && (((c.toNat:Int) != 123) && ((c.toNat:Int) != 92))
theorem userB_fin:∀n:Fin 256,userB (UInt8.ofNat n.val)=byte (UInt8.ofNat n.val):=by decide +kernel
theorem userB_eq (c:UInt8):userB c=byte c:=by
 have h:=userB_fin ⟨c.toNat,UInt8.toNat_lt c⟩
 rw[show UInt8.ofNat c.toNat=c from UInt8.ofNat_toNat] at h
 exact h
end Au
theorem implQueryB (c:UInt8)(w:World):Calls Tryz.prog 193 #[.int .u8 (c.toNat:Int)] w fun e w'=>e=.returned (.bool (Au.queryB c))∧w=w':=by
 have h8:c.toNat<256:=UInt8.toNat_lt _
 unfold Au.queryB
 generalize c.toNat=k at *
 by_cases y0:33≤k
 rotate_left
 ·have u0:decide ((33:Int)≤(k:Int))=false:=decide_eq_false (by omega)
  rw[decide_eq_false y0,Bool.false_and]
  go_enter Tryz.func193,Tryz.ntmps193
  go_wp2
  go_ret
  exact⟨rfl,rfl⟩
 have u0:decide ((33:Int)≤(k:Int))=true:=decide_eq_true (by omega)
 rw[decide_eq_true y0,Bool.true_and]
 by_cases y1:k≤126
 rotate_left
 ·have u1:decide ((k:Int)≤126)=false:=decide_eq_false (by omega)
  rw[decide_eq_false y1,Bool.false_and]
  go_enter Tryz.func193,Tryz.ntmps193
  go_wp2
  go_ret
  exact⟨rfl,rfl⟩
 have u1:decide ((k:Int)≤126)=true:=decide_eq_true (by omega)
 rw[decide_eq_true y1,Bool.true_and]
 cases h1:((k:Int) != 34)
 ·go_enter Tryz.func193,Tryz.ntmps193
  go_wp2
  go_ret
  exact⟨rfl,rfl⟩
 cases h2:((k:Int) != 40)
 ·go_enter Tryz.func193,Tryz.ntmps193
  go_wp2
  go_ret
  exact⟨rfl,rfl⟩
 cases h3:((k:Int) != 41)
 all_goals
  go_enter Tryz.func193,Tryz.ntmps193
  go_wp2
  go_ret
  exact⟨rfl,rfl⟩
theorem implUserB (c:UInt8)(w:World):Calls Tryz.prog 169 #[.int .u8 (c.toNat:Int)] w fun e w'=>e=.returned (.bool (Au.byte c))∧w=w':=by
 have h8:c.toNat<256:=UInt8.toNat_lt _
 have hQ:=mkHid (implQueryB c w)
 rw[← Au.userB_eq]
 unfold Au.userB
 generalize Au.queryB c=q at *
 cases q<;>cases h1:((c.toNat:Int) != 123)<;>cases h2:((c.toNat:Int) != 92)
 all_goals
  go_enter Tryz.func169,Tryz.ntmps169
  go_wp2_with (go_at_call 193;go_must (refine hQ.out.mono ?_;rintro e w2 ⟨rfl,rfl⟩))
  go_ret
  exact⟨rfl,rfl⟩
theorem kindUserB:Kind 169 Au.byte:=⟨Go.Proofs.enters_of Tryz.func169 (by kernel_rfl) rfl,implUserB⟩
theorem implUserText (t:ByteArray)(w:World)(hs:t.size≤1048576):Calls Tryz.prog 145 #[.string t] w fun e w'=>e=.returned (.bool (Au.txt t))∧w=w':=by
 have hA:=mkHid (implAllOf kindUserB t w (by omega))
 have htl:t.data.toList=t.toList:=(ByteArray.toList_eq t).symm
 unfold Au.txt
 generalize t.data.toList.all Au.byte=b at *
 by_cases h1:1≤t.size
 rotate_left
 ·have h0:t.size=0:=by omega
  have he:(t.toList == [])=true:=by
   rw[← htl];simp;exact Array.eq_empty_of_size_eq_zero h0
  have hn:(t.toList != [])=false:=by rw[bne,he];rfl
  have hp:t.toList=[]:=by simpa using he
  rw[decide_eq_false h1,Bool.false_and]
  clear htl h0
  go_enter Tryz.func145,Tryz.ntmps145
  go_wp2
  go_ret
  exact⟨rfl,rfl⟩
 have he:(t.toList == [])=false:=by
  rw[← htl];simp;intro h;have h3:t.size=0:=by show t.data.size=0;rw[h];rfl
  omega
 have hn:(t.toList != [])=true:=by rw[bne,he];rfl
 have hp:¬t.toList=[]:=by simpa using he
 rw[decide_eq_true h1,Bool.true_and]
 clear htl
 by_cases h2:t.size≤40
 rotate_left
 ·have x2:decide ((t.size:Int)≤40)=false:=decide_eq_false (by omega)
  rw[decide_eq_false h2,Bool.false_and]
  go_enter Tryz.func145,Tryz.ntmps145
  go_wp2
  go_ret
  exact⟨rfl,rfl⟩
 have x2:decide ((t.size:Int)≤40)=true:=decide_eq_true (by omega)
 rw[decide_eq_true h2,Bool.true_and]
 cases b
 all_goals
  go_enter Tryz.func145,Tryz.ntmps145
  go_wp2_with (go_at_call 120;go_must (refine hA.out.mono ?_;rintro e w2 ⟨rfl,rfl⟩))
  go_ret
  exact⟨rfl,rfl⟩
abbrev bxU (n:GAccessUser):Obj:=.cells #[.string n.name,.string n.password,.bool n.readOnly] 97
theorem implNoUser (n:GAccessUser)(w:World)(hf:n.fits 1048576):Calls Tryz.prog 113 #[GAccessUserV n] w fun e w'=>e=.returned (.bool (!Au.ok n))∧Below w.heap.size w w':=by
 obtain⟨f0,f1⟩:=hf
 have cA:=mkHid (fun w'=>implUserText n.name w' f0)
 have cB:=mkHid (fun w'=>implUserText n.password w' f1)
 unfold Au.ok GAccessUserV
 generalize Au.txt n.name=b1 at *
 generalize Au.txt n.password=b2 at *
 have hb:Below w.heap.size w (w.alloc (bxU n)):=(Below.refl _ _).alloc (Nat.le_refl _) _
 cases b1
 ·go_enter Tryz.func113,Tryz.ntmps113
  go_wp2_with (go_at_call 145;fail)
  refine(cA.out _).mono ?_
  rintro e w2 ⟨rfl,rfl⟩
  go_wp2
  go_ret
  exact⟨rfl,hb⟩
 ·cases b2
  all_goals
   go_enter Tryz.func113,Tryz.ntmps113
   go_wp2_with (go_at_call 145;fail)
   refine(cA.out _).mono ?_
   rintro e w2 ⟨rfl,rfl⟩
   go_wp2_with (go_at_call 145;fail)
   refine(cB.out _).mono ?_
   rintro e w2 ⟨rfl,rfl⟩
   go_wp2
   go_ret
   exact⟨rfl,hb⟩
theorem implIndexU (o:Option Addr)(F:List GAccessUser)(cap lo:Nat)(w:World)(hF:GAccessUsersL lo w.heap.size w o F)(hl:F.length≤1048576)(hsz:∀t ∈ F,t.fits 1048576) :
  Calls Tryz.prog 144 #[.slice o F.length cap,.func (.func 113) #[] #[]] w fun e w'=>∃ i:Int,e=.returned (.int .i64 i)∧decide (0≤i) = !F.all Au.ok∧Below w.heap.size w w':=by
 have hE:∀(args:Array Value) (w:World),(callFunc 113 args).run Tryz.prog w=.ok (.enter 113 args) w:=Go.Proofs.enters_of Tryz.func113 (by kernel_rfl) rfl
 have HF:=mkHid hF
 have Hsz:=mkHid hsz
 clear hF hsz
 obtain⟨R,hR⟩:∃R,F.all Au.ok=R:=⟨_,rfl⟩
 have HR:Hid ((F.drop 0).all Au.ok=R):=hR
 rw[hR]
 clear hR
 go_enter Tryz.func144,Tryz.ntmps144
 go_wp2
 go_loopw [5,8] (fun _ iv wr=>∃ k:Nat,k≤F.length∧iv=.int .i64 k∧Hid ((F.drop k).all Au.ok=R)∧Hid (Below w.heap.size w wr)) (fun _ iv _=>F.length-(Lib.intOf iv).toNat)
 case atStart=>exact⟨0,Nat.zero_le _,rfl,HR,Below.refl _ _⟩
 case round=>
  clear HR
  obtain⟨k,hk,rfl,hp,hB⟩:=hrel
  by_cases hlt:k<F.length
  ·obtain⟨a,rfl,ha1,ha2,hAt⟩:=((HF.out.below hB.out (Nat.le_refl _)).mono (Nat.le_refl _) hB.out.size) k hlt
   have hst:=Au.all_drop Au.ok F k hlt
   rw[hp.out] at hst
   have cN:=mkHid (implNoUser F[k] wr (Hsz.out _ (List.getElem_mem hlt)))
   have d0:=hAt.c0
   have d1:=hAt.c1
   have d2:=hAt.c2
   clear hAt
   have Hst:=mkHid hst
   clear hst hp
   unfold GAccessUserV at cN
   generalize Au.ok F[k]=nb at *
   generalize F[k]=x at *
   go_wp2_with fail
   refine cN.out.mono ?_
   rintro e w1 ⟨rfl,hb1⟩
   have hB1:=mkHid (hB.out.trans (hb1.mono hB.out.size))
   clear cN hb1 hB
   cases nb
   ·have hR:R=false:=by rw[Hst.out,Bool.false_and]
    subst hR
    clear Hst
    go_wp2
    go_ret
    exact⟨k,rfl,by simp,hB1.out⟩
   ·have HN:Hid ((F.drop (k+1)).all Au.ok=R):=by show _=_;rw[Hst.out,Bool.true_and]
    clear Hst
    go_wp2
    go_roundw
    case rel=>exact⟨k+1,by omega,by go_num,HN,hB1⟩
    case measure=>simp[Lib.intOf];omega
  ·have hR:R=true:=by rw[← hp.out,List.drop_eq_nil_of_le (by omega)];rfl
   subst hR
   clear hp
   go_wp2
   go_ret
   exact⟨-1,rfl,rfl,hB.out⟩
theorem implContainsU (o:Option Addr)(F:List GAccessUser)(cap lo:Nat)(w:World)(hF:GAccessUsersL lo w.heap.size w o F)(hl:F.length≤1048576)(hsz:∀t ∈ F,t.fits 1048576) :
  Calls Tryz.prog 112 #[.slice o F.length cap,.func (.func 113) #[] #[]] w fun e w'=>e=.returned (.bool (!F.all Au.ok))∧Below w.heap.size w w':=by
 have hI:=mkHid (implIndexU o F cap lo w hF hl hsz)
 clear hF hsz
 go_enter Tryz.func112,Tryz.ntmps112
 go_wp2_with fail
 refine hI.out.mono ?_
 rintro e w2 ⟨i,rfl,hi,hb⟩
 go_wp2
 go_ret
 exact⟨by rw[← hi];rfl,hb⟩
theorem implFormU (b:Bool)(w:World):Calls Tryz.prog 24 #[.bool b] w fun e w'=>e=.returned (.int .i64 (dcode b))∧w=w':=by
 cases b
 all_goals
  go_enter Tryz.func24,Tryz.ntmps24
  go_wp2
  go_ret
  exact⟨rfl,rfl⟩
theorem implAccessFault (o:Option Addr)(F:List GAccessUser)(cap lo:Nat)(w:World)(hF:GAccessUsersL lo w.heap.size w o F)(hl:F.length≤1048576)(hf:∀f ∈ F,f.fits 1048576) :
  Calls Tryz.prog 62 #[.slice o F.length cap] w fun e w'=>e=.returned (.int .i64 (plAccessFault F))∧Below w.heap.size w w':=by
 have hI:=mkHid (implContainsU o F cap lo w hF hl hf)
 clear hF hf
 unfold plAccessFault
 generalize F.all Au.ok=b at *
 by_cases x:F.length≤20
 ·have y:decide ((F.length:Int)≤20)=true:=by simp;omega
  rw[decide_eq_true x,Bool.true_and]
  cases b
  all_goals
   go_enter Tryz.func62,Tryz.ntmps62
   go_wp2_with first|(go_at_call 112;go_must (refine hI.out.mono ?_;rintro e w2 ⟨rfl,hb2⟩))|(go_at_call 24;go_must (refine(implFormU _ _).mono ?_;rintro e w3 ⟨rfl,rfl⟩))
   go_ret
   exact⟨rfl,hb2⟩
 ·have y:decide ((F.length:Int)≤20)=false:=by simp;omega
  rw[decide_eq_false x,Bool.false_and]
  clear hI
  go_enter Tryz.func62,Tryz.ntmps62
  go_wp2_with (go_at_call 24;go_must (refine(implFormU _ _).mono ?_;rintro e w3 ⟨rfl,rfl⟩))
  go_ret
  exact⟨rfl,Below.refl _ _⟩
namespace Wf
def uOk (cd:ByteArray→Int)(L:List ByteArray)(u:GWorldUser):Bool:=(lower u.name.data.toList==u.name.data.toList) && ((cd u.filter==0) && !Ex.isIn L u.name)
def all (cd:ByteArray→Int):List ByteArray→List GWorldUser→Bool
 | _,[]=>true
 | L,u::r=>uOk cd L u && all cd (L ++ [u.name]) r
def names (F:List GWorldUser):List ByteArray:=F.map (·.name)
theorem all_step (cd:ByteArray→Int)(F:List GWorldUser)(k:Nat)(h:k<F.length):all cd (names (F.take k)) (F.drop k)=(uOk cd (names (F.take k)) F[k] && all cd (names (F.take (k+1))) (F.drop (k+1))):=by
 rw[List.drop_eq_getElem_cons h,all,List.take_succ_eq_append_getElem h]
 unfold names
 rw[List.map_append]
 rfl
end Wf
theorem au_names (F:List GWorldUser)(h:plAccessFault (Wf.vis F)=0):F.length≤20∧∀u ∈ F,u.name.size≤40:=by
 have h1:(decide ((Wf.vis F).length≤20) && (Wf.vis F).all Au.ok)=true:=by
  unfold plAccessFault dcode at h
  split at h
  ·assumption
  ·cases h
 rw[Bool.and_eq_true,decide_eq_true_eq,Wf.vis_len] at h1
 refine⟨h1.1,fun u hu=>?_⟩
 have h2:=List.all_eq_true.1 h1.2 ⟨u.name,u.password,u.readOnly⟩ (List.mem_map.2 ⟨u,hu,rfl⟩)
 unfold Au.ok Au.txt at h2
 simp only[Bool.and_eq_true,decide_eq_true_eq] at h2
 exact h2.1.2.1
def FCode (cd:ByteArray→Int)(s:ByteArray)(w:World)(e:Ending)(w':World):Prop:=∃(at_:Int)(v:Value),e=.returned (.agg #[.int .i64 (cd s),.int .i64 at_,v])∧Below w.heap.size w w'
theorem fieldTr (a b c:Value)(w:World):Sem.run Tryz.prog (Instr.field 69 (.agg #[a,b,c]) 0) w=.ok a w:=by kernel_rfl
theorem blank_cases (c:UInt8):((c.toNat:Int)==32)=true∧Pl.blank c=true∨((c.toNat:Int)==32)=false∧((c.toNat:Int)==9)=true∧Pl.blank c=true∨((c.toNat:Int)==32)=false∧((c.toNat:Int)==9)=false∧Pl.blank c=false:=by
 cases h:((c.toNat:Int)==32)
 ·cases h9:((c.toNat:Int)==9)
  ·exact .inr (.inr ⟨rfl,rfl,by simp[Pl.blank,Pl.byte_ne c 32 _ rfl h,Pl.byte_ne c 9 _ rfl h9]⟩)
  ·exact .inr (.inl ⟨rfl,rfl,by rw[Pl.byte_eq c 9 _ rfl h9];rfl⟩)
 ·exact .inl ⟨rfl,by rw[Pl.byte_eq c 32 _ rfl h];rfl⟩
theorem specBlank (c:UInt8)(w:World):Calls Tryz.prog 88 #[.int .u8 (c.toNat:Int)] w fun e w'=>e=.returned (.bool (Pl.blank c))∧w=w':=by
 rcases blank_cases c with ⟨h,hb⟩|⟨h,h9,hb⟩|⟨h,h9,hb⟩<;>rw[hb]<;>clear hb
 all_goals
  go_enter Tryz.func88,Tryz.ntmps88
  go_wp2
  go_ret
  exact⟨rfl,rfl⟩
theorem implBlank (c:UInt8)(w:World):Calls Tryz.prog 219 #[.int .u8 (c.toNat:Int)] w fun e w'=>e=.returned (.bool (Pl.blank c))∧w=w':=by
 rcases blank_cases c with ⟨h,hb⟩|⟨h,h9,hb⟩|⟨h,h9,hb⟩<;>rw[hb]<;>clear hb
 all_goals
  go_enter Tryz.func219,Tryz.ntmps219
  go_wp2
  go_ret
  exact⟨rfl,rfl⟩
theorem implLineByte (c:UInt8)(w:World):Calls Tryz.prog 220 #[.int .u8 (c.toNat:Int)] w fun e w'=>e=.returned (.bool (Pl.lb c))∧w=w':=by
 have h8:c.toNat<256:=UInt8.toNat_lt _
 cases h13:((c.toNat:Int)==13)
 ·have hn:((c.toNat:Int) != 13)=true:=by rw[bne,h13];rfl
  cases h10:((c.toNat:Int)==10)
  ·have hm:((c.toNat:Int) != 10)=true:=by rw[bne,h10];rfl
   rw[show Pl.lb c=true from by simp[Pl.lb,Pl.byte_ne c 13 _ rfl h13,Pl.byte_ne c 10 _ rfl h10]]
   go_enter Tryz.func220,Tryz.ntmps220
   go_wp2
   go_ret
   exact⟨rfl,rfl⟩
  ·have hm:((c.toNat:Int) != 10)=false:=by rw[bne,h10];rfl
   rw[show Pl.lb c=false from by rw[Pl.byte_eq c 10 _ rfl h10];rfl]
   go_enter Tryz.func220,Tryz.ntmps220
   go_wp2
   go_ret
   exact⟨rfl,rfl⟩
 ·have hn:((c.toNat:Int) != 13)=false:=by rw[bne,h13];rfl
  rw[show Pl.lb c=false from by rw[Pl.byte_eq c 13 _ rfl h13];rfl]
  go_enter Tryz.func220,Tryz.ntmps220
  go_wp2
  go_ret
  exact⟨rfl,rfl⟩
namespace Pl
def nb (c:UInt8):Bool:=decide (33≤c.toNat) && (decide (c.toNat≤126) && !(c==58))
def nameOk (l:List UInt8):Bool:=!l.isEmpty && (decide (l.length≤70) && l.all nb)
def okF (f:ByteArray × ByteArray):Bool:=decide (f.2.size≤100000) && (nameOk f.1.data.toList && val f.2.data.toList)
def line (f:ByteArray × ByteArray):List UInt8:=f.1.data.toList ++ [58]++f.2.data.toList ++ [13,10]
def hd:List UInt8→List (ByteArray × ByteArray)→List UInt8
 | out,[]=>out
 | out,f::r=>if okF f then (if 100000<(out++line f).length then [] else hd (out++line f) r) else []
end Pl
namespace Ps
end Ps
abbrev keyV (d s:ByteArray)(x y:Int):Value:=.agg #[.string d,.string s,.int .i64 x,.int .i64 y]
def keyOk (x y:Int):Bool:=decide (1≤x) && (decide (x<2147483647) && (decide (1≤y) && decide (y<2147483647)))
theorem specKey (d s:ByteArray)(x y:Int)(w:World):Calls Tryz.prog 43 #[keyV d s x y] w fun e w'=>e=.returned (.bool (keyOk x y))∧Below w.heap.size w w':=by
 have hA:∀ob,Below w.heap.size w (w.alloc ob):=fun ob=>(Below.refl _ _).alloc (Nat.le_refl _) _
 unfold keyOk
 by_cases h1:1≤x
 ·by_cases h2:x<2147483647
  ·by_cases h3:1≤y
   ·rw[decide_eq_true h1,decide_eq_true h2,decide_eq_true h3,Bool.true_and,Bool.true_and,Bool.true_and]
    go_enter Tryz.func43,Tryz.ntmps43
    go_wp2
    go_ret
    exact⟨rfl,hA _⟩
   ·rw[decide_eq_false h3,Bool.false_and,Bool.and_false,Bool.and_false]
    go_enter Tryz.func43,Tryz.ntmps43
    go_wp2
    go_ret
    exact⟨rfl,hA _⟩
  ·rw[decide_eq_false h2,Bool.false_and,Bool.and_false]
   go_enter Tryz.func43,Tryz.ntmps43
   go_wp2
   go_ret
   exact⟨rfl,hA _⟩
 ·rw[decide_eq_false h1,Bool.false_and]
  go_enter Tryz.func43,Tryz.ntmps43
  go_wp2
  go_ret
  exact⟨rfl,hA _⟩
namespace Pl
def signB (c:UInt8):Bool:=decide (c.toNat≤127) && (!(c==59) && !(c==61))
def selB (c:UInt8):Bool:=(decide (97≤c.toNat) && decide (c.toNat≤122)) || digit c
def apart (l:List UInt8):Bool:=l.all fun c=>!(c==59) && !(c==61)
def selOk (l:List UInt8):Bool:=!l.isEmpty && (decide (l.length≤60) && l.all selB)
def domOk (l:List UInt8):Bool:=domI l && (!(l.head?==some 91) && l.all signB)
theorem ix_neg (c:UInt8):∀l:List UInt8,decide (indexByte l c<0)=l.all fun x=>!(x==c)
 | []=>by simp[indexByte]
 | a::r=>by
  have ih:=ix_neg c r
  have hge:=indexByte_ge r c
  rw[List.all_cons,← ih,indexByte]
  cases hac:(a==c)
  ·simp only[Bool.false_eq_true,if_false,Bool.not_false,Bool.true_and]
   cases h1:(indexByte r c == -1)
   ·have:indexByte r c ≠ -1:=by simpa using h1
    simp only[Bool.false_eq_true,if_false]
    congr 1
    exact propext (by omega)
   ·have:indexByte r c = -1:=by simpa using h1
    simp[this]
  ·simp
theorem apart_eq (l:List UInt8):(decide (indexByte l 59<0) && decide (indexByte l 61<0))=apart l:=by
 rw[ix_neg,ix_neg,apart]
 induction l with
 | nil=>rfl
 | cons a r ih=>
  rw[List.all_cons,List.all_cons,List.all_cons,← ih]
  cases (!(a==59))<;>cases (!(a==61))<;>simp
theorem signB_ascii (l:List UInt8):l.all signB=(apart l && l.all fun c=>decide (c.toNat≤127)):=by
 induction l with
 | nil=>rfl
 | cons a r ih=>
  rw[List.all_cons,apart,List.all_cons,List.all_cons,ih,apart,signB]
  cases decide (a.toNat≤127)<;>cases (!(a==59) && !(a==61))<;>cases (r.all fun c=>!(c==59) && !(c==61))<;>simp
end Pl
theorem implSignByte (c:UInt8)(w:World):Calls Tryz.prog 137 #[.int .u8 (c.toNat:Int)] w fun e w'=>e=.returned (.bool (Pl.signB c))∧w=w':=by
 have h8:c.toNat<256:=UInt8.toNat_lt _
 unfold Pl.signB
 by_cases h1:c.toNat≤127
 ·rw[decide_eq_true h1,Bool.true_and]
  cases h2:((c.toNat:Int)==59)
  ·have e2:(c==59)=false:=beq_eq_false_iff_ne.2 (Pl.byte_ne c 59 _ rfl h2)
   have n2:((c.toNat:Int) != 59)=true:=by rw[bne,h2];rfl
   rw[e2,Bool.not_false,Bool.true_and]
   cases h3:((c.toNat:Int)==61)
   ·have e3:(c==61)=false:=beq_eq_false_iff_ne.2 (Pl.byte_ne c 61 _ rfl h3)
    have n3:((c.toNat:Int) != 61)=true:=by rw[bne,h3];rfl
    rw[e3,Bool.not_false]
    go_enter Tryz.func137,Tryz.ntmps137
    go_wp2
    go_ret
    exact⟨rfl,rfl⟩
   ·have e3:(c==61)=true:=beq_iff_eq.2 (Pl.byte_eq c 61 _ rfl h3)
    have n3:((c.toNat:Int) != 61)=false:=by rw[bne,h3];rfl
    rw[e3,Bool.not_true]
    go_enter Tryz.func137,Tryz.ntmps137
    go_wp2
    go_ret
    exact⟨rfl,rfl⟩
  ·have e2:(c==59)=true:=beq_iff_eq.2 (Pl.byte_eq c 59 _ rfl h2)
   have n2:((c.toNat:Int) != 59)=false:=by rw[bne,h2];rfl
   rw[e2,Bool.not_true,Bool.false_and]
   go_enter Tryz.func137,Tryz.ntmps137
   go_wp2
   go_ret
   exact⟨rfl,rfl⟩
 ·rw[decide_eq_false h1,Bool.false_and]
  go_enter Tryz.func137,Tryz.ntmps137
  go_wp2
  go_ret
  exact⟨rfl,rfl⟩
theorem kindSign:Kind 137 Pl.signB:=⟨Go.Proofs.enters_of Tryz.func137 (by kernel_rfl) rfl,implSignByte⟩
theorem implSelByte (c:UInt8)(w:World):Calls Tryz.prog 138 #[.int .u8 (c.toNat:Int)] w fun e w'=>e=.returned (.bool (Pl.selB c))∧w=w':=by
 have h8:c.toNat<256:=UInt8.toNat_lt _
 have hD:=fun w=>implDigit c w
 unfold Pl.selB
 by_cases h1:97≤c.toNat
 ·rw[decide_eq_true h1,Bool.true_and]
  by_cases h2:c.toNat≤122
  ·rw[decide_eq_true h2,Bool.true_or]
   go_enter Tryz.func138,Tryz.ntmps138
   go_wp2
   go_ret
   first|exact⟨rfl,rfl⟩|exact⟨congrArg (fun b=>Ending.returned (.bool b)) (by simp;omega),rfl⟩
  ·rw[decide_eq_false h2,Bool.false_or]
   have d2:decide ((c.toNat:Int)≤122)=false:=decide_eq_false (by omega)
   generalize Pl.digit c=b at *
   go_enter Tryz.func138,Tryz.ntmps138
   go_wp2_with fail
   refine(hD _).mono ?_
   rintro e w2 ⟨rfl,rfl⟩
   go_wp2
   go_ret
   exact⟨rfl,rfl⟩
 ·rw[decide_eq_false h1,Bool.false_and,Bool.false_or]
  generalize Pl.digit c=b at *
  go_enter Tryz.func138,Tryz.ntmps138
  go_wp2_with fail
  refine(hD _).mono ?_
  rintro e w2 ⟨rfl,rfl⟩
  go_wp2
  go_ret
  exact⟨rfl,rfl⟩
theorem kindSel:Kind 138 Pl.selB:=⟨Go.Proofs.enters_of Tryz.func138 (by kernel_rfl) rfl,implSelByte⟩
theorem implSelector (s:ByteArray)(w:World)(hs:s.size≤1100000) :
  Calls Tryz.prog 104 #[.string s] w fun e w'=>e=.returned (.bool (Pl.selOk s.data.toList))∧w=w':=by
 have hA:=fun w=>implAllOf kindSel s w hs
 unfold Pl.selOk
 by_cases h0:s.size=0
 ·have hl:s.data.toList=[]:=List.length_eq_zero_iff.1 (by simpa using h0)
  have he:s.toList.isEmpty=true:=by rw[ByteArray.toList_eq,hl];rfl
  rw[hl]
  clear hl hA h0
  go_enter Tryz.func104,Tryz.ntmps104
  go_wp2
  go_ret
  exact⟨rfl,rfl⟩
 ·have hl:s.data.toList.isEmpty=false:=by
   rw[List.isEmpty_eq_false_iff]
   intro e
   have:=congrArg List.length e
   simp at this
   exact h0 (by simpa using this)
  have he:s.toList.isEmpty=false:=by rw[ByteArray.toList_eq];exact hl
  rw[hl,Pl.len_list,Bool.not_false,Bool.true_and]
  clear hl h0
  by_cases h6:s.size≤60
  ·rw[decide_eq_true h6,Bool.true_and]
   generalize s.data.toList.all Pl.selB=b at *
   go_enter Tryz.func104,Tryz.ntmps104
   go_wp2_with fail
   refine(hA _).mono ?_
   rintro e w2 ⟨rfl,rfl⟩
   go_wp2
   go_ret
   exact⟨rfl,rfl⟩
  ·rw[decide_eq_false h6,Bool.false_and]
   clear hA
   go_enter Tryz.func104,Tryz.ntmps104
   go_wp2
   go_ret
   exact⟨rfl,rfl⟩
theorem head_at (s:ByteArray)(h:0<s.size):(s.data.toList.head?==some 91)=(s[0]==91):=by
 have:s.data.toList.head?=some s[0]:=by
  rw[List.head?_eq_getElem?,List.getElem?_eq_getElem (by simpa using h)]
  rfl
 rw[this]
 rfl
theorem implSignDomain (s:ByteArray)(m:Int)(w:World)(hs:s.size≤1100000)(hm:w.cell? ⟨0,0,none⟩=some (.int .i64 m)) :
  Calls Tryz.prog 103 #[.string s] w fun e w'=>e=.returned (.bool (Pl.domOk s.data.toList))∧Below w.heap.size w w':=by
 have hD:=implDomain s m w hs hm
 have hA:=fun w=>implAllOf kindSign s w hs
 unfold Pl.domOk
 by_cases h0:0<s.size
 ·have h8:s[0].toNat<256:=UInt8.toNat_lt _
  rw[head_at s h0]
  generalize Pl.domI s.data.toList=bd at *
  generalize s.data.toList.all Pl.signB=ba at *
  cases h91:((s[0].toNat:Int)==91)
  ·have e91:(s[0]==91)=false:=beq_eq_false_iff_ne.2 (Pl.byte_ne _ 91 _ rfl h91)
   have n91:((s[0].toNat:Int) != 91)=true:=by rw[bne,h91];rfl
   rw[e91]
   generalize hsk:s[0]=c0 at *
   cases bd
   ·go_enter Tryz.func103,Tryz.ntmps103
    go_wp2_with fail
    refine hD.mono ?_
    rintro e w2 ⟨rfl,hb2⟩
    go_wp2
    go_ret
    exact⟨rfl,hb2⟩
   ·go_enter Tryz.func103,Tryz.ntmps103
    go_wp2_with fail
    refine hD.mono ?_
    rintro e w2 ⟨rfl,hb2⟩
    rw[show dcode true=0 from rfl]
    go_wp2_with fail
    refine(hA _).mono ?_
    rintro e w3 ⟨rfl,rfl⟩
    go_wp2
    go_ret
    exact⟨rfl,hb2⟩
  ·have e91:(s[0]==91)=true:=beq_iff_eq.2 (Pl.byte_eq _ 91 _ rfl h91)
   have n91:((s[0].toNat:Int) != 91)=false:=by rw[bne,h91];rfl
   rw[e91,Bool.not_true,Bool.false_and,Bool.and_false]
   generalize hsk:s[0]=c0 at *
   clear hA
   cases bd
   ·go_enter Tryz.func103,Tryz.ntmps103
    go_wp2_with fail
    refine hD.mono ?_
    rintro e w2 ⟨rfl,hb2⟩
    go_wp2
    go_ret
    exact⟨rfl,hb2⟩
   ·go_enter Tryz.func103,Tryz.ntmps103
    go_wp2_with fail
    refine hD.mono ?_
    rintro e w2 ⟨rfl,hb2⟩
    rw[show dcode true=0 from rfl]
    go_wp2
    go_ret
    exact⟨rfl,hb2⟩
 ·have hl:s.data.toList=[]:=List.length_eq_zero_iff.1 (by rw[Pl.len_list];omega)
  rw[hl] at hD ⊢
  rw[show Pl.domI []=false from rfl] at hD ⊢
  rw[Bool.false_and]
  clear hA hl
  go_enter Tryz.func103,Tryz.ntmps103
  go_wp2_with fail
  refine hD.mono ?_
  rintro e w2 ⟨rfl,hb2⟩
  go_wp2
  go_ret
  exact⟨rfl,hb2⟩
theorem specApart (s:ByteArray)(w:World)(hs:s.size≤1100000) :
  Calls Tryz.prog 83 #[.string s] w fun e w'=>e=.returned (.bool (Pl.apart s.data.toList))∧w=w':=by
 have h1:=fun w=>specIndex1 s 59 w hs
 have h2:=fun w=>specIndex1 s 61 w hs
 simp only[ix_zero] at h1 h2
 rw[← Pl.apart_eq]
 have g1:=indexByte_ge s.data.toList 59
 have g2:=indexByte_ge s.data.toList 61
 generalize indexByte s.data.toList 59=i1 at *
 generalize indexByte s.data.toList 61=i2 at *
 by_cases hi:i1<0
 ·rw[decide_eq_true hi,Bool.true_and]
  go_enter Tryz.func83,Tryz.ntmps83
  go_wp2_with fail
  refine(h1 _).mono ?_
  rintro e w2 ⟨rfl,rfl⟩
  go_wp2_with fail
  refine(h2 _).mono ?_
  rintro e w2 ⟨rfl,rfl⟩
  go_wp2
  go_ret
  exact⟨rfl,rfl⟩
 ·rw[decide_eq_false hi,Bool.false_and]
  go_enter Tryz.func83,Tryz.ntmps83
  go_wp2_with fail
  refine(h1 _).mono ?_
  rintro e w2 ⟨rfl,rfl⟩
  go_wp2
  go_ret
  exact⟨rfl,rfl⟩
theorem specSelector (s:ByteArray)(w:World)(hs:s.size≤1100000) :
  Calls Tryz.prog 42 #[.string s] w fun e w'=>e=.returned (.bool (Pl.selOk s.data.toList))∧w=w':=by
 obtain⟨R,hR⟩:∃R,Pl.selOk s.data.toList=R:=⟨_,rfl⟩
 rw[hR]
 by_cases h0:s.size<1
 ·have hl:s.data.toList=[]:=List.length_eq_zero_iff.1 (by rw[Pl.len_list];omega)
  rw[hl] at hR
  subst hR
  go_enter Tryz.func42,Tryz.ntmps42
  go_wp2
  go_ret
  exact⟨rfl,rfl⟩
 ·by_cases h6:60<s.size
  ·have hf:R=false:=by rw[← hR,Pl.selOk,Pl.len_list,decide_eq_false (by omega),Bool.false_and,Bool.and_false]
   subst hf
   clear hR
   go_enter Tryz.func42,Tryz.ntmps42
   go_wp2
   go_ret
   exact⟨rfl,rfl⟩
  ·have hne:s.data.toList.isEmpty=false:=by
    rw[List.isEmpty_eq_false_iff]
    intro e
    have:=congrArg List.length e
    simp at this
    exact h0 (by simp[this])
   have HR:Hid ((s.data.toList.drop 0).all Pl.selB=R):=by
    show _=_
    rw[← hR,Pl.selOk,hne,Pl.len_list,decide_eq_true (by omega)]
    rfl
   clear hR hne
   go_enter Tryz.func42,Tryz.ntmps42
   go_wp2
   go_loopw [3] (fun i wr=>∃ k:Nat,k≤s.size∧i=.int .i64 k∧Hid ((s.data.toList.drop k).all Pl.selB=R)∧wr=w) (fun i _=>s.size-(Lib.intOf i).toNat)
   case atStart=>exact⟨0,Nat.zero_le _,rfl,HR,rfl⟩
   case round=>
    clear HR
    obtain⟨k,hk,rfl,hp,rfl⟩:=hrel
    by_cases hlt:k<s.size
    ·have h8:s[k].toNat<256:=UInt8.toNat_lt _
     have hst:=Pl.all_step Pl.selB s.data.toList k (by simpa using hlt)
     rw[Pl.at_list s k hlt,hp.out] at hst
     have Hst:Hid (R=(Pl.selB s[k] && (s.data.toList.drop (k+1)).all Pl.selB)):=hst
     clear hst hp
     generalize hsk:s[k]=c at *
     cases hg:Pl.selB c
     ·have hR:R=false:=by rw[Hst.out,hg,Bool.false_and]
      subst hR
      have hcs:c.toNat<48∨(57<c.toNat∧c.toNat<97)∨122<c.toNat:=by
       unfold Pl.selB Pl.digit at hg
       simp at hg
       omega
      clear Hst hg
      rcases hcs with h1|⟨h1,h2⟩|h1
      ·have d97:decide ((97:Int)≤(c.toNat:Int))=false:=decide_eq_false (by omega)
       have d48:decide ((48:Int)≤(c.toNat:Int))=false:=decide_eq_false (by omega)
       go_wp2
       go_ret
       exact⟨rfl,rfl⟩
      ·have d97:decide ((97:Int)≤(c.toNat:Int))=false:=decide_eq_false (by omega)
       have d48:decide ((48:Int)≤(c.toNat:Int))=true:=decide_eq_true (by omega)
       have d57:decide ((c.toNat:Int)≤57)=false:=decide_eq_false (by omega)
       go_wp2
       go_ret
       exact⟨rfl,rfl⟩
      ·have d97:decide ((97:Int)≤(c.toNat:Int))=true:=decide_eq_true (by omega)
       have d122:decide ((c.toNat:Int)≤122)=false:=decide_eq_false (by omega)
       have d48:decide ((48:Int)≤(c.toNat:Int))=true:=decide_eq_true (by omega)
       have d57:decide ((c.toNat:Int)≤57)=false:=decide_eq_false (by omega)
       clear h1
       go_wp2
       go_ret
       exact⟨rfl,rfl⟩
     ·have HN:Hid ((s.data.toList.drop (k+1)).all Pl.selB=R):=by show _=_;rw[Hst.out,hg,Bool.true_and]
      have hcs:(97≤c.toNat∧c.toNat≤122)∨(48≤c.toNat∧c.toNat≤57):=by
       unfold Pl.selB Pl.digit at hg
       simp at hg
       omega
      clear Hst hg
      rcases hcs with ⟨h1,h2⟩|⟨h1,h2⟩
      ·have d97:decide ((97:Int)≤(c.toNat:Int))=true:=decide_eq_true (by omega)
       have d122:decide ((c.toNat:Int)≤122)=true:=decide_eq_true (by omega)
       clear h1 h2
       go_wp2
       go_roundw
       case rel=>exact⟨k+1,by omega,by go_num,HN,trivial⟩
       case measure=>simp[Lib.intOf];omega
      ·have d97:decide ((97:Int)≤(c.toNat:Int))=false:=decide_eq_false (by omega)
       have d48:decide ((48:Int)≤(c.toNat:Int))=true:=decide_eq_true (by omega)
       have d57:decide ((c.toNat:Int)≤57)=true:=decide_eq_true (by omega)
       clear h1 h2
       go_wp2
       go_roundw
       case rel=>exact⟨k+1,by omega,by go_num,HN,trivial⟩
       case measure=>simp[Lib.intOf];omega
    ·have hR:R=true:=by rw[← hp.out];exact Pl.all_done Pl.selB _ k (by simp;omega)
     subst hR
     clear hp
     go_wp2
     go_ret
     exact⟨rfl,rfl⟩
theorem specSignDomain (s:ByteArray)(w:World)(hs:s.size≤1100000) :
  Calls Tryz.prog 41 #[.string s] w fun e w'=>e=.returned (.bool (Pl.domOk s.data.toList))∧Below w.heap.size w w':=by
 have hD:=specDomain s w hs
 have hA:=fun w=>specApart s w hs
 unfold Pl.domOk
 rw[Pl.signB_ascii]
 by_cases h0:0<s.size
 ·have h8:s[0].toNat<256:=UInt8.toNat_lt _
  rw[head_at s h0]
  generalize Pl.domI s.data.toList=bd at *
  generalize Pl.apart s.data.toList=ba at *
  cases bd
  ·clear hA
   go_enter Tryz.func41,Tryz.ntmps41
   go_wp2_with fail
   refine hD.mono ?_
   rintro e w2 ⟨rfl,hb2⟩
   rw[show dcode false=1 from rfl]
   go_wp2
   go_ret
   exact⟨rfl,hb2⟩
  ·cases h91:((s[0].toNat:Int)==91)
   ·have e91:(s[0]==91)=false:=beq_eq_false_iff_ne.2 (Pl.byte_ne _ 91 _ rfl h91)
    rw[e91,Bool.not_false,Bool.true_and,Bool.true_and]
    cases ba
    ·generalize hsk:s[0]=c0 at *
     go_enter Tryz.func41,Tryz.ntmps41
     go_wp2_with fail
     refine hD.mono ?_
     rintro e w2 ⟨rfl,hb2⟩
     rw[show dcode true=0 from rfl]
     go_wp2_with fail
     refine(hA _).mono ?_
     rintro e w3 ⟨rfl,rfl⟩
     go_wp2
     go_ret
     exact⟨rfl,hb2⟩
    ·rw[Bool.true_and]
     obtain⟨R,hR⟩:∃R,(s.data.toList.all fun c=>decide (c.toNat≤127))=R:=⟨_,rfl⟩
     have HR:Hid (((s.data.toList.drop 0).all fun c=>decide (c.toNat≤127))=R):=hR
     rw[hR]
     clear hR e91
     generalize hsk:s[0]=c0 at *
     go_enter Tryz.func41,Tryz.ntmps41
     go_wp2_with fail
     refine hD.mono ?_
     rintro e w2 ⟨rfl,hb2⟩
     rw[show dcode true=0 from rfl]
     go_wp2_with fail
     refine(hA _).mono ?_
     rintro e w3 ⟨rfl,rfl⟩
     have Hb2:Hid (Below w.heap.size w w2):=hb2
     clear hA hD hb2 hsk h91 h8
     obtain⟨V,hV⟩:∃V,V=w2:=⟨_,rfl⟩
     subst hV
     go_wp2
     go_loopw [3] (fun i wr=>∃ k:Nat,k≤s.size∧i=.int .i64 k∧Hid (((s.data.toList.drop k).all fun c=>decide (c.toNat≤127))=R)∧wr=V) (fun i _=>s.size-(Lib.intOf i).toNat)
     case atStart=>exact⟨0,Nat.zero_le _,rfl,HR,rfl⟩
     case round=>
      clear HR
      obtain⟨k,hk,rfl,hp,rfl⟩:=hrel
      by_cases hlt:k<s.size
      ·have h8:s[k].toNat<256:=UInt8.toNat_lt _
       have hst:=Pl.all_step (fun c=>decide (c.toNat≤127)) s.data.toList k (by simpa using hlt)
       rw[Pl.at_list s k hlt,hp.out] at hst
       have Hst:Hid (R=(decide (s[k].toNat≤127) && ((s.data.toList.drop (k+1)).all fun c=>decide (c.toNat≤127)))):=hst
       clear hst hp
       generalize hsk:s[k]=c at *
       by_cases h1:c.toNat≤127
       ·have HN:Hid (((s.data.toList.drop (k+1)).all fun c=>decide (c.toNat≤127))=R):=by show _=_;rw[Hst.out,decide_eq_true h1,Bool.true_and]
        clear Hst
        go_wp2
        go_roundw
        case rel=>exact⟨k+1,by omega,by go_num,HN,trivial⟩
        case measure=>simp[Lib.intOf];omega
       ·have hR:R=false:=by rw[Hst.out,decide_eq_false h1,Bool.false_and]
        subst hR
        clear Hst
        go_wp2
        go_ret
        exact⟨rfl,Hb2.out⟩
      ·have hR:R=true:=by rw[← hp.out];exact Pl.all_done (fun c=>decide (c.toNat≤127)) _ k (by simp;omega)
       subst hR
       clear hp
       go_wp2
       go_ret
       exact⟨rfl,Hb2.out⟩
   ·have e91:(s[0]==91)=true:=beq_iff_eq.2 (Pl.byte_eq _ 91 _ rfl h91)
    rw[e91,Bool.not_true,Bool.false_and,Bool.and_false]
    generalize hsk:s[0]=c0 at *
    clear hA
    go_enter Tryz.func41,Tryz.ntmps41
    go_wp2_with fail
    refine hD.mono ?_
    rintro e w2 ⟨rfl,hb2⟩
    rw[show dcode true=0 from rfl]
    go_wp2
    go_ret
    exact⟨rfl,hb2⟩
 ·have hl:s.data.toList=[]:=List.length_eq_zero_iff.1 (by rw[Pl.len_list];omega)
  rw[hl] at hD ⊢
  rw[show Pl.domI []=false from rfl] at hD ⊢
  rw[Bool.false_and]
  clear hA hl
  go_enter Tryz.func41,Tryz.ntmps41
  go_wp2_with fail
  refine hD.mono ?_
  rintro e w2 ⟨rfl,hb2⟩
  rw[show dcode false=1 from rfl]
  go_wp2
  go_ret
  exact⟨rfl,hb2⟩
end Go.Proofs.YtkcajnjledldnaaGreatDoor
