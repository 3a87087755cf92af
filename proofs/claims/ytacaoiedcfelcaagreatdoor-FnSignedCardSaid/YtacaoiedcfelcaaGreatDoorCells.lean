import Derived.Test.YtacaoiedcfelcaaGreatDoorAllOf
import Derived.Lib.SplitLaws
import Derived.Laws.OwnMore
import Derived.Test.YtacaoiedcfelcaaGreatDoorOwnF
import Derived.WalkKit
import Derived.WalkLawsBesides
import Derived.WalkSpells
import Derived.Below
import Derived.Maps.OwnSet
set_option maxRecDepth 20000
set_option maxHeartbeats 1000000
namespace Go.Proofs.YtacaoiedcfelcaaGreatDoor
open Go.Lib
namespace Pl
def tb (c:UInt8):Bool:=decide (32≤c.toNat) && !(c==127)
def signs:List UInt8:=[33,35,36,37,38,39,42,43,45,47,61,63,94,95,123,124,125,126,96]
def signs0:List UInt8:=[33,35,36,37,38,39,42,43,45,47,61,63,94,95,123,124,125,126]
def alnum (c:UInt8):Bool:=decide (65≤c.toNat∧c.toNat≤90) || (decide (97≤c.toNat∧c.toNat≤122) || (decide (48≤c.toNat∧c.toNat≤57) || decide (128≤c.toNat)))
def atom (c:UInt8):Bool:=alnum c || decide (0≤indexByte signs c)
def atom' (c:UInt8):Bool:=alnum c || (c==96 || (decide (32<c.toNat) && (decide (c.toNat<127) && decide (0≤indexByte signs0 c))))
theorem atom_all:∀n,n<256→atom (UInt8.ofNat n)=atom' (UInt8.ofNat n):=by decide +kernel
theorem atom_eq (c:UInt8):atom' c=atom c:=by
 have:=atom_all c.toNat (UInt8.toNat_lt c)
 rw[UInt8.ofNat_toNat] at this
 exact this.symm
theorem atom_point:atom 46=false:=by decide +kernel
def scan (d:UInt8):Bool→List UInt8→Bool
 | was,[]=>was
 | was,c::r=>if atom c then scan d true r else if c==d && was then scan d false r else false
def sp (d:UInt8):List UInt8→List (List UInt8)
 | []=>[[]]
 | c::r=>if c=d then []::sp d r else match sp d r with|h::t=>(c::h)::t | []=>[[c]]
def okA (p:List UInt8):Bool:=!p.isEmpty && p.all atom
theorem sp_ne (d:UInt8)(l:List UInt8):∃h t,sp d l=h::t:=by
 cases l with
 | nil=>exact⟨[],[],rfl⟩
 | cons c r=>
  unfold sp
  split
  ·exact⟨_,_,rfl⟩
  ·cases sp d r with
   | nil=>exact⟨_,_,rfl⟩
   | cons h t=>exact⟨_,_,rfl⟩
theorem scan_sp (d:UInt8)(hd:atom d=false):∀(l h:List UInt8)(t:List (List UInt8)),sp d l=h::t→scan d true l=(h.all atom && t.all okA)∧scan d false l=(okA h && t.all okA)
 | [],h,t,e=>by
  simp only[sp,List.cons.injEq] at e
  obtain⟨rfl,rfl⟩:=e
  exact⟨rfl,rfl⟩
 | c::r,h,t,e=>by
  obtain⟨h',t',e'⟩:=sp_ne d r
  obtain⟨i1,i2⟩:=scan_sp d hd r h' t' e'
  by_cases hc:c=d
  ·subst hc
   rw[sp,if_pos rfl,List.cons.injEq] at e
   obtain⟨rfl,rfl⟩:=e
   constructor
   ·rw[scan,if_neg (by rw[hd];simp),if_pos (by simp),i2,e']
    rfl
   ·rw[scan,if_neg (by rw[hd];simp),if_neg (by simp)]
    rfl
  ·rw[sp,if_neg hc,e'] at e
   simp only[List.cons.injEq] at e
   obtain⟨rfl,rfl⟩:=e
   by_cases ha:atom c=true
   ·constructor
    ·rw[scan,if_pos ha,i1,List.all_cons,ha,Bool.true_and]
    ·rw[scan,if_pos ha,i1,okA,List.all_cons,ha,Bool.true_and]
     rfl
   ·rw[Bool.not_eq_true] at ha
    have hn:(c==d)=false:=by simpa using hc
    constructor
    ·rw[scan,if_neg (by rw[ha];simp),hn,List.all_cons,ha]
     rfl
    ·rw[scan,if_neg (by rw[ha];simp),hn,okA,List.all_cons,ha]
     simp
theorem scan_all (d:UInt8)(hd:atom d=false)(l:List UInt8):(sp d l).all okA=scan d false l:=by
 obtain⟨h,t,e⟩:=sp_ne d l
 rw[(scan_sp d hd l h t e).2,e,List.all_cons]
theorem split_sp (d:UInt8):∀l:List UInt8,splitK [d] 0 (count l [d]) l=sp d l
 | []=>by rw[count_miss (by simp[index])];rfl
 | c::r=>by
  have ih:=split_sp d r
  by_cases hc:c=d
  ·subst hc
   have hix:index (c::r) [c]=0:=by rw[index];simp[List.isPrefixOf]
   rw[count_cons_eq,Nat.add_comm,splitK,hix,if_neg (by decide),sp,if_pos rfl,← ih]
   rfl
  ·have hp:([d]:List UInt8).isPrefixOf (c::r)=false:=by simp[List.isPrefixOf,Ne.symm hc]
   have hix:index (c::r) [d]=if index r [d] == -1 then -1 else index r [d]+1:=by rw[index,hp];simp
   rw[count_cons_ne c d r hc,sp,if_neg hc,← ih]
   by_cases hm:index r [d] = -1
   ·rw[count_miss hm]
    rfl
   ·have hge:=index_ge r [d]
    obtain⟨j,hj⟩:∃j:Nat,index r [d]=j:=⟨(index r [d]).toNat,by omega⟩
    have hne:(index r [d] == -1)=false:=by rw[hj];simp
    rw[hne] at hix
    simp only[Bool.false_eq_true,if_false] at hix
    have hne2:(index (c::r) [d] == -1)=false:=by rw[hix,hj];simp;omega
    obtain⟨k,hk⟩:∃k,count r [d]=k+1:=⟨count (r.drop (j+1)) [d],by rw[count_hit (by simp) hj];simp;omega⟩
    rw[hk,splitK,splitK,hne,hne2,hix,hj]
    have e1:((j:Int)+1).toNat=j+1:=by omega
    simp only[Bool.false_eq_true,if_false,e1,Int.toNat_natCast,Nat.add_zero,List.take_succ_cons,List.length_cons,List.length_nil]
    rfl
def qs:List UInt8→List UInt8
 | []=>[]
 | c::r=>if c==34 || c==92 then 92::c::qs r else c::qs r
theorem qs_esc (l p x:List UInt8)(k:Nat)(hk:k<l.length)(h:(l[k]==34 || l[k]==92)=true)(hp:p++qs (l.drop k)=x):(p ++ [92] ++ [l[k]])++qs (l.drop (k+1))=x:=by
 rw[drop_cons l k hk,qs,if_pos h] at hp
 simpa using hp
theorem qs_plain (l p x:List UInt8)(k:Nat)(hk:k<l.length)(h:(l[k]==34 || l[k]==92)=false)(hp:p++qs (l.drop k)=x):(p ++ [l[k]])++qs (l.drop (k+1))=x:=by
 rw[drop_cons l k hk,qs,if_neg (by rw[h];simp)] at hp
 simpa using hp
theorem qs_done (l p x:List UInt8)(k:Nat)(hk:l.length≤k)(hp:p++qs (l.drop k)=x):p=x:=by
 rw[List.drop_eq_nil_of_le hk] at hp
 simpa [qs] using hp
def phrase (l:List UInt8):List UInt8:=if l.all tb then (if scan 32 false l then l else 34::qs l ++ [34]) else []
end Pl
open Go.RowKit Go.Lib
theorem tb_cases (c:UInt8):c.toNat<32∧Pl.tb c=false∨32≤c.toNat∧((c.toNat:Int)==127)=true∧Pl.tb c=false∨32≤c.toNat∧((c.toNat:Int)==127)=false∧Pl.tb c=true:=by
 by_cases h1:c.toNat<32
 ·exact .inl ⟨h1,by simp[Pl.tb];omega⟩
 ·cases h3:((c.toNat:Int)==127)
  ·refine .inr (.inr ⟨by omega,rfl,?_⟩)
   have:=Pl.byte_ne c 127 _ rfl h3
   simp[Pl.tb,this];omega
  ·refine .inr (.inl ⟨by omega,rfl,?_⟩)
   rw[Pl.byte_eq c 127 _ rfl h3];rfl
def Pl.letter (c:UInt8):Bool:=decide (65≤c.toNat∧c.toNat≤90) || decide (97≤c.toNat∧c.toNat≤122)
def Pl.digit (c:UInt8):Bool:=decide (48≤c.toNat∧c.toNat≤57)
theorem range_cases (c:UInt8):(c.toNat<48∧Pl.alnum c=false)∨(48≤c.toNat∧c.toNat≤57∧Pl.alnum c=true)∨(58≤c.toNat∧c.toNat≤64∧Pl.alnum c=false)∨(65≤c.toNat∧c.toNat≤90∧Pl.alnum c=true) ∨
  (91≤c.toNat∧c.toNat≤96∧Pl.alnum c=false)∨(97≤c.toNat∧c.toNat≤122∧Pl.alnum c=true)∨(123≤c.toNat∧c.toNat≤127∧Pl.alnum c=false)∨(128≤c.toNat∧Pl.alnum c=true):=by
 unfold Pl.alnum
 by_cases h1:c.toNat<48
 ·exact .inl ⟨h1,by simp;omega⟩
 by_cases h2:c.toNat≤57
 ·exact .inr (.inl ⟨by omega,h2,by simp;omega⟩)
 by_cases h3:c.toNat≤64
 ·exact .inr (.inr (.inl ⟨by omega,h3,by simp;omega⟩))
 by_cases h4:c.toNat≤90
 ·exact .inr (.inr (.inr (.inl ⟨by omega,h4,by simp;omega⟩)))
 by_cases h5:c.toNat≤96
 ·exact .inr (.inr (.inr (.inr (.inl ⟨by omega,h5,by simp;omega⟩))))
 by_cases h6:c.toNat≤122
 ·exact .inr (.inr (.inr (.inr (.inr (.inl ⟨by omega,h6,by simp;omega⟩)))))
 by_cases h7:c.toNat≤127
 ·exact .inr (.inr (.inr (.inr (.inr (.inr (.inl ⟨by omega,h7,by simp;omega⟩))))))
 ·exact .inr (.inr (.inr (.inr (.inr (.inr (.inr ⟨by omega,by simp;omega⟩))))))
theorem implLetter (c:UInt8)(w:World):Calls Tryz.prog 244 #[.int .u8 (c.toNat:Int)] w fun e w'=>e=.returned (.bool (Pl.letter c))∧w=w':=by
 have h8:c.toNat<256:=UInt8.toNat_lt _
 rcases range_cases c with ⟨h0,ha⟩|⟨h0,h1,ha⟩|⟨h0,h1,ha⟩|⟨h0,h1,ha⟩|⟨h0,h1,ha⟩|⟨h0,h1,ha⟩|⟨h0,h1,ha⟩|⟨h0,ha⟩<;>clear ha
 all_goals
  first|rw[show Pl.letter c=true from by simp[Pl.letter];omega]|rw[show Pl.letter c=false from by simp[Pl.letter];omega]
  go_enter Tryz.func244,Tryz.ntmps244
  go_wp2
  go_ret
  first|exact⟨rfl,rfl⟩|exact⟨congrArg (fun b=>Ending.returned (.bool b)) (by simp;omega),rfl⟩
theorem implDigit (c:UInt8)(w:World):Calls Tryz.prog 191 #[.int .u8 (c.toNat:Int)] w fun e w'=>e=.returned (.bool (Pl.digit c))∧w=w':=by
 have h8:c.toNat<256:=UInt8.toNat_lt _
 by_cases h0:48≤c.toNat
 ·rw[show Pl.digit c=decide ((c.toNat:Int)≤57) from by unfold Pl.digit;by_cases h:c.toNat≤57<;>simp[h]<;>omega]
  go_enter Tryz.func191,Tryz.ntmps191
  go_wp2
  go_ret
  exact⟨rfl,rfl⟩
 ·rw[show Pl.digit c=false from by simp[Pl.digit];omega]
  go_enter Tryz.func191,Tryz.ntmps191
  go_wp2
  go_ret
  exact⟨rfl,rfl⟩
theorem libIndexByte (c:UInt8)(w:World):Calls Tryz.prog 245 #[.string ⟨#[33,35,36,37,38,39,42,43,45,47,61,63,94,95,123,124,125,126,96]⟩,.int .u8 (c.toNat:Int)] w fun e w'=>e=.returned (.int .i64 (indexByte Pl.signs c))∧w=w':=by
 refine(Tryz.strings_IndexByte _ _ w).mono ?_
 rintro e w' ⟨rfl,rfl⟩
 refine⟨?_,rfl⟩
 have:(c.toNat:Int).toNat.toUInt8=c:=by simp
 rw[this]
 rfl
theorem implAtomByte (c:UInt8)(w:World):Calls Tryz.prog 219 #[.int .u8 (c.toNat:Int)] w fun e w'=>e=.returned (.bool (Pl.atom c))∧w=w':=by
 have h8:c.toNat<256:=UInt8.toNat_lt _
 have hx:=fun w=>libIndexByte c w
 have hL:=fun w=>implLetter c w
 have hD:=fun w=>implDigit c w
 unfold Pl.atom
 generalize indexByte Pl.signs c=i at hx
 rcases range_cases c with ⟨h0,ha⟩|⟨h0,h1,ha⟩|⟨h0,h1,ha⟩|⟨h0,h1,ha⟩|⟨h0,h1,ha⟩|⟨h0,h1,ha⟩|⟨h0,h1,ha⟩|⟨h0,ha⟩<;>rw[ha]<;>clear ha<;>(try rw[Bool.false_or])<;>(try rw[Bool.true_or])
 all_goals
  first|simp only[show Pl.letter c=true from by simp[Pl.letter];omega] at hL|simp only[show Pl.letter c=false from by simp[Pl.letter];omega] at hL
  first|simp only[show Pl.digit c=true from by simp[Pl.digit];omega] at hD|simp only[show Pl.digit c=false from by simp[Pl.digit];omega] at hD
  go_enter Tryz.func219,Tryz.ntmps219
  go_wp2_with first|(go_at_call 244;go_must (refine(hL _).mono ?_;rintro e w2 ⟨rfl,rfl⟩))|(go_at_call 191;go_must (refine(hD _).mono ?_;rintro e w2 ⟨rfl,rfl⟩))|(go_at_call 245;go_must (refine(hx _).mono ?_;rintro e w2 ⟨rfl,rfl⟩))
  go_ret
  first|exact⟨rfl,rfl⟩|exact⟨congrArg (fun b=>Ending.returned (.bool b)) (by simp;omega),rfl⟩
theorem kindAtom:Kind 219 Pl.atom:=⟨Go.Proofs.enters_of Tryz.func219 (by kernel_rfl) rfl,implAtomByte⟩
theorem ix_hit (l:List UInt8)(c:UInt8)(k:Nat)(hk:k<l.length)(h:l[k]=c):indexByte (l.drop k) c=0:=by
 rw[Pl.drop_cons l k hk,indexByte,if_pos (by simpa using h)]
theorem ix_miss (l:List UInt8)(c:UInt8)(k:Nat)(hk:k<l.length)(h:l[k]≠c):indexByte (l.drop k) c=if indexByte (l.drop (k+1)) c == -1 then -1 else indexByte (l.drop (k+1)) c+1:=by
 rw[Pl.drop_cons l k hk,indexByte,if_neg (by simpa using h)]
theorem ext_one (s:ByteArray)(k:Nat)(h:k<s.size):s.extract k (k+1)=⟨#[s[k]]⟩:=by
 apply ByteArray.ext
 apply Array.ext'
 rw[Pl.ext_data,Pl.drop_cons _ k (by simpa using h)]
 simp
 rfl
def ixFrom (l:List UInt8)(c:UInt8)(k:Nat):Int:=if indexByte (l.drop k) c == -1 then -1 else indexByte (l.drop k) c+k
theorem ixFrom_hit (l:List UInt8)(c:UInt8)(k:Nat)(hk:k<l.length)(h:l[k]=c):ixFrom l c k=k:=by
 rw[ixFrom,ix_hit l c k hk h];simp
theorem ixFrom_miss (l:List UInt8)(c:UInt8)(k:Nat)(hk:k<l.length)(h:l[k]≠c):ixFrom l c (k+1)=ixFrom l c k:=by
 rw[ixFrom,ixFrom,ix_miss l c k hk h]
 have:=indexByte_ge (l.drop (k+1)) c
 generalize indexByte (l.drop (k+1)) c=i at *
 by_cases hi:i = -1
 ·subst hi;rfl
 ·have h1:(i == -1)=false:=by simpa using hi
  have h2:(i+1 == -1)=false:=by simp;omega
  rw[h1]
  simp only[Bool.false_eq_true,if_false,h2]
  omega
theorem ixFrom_end (l:List UInt8)(c:UInt8)(k:Nat)(hk:l.length≤k):ixFrom l c k = -1:=by
 rw[ixFrom,List.drop_eq_nil_of_le hk];rfl
theorem specIndex1 (s:ByteArray)(c:UInt8)(w:World)(_hs:s.size≤1100000) :
  Calls Tryz.prog 112 #[.string s,.string ⟨#[c]⟩,.int .i64 0] w fun e w'=>e=.returned (.int .i64 (ixFrom s.data.toList c 0))∧w=w':=by
 obtain⟨R,hR⟩:∃R,ixFrom s.data.toList c 0=R:=⟨_,rfl⟩
 rw[hR]
 have HR:=(show Hid (ixFrom s.data.toList c 0=R) from hR)
 clear hR
 have h1:(ByteArray.mk #[c]).size=1:=rfl
 go_enter Tryz.func112,Tryz.ntmps112
 go_wp2
 go_loopw [7] (fun i wr=>∃ k:Nat,k≤s.size∧i=.int .i64 k∧Hid (ixFrom s.data.toList c k=R)∧wr=w) (fun i _=>s.size-(Lib.intOf i).toNat)
 case atStart=>exact⟨0,Nat.zero_le _,rfl,HR,rfl⟩
 case round=>
  clear HR
  obtain⟨k,hk,rfl,hp,rfl⟩:=hrel
  by_cases hlt:k<s.size
  ·have he:=ext_one s k hlt
   by_cases hc:s[k]=c
   ·have hE:Hid (R=k):=show _=_ from by rw[← hp.out,ixFrom_hit s.data.toList c k (by simpa using hlt) hc]
    rw[hc] at he
    clear hp
    go_wp2
    go_ret
    rw[hE.out]
    exact⟨rfl,rfl⟩
   ·have hE:Hid (ixFrom s.data.toList c (k+1)=R):=show _=_ from by rw[← hp.out,ixFrom_miss s.data.toList c k (by simpa using hlt) hc]
    have hcc:(s[k]==c)=false:=by simpa using hc
    clear hp
    go_wp2
    go_roundw
    case rel=>exact⟨k+1,by omega,by go_num,hE,trivial⟩
    case measure=>simp[Lib.intOf];omega
  ·have hE:Hid (R = -1):=show _=_ from by rw[← hp.out,ixFrom_end s.data.toList c k (by simp;omega)]
   clear hp
   go_wp2
   go_ret
   rw[hE.out]
   exact⟨rfl,rfl⟩
theorem ix_zero (l:List UInt8)(c:UInt8):ixFrom l c 0=indexByte l c:=by
 rw[ixFrom,List.drop_zero]
 by_cases h:indexByte l c = -1
 ·rw[h];rfl
 ·have:(indexByte l c == -1)=false:=by simpa using h
  rw[this]
  simp
theorem specSigns (c:UInt8)(w:World):Calls Tryz.prog 112 #[.string ⟨#[33,35,36,37,38,39,42,43,45,47,61,63,94,95,123,124,125,126]⟩,.string ⟨#[c]⟩,.int .i64 0] w fun e w'=>e=.returned (.int .i64 (indexByte Pl.signs0 c))∧w=w':=by
 refine(specIndex1 _ c w (by show 18≤1100000;omega)).mono ?_
 rintro e w' ⟨rfl,rfl⟩
 rw[ix_zero]
 exact⟨rfl,rfl⟩
theorem specAtomByte (c:UInt8)(w:World):Calls Tryz.prog 204 #[.int .u8 (c.toNat:Int)] w fun e w'=>e=.returned (.bool (Pl.atom c))∧Below w.heap.size w w':=by
 have h8:c.toNat<256:=UInt8.toNat_lt _
 have hx:=fun w=>specSigns c w
 have hcv:(convert 22 9 (.slice (some ⟨w.heap.size,0,none⟩) 1 1)).run Tryz.prog (w.alloc (.cells #[.int .u8 (c.toNat:Int)] 5))=.ok (.string ⟨#[c]⟩) (w.alloc (.cells #[.int .u8 (c.toNat:Int)] 5)):=by
  refine run_convert_bytes_back (P:=Tryz.prog) _ 22 9 5 ⟨w.heap.size,0,none⟩ 1 [c] Tryz.underlying22 Tryz.underlying5 Tryz.underlying9 ?_
  intro j hj
  match j,hj with
  | 0,hj=>rw[add_off];simp
 have hbA:Below w.heap.size w (w.alloc (.cells #[.int .u8 (c.toNat:Int)] 5)):=(Below.refl _ _).alloc (Nat.le_refl _) _
 have hb0:Below w.heap.size w w:=Below.refl _ _
 rw[← Pl.atom_eq]
 unfold Pl.atom'
 generalize indexByte Pl.signs0 c=i at hx ⊢
 cases h96:((c.toNat:Int)==96)
 ·have hc96:(c==96)=false:=by simpa using Pl.byte_ne c 96 _ rfl h96
  rw[hc96,Bool.false_or]
  by_cases h32:32<c.toNat
  ·by_cases h127:c.toNat<127
   ·rw[decide_eq_true h32,decide_eq_true h127,Bool.true_and,Bool.true_and]
    rcases range_cases c with ⟨h0,ha⟩|⟨h0,h1,ha⟩|⟨h0,h1,ha⟩|⟨h0,h1,ha⟩|⟨h0,h1,ha⟩|⟨h0,h1,ha⟩|⟨h0,h1,ha⟩|⟨h0,ha⟩<;>rw[ha]<;>clear ha<;>(try (exfalso;omega))<;>(try rw[Bool.false_or])<;>(try rw[Bool.true_or])
    all_goals
     go_enter Tryz.func204,Tryz.ntmps204
     go_wp2_with (go_at_call 112;go_must (refine(hx _).mono ?_;rintro e w2 ⟨rfl,rfl⟩))
     go_ret
     first|exact⟨rfl,hb0⟩|exact⟨rfl,hbA⟩
   ·rw[decide_eq_true h32,decide_eq_false h127,Bool.true_and,Bool.false_and,Bool.or_false]
    rcases range_cases c with ⟨h0,ha⟩|⟨h0,h1,ha⟩|⟨h0,h1,ha⟩|⟨h0,h1,ha⟩|⟨h0,h1,ha⟩|⟨h0,h1,ha⟩|⟨h0,h1,ha⟩|⟨h0,ha⟩<;>rw[ha]<;>clear ha<;>(try (exfalso;omega))
    all_goals
     go_enter Tryz.func204,Tryz.ntmps204
     go_wp2
     go_ret
     exact⟨rfl,hb0⟩
  ·rw[decide_eq_false h32,Bool.false_and,Bool.or_false]
   rcases range_cases c with ⟨h0,ha⟩|⟨h0,h1,ha⟩|⟨h0,h1,ha⟩|⟨h0,h1,ha⟩|⟨h0,h1,ha⟩|⟨h0,h1,ha⟩|⟨h0,h1,ha⟩|⟨h0,ha⟩<;>rw[ha]<;>clear ha<;>(try (exfalso;omega))
   all_goals
    go_enter Tryz.func204,Tryz.ntmps204
    go_wp2
    go_ret
    exact⟨rfl,hb0⟩
 ·have hc96:c=96:=Pl.byte_eq c 96 _ rfl h96
  rw[show(c==96)=true from by rw[hc96];rfl,Bool.true_or,Bool.or_true]
  have hn:c.toNat=96:=by rw[hc96];rfl
  clear hc96
  go_enter Tryz.func204,Tryz.ntmps204
  go_wp2
  go_ret
  exact⟨rfl,hb0⟩
theorem specClean (s:ByteArray)(w:World)(_hs:s.size≤1100000) :
  Calls Tryz.prog 180 #[.string s] w fun e w'=>e=.returned (.bool (s.data.toList.all Pl.tb))∧w=w':=by
 obtain⟨A,hA⟩:∃A,s.data.toList.all Pl.tb=A:=⟨_,rfl⟩
 rw[hA]
 have HA:Hid ((s.data.toList.drop 0).all Pl.tb=A):=hA
 clear hA
 go_enter Tryz.func180,Tryz.ntmps180
 go_wp2
 go_loopw [3] (fun i wr=>∃ k:Nat,k≤s.size∧i=.int .i64 k∧Hid ((s.data.toList.drop k).all Pl.tb=A)∧wr=w) (fun i _=>s.size-(Lib.intOf i).toNat)
 case atStart=>exact⟨0,Nat.zero_le _,rfl,HA,rfl⟩
 case round=>
  clear HA
  obtain⟨k,hk,rfl,hp,rfl⟩:=hrel
  by_cases hlt:k<s.size
  ·have h8:s[k].toNat<256:=UInt8.toNat_lt _
   have hst:Hid ((s.data.toList.drop k).all Pl.tb=(Pl.tb s[k] && (s.data.toList.drop (k+1)).all Pl.tb)):=Pl.all_step Pl.tb s.data.toList k (by simpa using hlt)
   have bad:Pl.tb s[k]=false→Hid (A=false):=by
    intro h
    have:=hst.out
    rw[h,Bool.false_and,hp.out] at this
    exact this
   rcases tb_cases s[k] with ⟨h,hb⟩|⟨h,h1,hb⟩|⟨h,h1,hb⟩
   ·have hB:=bad hb
    clear bad hb hst hp
    go_wp2
    go_ret
    exact⟨by rw[hB.out];rfl,rfl⟩
   ·have hB:=bad hb
    clear bad hb hst hp
    go_wp2
    go_ret
    exact⟨by rw[hB.out];rfl,rfl⟩
   ·have hg:Hid ((s.data.toList.drop (k+1)).all Pl.tb=A):=show _=_ from by
     have:=hst.out
     rw[hb,Bool.true_and,hp.out] at this
     exact this.symm
    clear bad hb hst hp
    go_wp2
    go_roundw
    case rel=>exact⟨k+1,by omega,by go_num,hg,trivial⟩
    case measure=>simp[Lib.intOf];omega
  ·have H0:Hid (A=true):=show _=_ from by rw[← hp.out];exact Pl.all_done Pl.tb _ k (by simp;omega)
   clear hp
   go_wp2
   go_ret
   exact⟨by rw[H0.out];rfl,rfl⟩
theorem scan_atom (d:UInt8)(l:List UInt8)(k:Nat)(b:Bool)(hk:k<l.length)(h:Pl.atom l[k]=true):Pl.scan d b (l.drop k)=Pl.scan d true (l.drop (k+1)):=by
 rw[Pl.drop_cons l k hk,Pl.scan,if_pos h]
theorem scan_blank (d:UInt8)(l:List UInt8)(k:Nat)(hk:k<l.length)(h:Pl.atom l[k]=false)(h2:l[k]=d):Pl.scan d true (l.drop k)=Pl.scan d false (l.drop (k+1)):=by
 rw[Pl.drop_cons l k hk,Pl.scan,if_neg (by rw[h];simp),if_pos (by rw[h2];simp)]
theorem scan_bad (d:UInt8)(l:List UInt8)(k:Nat)(b:Bool)(hk:k<l.length)(h:Pl.atom l[k]=false)(h2:l[k]≠d∨b=false):Pl.scan d b (l.drop k)=false:=by
 rw[Pl.drop_cons l k hk,Pl.scan,if_neg (by rw[h];simp),if_neg]
 rcases h2 with h2|h2
 ·have:(l[k]==d)=false:=by simpa using h2
  rw[this];simp
 ·rw[h2];simp
theorem scan_end (d:UInt8)(l:List UInt8)(k:Nat)(b:Bool)(hk:l.length≤k):Pl.scan d b (l.drop k)=b:=by
 rw[List.drop_eq_nil_of_le hk];rfl
theorem specAtoms (d:UInt8)(n:Int)(hn0:n=(d.toNat:Int))(s:ByteArray)(w:World)(_hs:s.size≤1100000) :
  Calls Tryz.prog 170 #[.string s,.int .u8 n] w fun e w'=>e=.returned (.bool (Pl.scan d false s.data.toList))∧Below w.heap.size w w':=by
 obtain⟨A,hA⟩:∃A,Pl.scan d false s.data.toList=A:=⟨_,rfl⟩
 rw[hA]
 have HA:Hid (Pl.scan d false (s.data.toList.drop 0)=A):=hA
 clear hA
 have Hn0:=(show Hid (n=(d.toNat:Int)) from hn0)
 clear hn0
 go_enter Tryz.func170,Tryz.ntmps170
 go_wp2
 go_loopw [5,6] (fun v i wr=>∃ (k:Nat) (b:Bool),k≤s.size∧i=.int .i64 k∧v=.bool b∧Hid (Pl.scan d b (s.data.toList.drop k)=A)∧Below w.heap.size w wr) (fun _ i _=>s.size-(Lib.intOf i).toNat)
 case atStart=>exact⟨0,false,Nat.zero_le _,rfl,rfl,HA,Below.refl _ _⟩
 case round=>
  clear HA
  obtain⟨k,b,hk,rfl,rfl,hp,hb⟩:=hrel
  by_cases hlt:k<s.size
  ·have h8:s[k].toNat<256:=UInt8.toNat_lt _
   have hll:k<s.data.toList.length:=by simpa using hlt
   have hc:=fun w=>specAtomByte s[k] w
   cases ha:Pl.atom s[k]<;>simp only[ha] at hc
   ·cases h32:((s[k].toNat:Int)==n)
    ·have hB:Hid (A=false):=show _=_ from by rw[← hp.out];exact scan_bad d _ k b hll ha (.inl (Pl.byte_ne _ d _ Hn0.out h32))
     have hn:((s[k].toNat:Int) != n)=true:=by rw[bne,h32];rfl
     clear hp ha
     go_wp2_with (go_at_call 204;go_must (refine(hc _).mono ?_;rintro e w2 ⟨rfl,hb2⟩))
     go_ret
     exact⟨by rw[hB.out];rfl,hb.trans (hb2.mono hb.size)⟩
    ·have hn:((s[k].toNat:Int) != n)=false:=by rw[bne,h32];rfl
     cases b
     ·have hB:Hid (A=false):=show _=_ from by rw[← hp.out];exact scan_bad d _ k false hll ha (.inr rfl)
      clear hp ha
      go_wp2_with (go_at_call 204;go_must (refine(hc _).mono ?_;rintro e w2 ⟨rfl,hb2⟩))
      go_ret
      exact⟨by rw[hB.out];rfl,hb.trans (hb2.mono hb.size)⟩
     ·have hB:Hid (Pl.scan d false (s.data.toList.drop (k+1))=A):=show _=_ from by rw[← hp.out];exact(scan_blank d _ k hll ha (Pl.byte_eq _ d _ Hn0.out h32)).symm
      clear hp ha
      go_wp2_with (go_at_call 204;go_must (refine(hc _).mono ?_;rintro e w2 ⟨rfl,hb2⟩))
      go_roundw
      case rel=>exact⟨k+1,false,by omega,by go_num,rfl,hB,hb.trans (hb2.mono hb.size)⟩
      case measure=>simp[Lib.intOf];omega
   ·have hB:Hid (Pl.scan d true (s.data.toList.drop (k+1))=A):=show _=_ from by rw[← hp.out];exact(scan_atom d _ k b hll ha).symm
    clear hp ha
    go_wp2_with (go_at_call 204;go_must (refine(hc _).mono ?_;rintro e w2 ⟨rfl,hb2⟩))
    go_roundw
    case rel=>exact⟨k+1,true,by omega,by go_num,rfl,hB,hb.trans (hb2.mono hb.size)⟩
    case measure=>simp[Lib.intOf];omega
  ·have H0:Hid (A=b):=show _=_ from by rw[← hp.out];exact scan_end d _ k b (by simp;omega)
   clear hp
   go_wp2
   go_ret
   exact⟨by rw[H0.out];rfl,hb⟩
theorem specQuote (s:ByteArray)(w:World)(hs:s.size≤100000) :
  Calls Tryz.prog 181 #[.string s] w fun e w'=>e=.returned (.string ⟨(34::Pl.qs s.data.toList ++ [34]).toArray⟩)∧Below w.heap.size w w':=by
 obtain⟨i0,hi,hy0,hy1,hy2⟩:=info_parts Tryz.info5
 obtain⟨X,hX⟩:∃X,34::Pl.qs s.data.toList=X:=⟨_,rfl⟩
 rw[hX]
 have HX:Hid ([34]++Pl.qs (s.data.toList.drop 0)=X):=hX
 clear hX
 have hown0:Own w.heap.size (.slice (some ⟨w.heap.size,0,none⟩) 1 1) [34] (w.alloc (.cells #[.int .u8 34] 5)):=World.ownsRow_lit w #[.int .u8 34] 1 (Nat.le_refl _) (by unfold maxLen;omega) rfl
 have Hown0:=(show Hid _ from hown0)
 clear hown0
 go_enter Tryz.func181,Tryz.ntmps181
 go_wp2
 go_loopw [3,4] (fun v i wr=>∃ (k:Nat) (p:List UInt8),k≤s.size∧i=.int .i64 k∧p.length≤1+2*k∧Hid (p++Pl.qs (s.data.toList.drop k)=X)∧Own w.heap.size v p wr∧Below w.heap.size w wr) (fun _ i _=>s.size-(Lib.intOf i).toNat)
 case atStart=>exact⟨0,[34],Nat.zero_le _,rfl,by simp,HX,Hown0.out,(Below.refl _ _).alloc (Nat.le_refl _) _⟩
 case round=>
  clear HX Hown0
  obtain⟨k,p,hk,rfl,hpl,hp,hown,hb⟩:=hrel
  by_cases hlt:k<s.size
  ·have h8:s[k].toNat<256:=UInt8.toNat_lt _
   have hll:k<s.data.toList.length:=by simpa using hlt
   cases h34:((s[k].toNat:Int)==34)
   ·cases h92:((s[k].toNat:Int)==92)
    ·have hg:Hid ((p ++ [s[k]])++Pl.qs (s.data.toList.drop (k+1))=X):=Pl.qs_plain s.data.toList p X k hll (by
      have a:=Pl.byte_ne _ 34 _ rfl h34
      have b:=Pl.byte_ne _ 92 _ rfl h92
      show(s[k]==34 || s[k]==92)=false
      simp[a,b]) hp.out
     clear hp
     go_wp2_with (at_builtin;go_must (refine wp_app (W:=w) rfl _ _ 22 rfl i0 Tryz.underlying22 hi hy0 hy1 hy2 w.heap.size u3 p rfl hown _ [s[k]] rfl 1 1 rfl rfl (by simp;omega) (Nat.le_refl _) hb ?_;intro v' w' hown' hb'))
     go_roundw
     case rel=>exact⟨k+1,_,by omega,by go_num,by simp;omega,hg,hown',hb'⟩
     case measure=>simp[Lib.intOf];omega
    ·have hg:Hid ((p ++ [92] ++ [s[k]])++Pl.qs (s.data.toList.drop (k+1))=X):=Pl.qs_esc s.data.toList p X k hll (by
      show(s[k]==34 || s[k]==92)=true
      rw[Pl.byte_eq _ 92 _ rfl h92];rfl) hp.out
     clear hp
     go_wp2_with (at_builtin;go_must (first|(refine wp_app (W:=w) rfl _ _ 22 rfl i0 Tryz.underlying22 hi hy0 hy1 hy2 w.heap.size v' (p ++ [92]) rfl hown' _ [s[k]] rfl 1 1 rfl rfl (by simp;omega) (Nat.le_refl _) hb' ?_;intro v2 w2 hown2 hb2)|(refine wp_app (W:=w) rfl _ _ 22 rfl i0 Tryz.underlying22 hi hy0 hy1 hy2 w.heap.size u3 p rfl hown _ [92] rfl 1 1 rfl rfl (by simp;omega) (Nat.le_refl _) hb ?_;intro v' w' hown' hb')))
     go_roundw
     case rel=>exact⟨k+1,_,by omega,by go_num,by simp;omega,hg,hown2,hb2⟩
     case measure=>simp[Lib.intOf];omega
   ·have hg:Hid ((p ++ [92] ++ [s[k]])++Pl.qs (s.data.toList.drop (k+1))=X):=Pl.qs_esc s.data.toList p X k hll (by
     show(s[k]==34 || s[k]==92)=true
     rw[Pl.byte_eq _ 34 _ rfl h34];rfl) hp.out
    clear hp
    go_wp2_with (at_builtin;go_must (first|(refine wp_app (W:=w) rfl _ _ 22 rfl i0 Tryz.underlying22 hi hy0 hy1 hy2 w.heap.size v' (p ++ [92]) rfl hown' _ [s[k]] rfl 1 1 rfl rfl (by simp;omega) (Nat.le_refl _) hb' ?_;intro v2 w2 hown2 hb2)|(refine wp_app (W:=w) rfl _ _ 22 rfl i0 Tryz.underlying22 hi hy0 hy1 hy2 w.heap.size u3 p rfl hown _ [92] rfl 1 1 rfl rfl (by simp;omega) (Nat.le_refl _) hb ?_;intro v' w' hown' hb')))
    go_roundw
    case rel=>exact⟨k+1,_,by omega,by go_num,by simp;omega,hg,hown2,hb2⟩
    case measure=>simp[Lib.intOf];omega
  ·have hpn:Hid (p=X):=Pl.qs_done s.data.toList p X k (by simp;omega) hp.out
   clear hp
   go_wp2_with (at_builtin;go_must (refine wp_app (W:=w) rfl _ _ 22 rfl i0 Tryz.underlying22 hi hy0 hy1 hy2 w.heap.size u3 p rfl hown _ [34] rfl 1 1 rfl rfl (by simp;omega) (Nat.le_refl _) hb ?_;intro v' w' hown' hb';have hbk:=hown'.back (P:=Tryz.prog) 22 9 Tryz.underlying22 Tryz.underlying5 Tryz.underlying9))
   go_ret
   rw[← hpn.out]
   exact⟨rfl,hb'⟩
theorem part_size (sep:ByteArray)(sv:Nat):∀(k:Nat)(s q:ByteArray),q ∈ splitB sep sv k s→q.size≤s.size
 | 0,s,q,h=>by
  rw[splitB_zero,List.mem_singleton] at h
  rw[h];exact Nat.le_refl _
 | k+1,s,q,h=>by
  unfold splitB at h
  split at h
  ·rw[List.mem_singleton] at h
   rw[h];exact Nat.le_refl _
  ·rcases List.mem_cons.1 h with h|h
   ·rw[h,ByteArray.size_extract];omega
   ·have:=part_size sep sv k _ q h
    rw[ByteArray.size_extract] at this
    omega
theorem parts_all (d:UInt8)(hd:Pl.atom d=false)(s:ByteArray):((splitB ⟨#[d]⟩ 0 (countB s ⟨#[d]⟩) s).all fun q=>Pl.okA q.data.toList)=Pl.scan d false s.data.toList:=by
 rw[← Pl.scan_all d hd,← Pl.split_sp]
 have:=splitB_data ⟨#[d]⟩ 0 (countB s ⟨#[d]⟩) s
 rw[show(ByteArray.mk #[d]).data.toList=[d] from rfl] at this
 rw[show count s.data.toList [d]=countB s ⟨#[d]⟩ from rfl,← this,List.all_map]
 rfl
theorem implAreAtoms (d:UInt8)(hd:Pl.atom d=false)(s:ByteArray)(m:Int)(w:World)(hs:s.size≤100000)(hm:w.cell? ⟨0,0,none⟩=some (.int .i64 m)) :
  Calls Tryz.prog 189 #[.string s,.string ⟨#[d]⟩] w fun e w'=>e=.returned (.bool (Pl.scan d false s.data.toList))∧Below w.heap.size w w':=by
 have h1:(ByteArray.mk #[d]).size=1:=rfl
 have hsp:=Tryz.strings_Split s ⟨#[d]⟩ m w (by omega) hm (by omega)
 have hln:=splitB_all ⟨#[d]⟩ (by omega) 0 _ s rfl
 have hsz:=part_size ⟨#[d]⟩ 0 (countB s ⟨#[d]⟩) s
 have hcl:=countB_le ⟨#[d]⟩ (by omega) s.size s (Nat.le_refl _)
 rw[← parts_all d hd]
 rw[← hln] at hsp
 generalize hP:splitB ⟨#[d]⟩ 0 (countB s ⟨#[d]⟩) s=parts at hsp hln hsz ⊢
 obtain⟨A,hA⟩:∃A,(parts.all fun q=>Pl.okA q.data.toList)=A:=⟨_,rfl⟩
 rw[hA]
 have HA:Hid (((parts.drop 0).all fun q=>Pl.okA q.data.toList)=A):=hA
 have Hsz:=(show Hid (∀q,q ∈ parts→q.size≤s.size) from fun q hq=>hsz q hq)
 have hn:parts.length≤100001:=by omega
 obtain⟨W1,hW1⟩:∃W1,w.alloc (.cells (parts.map Value.string).toArray 9)=W1:=⟨_,rfl⟩
 have hcell:Hid (∀k (h:k<parts.length),W1.cell? ⟨w.heap.size,k,none⟩=some (.string parts[k])):=show ∀k (h:k<parts.length),_ from by
  intro k h
  rw[← hW1]
  simp[h]
 have hbW:Below w.heap.size w W1:=by rw[← hW1];exact(Below.refl _ _).alloc (Nat.le_refl _) _
 rw[hW1] at hsp
 have hadd:=fun k=>add_off w.heap.size k
 clear hd hA hP hsz hln hcl hm hW1
 go_enter Tryz.func189,Tryz.ntmps189
 go_wp2_with fail
 refine hsp.mono ?_
 rintro e w1 ⟨rfl,rfl⟩
 clear hsp
 go_wp2
 go_loopw [6,11] (fun _ i wr=>∃ k:Nat,k≤parts.length∧i=.int .i64 k∧Hid (((parts.drop k).all fun q=>Pl.okA q.data.toList)=A)∧wr=w1) (fun _ i _=>parts.length-(Lib.intOf i).toNat)
 case atStart=>exact⟨0,Nat.zero_le _,rfl,HA,rfl⟩
 case round=>
  clear HA
  obtain⟨k,hk,rfl,hp,rfl⟩:=hrel
  by_cases hlt:k<parts.length
  ·have hc:=hcell.out k hlt
   have hq:=Hsz.out parts[k] (List.getElem_mem _)
   have hst:Hid (((parts.drop k).all fun q=>Pl.okA q.data.toList)=(Pl.okA parts[k].data.toList && ((parts.drop (k+1)).all fun q=>Pl.okA q.data.toList))):=show _=_ from by
    rw[List.drop_eq_getElem_cons hlt,List.all_cons]
   generalize parts[k]=q at hc hq hst
   have hall:=fun w=>implAllOf kindAtom q w (by omega)
   by_cases h0:q.size=0
   ·have hE:q.toList.isEmpty=true:=by
     rw[ByteArray.toList_eq,List.isEmpty_iff]
     exact List.length_eq_zero_iff.1 (by rw[Pl.len_list];exact h0)
    have hB:Hid (A=false):=show _=_ from by
     rw[← hp.out,hst.out]
     rw[ByteArray.toList_eq] at hE
     simp[Pl.okA,hE]
    clear hp hst
    go_wp2
    go_ret
    exact⟨by rw[hB.out];rfl,hbW⟩
   ·have hE:q.toList.isEmpty=false:=by
     rw[ByteArray.toList_eq,List.isEmpty_eq_false_iff]
     intro e
     exact h0 (by rw[← Pl.len_list,e];rfl)
    cases hall2:q.data.toList.all Pl.atom<;>simp only[hall2] at hall
    ·have hB:Hid (A=false):=show _=_ from by
      rw[← hp.out,hst.out,Pl.okA,hall2,Bool.and_false,Bool.false_and]
     clear hp hst hall2
     go_wp2_with (go_at_call 122;go_must (refine(hall _).mono ?_;rintro e w2 ⟨rfl,rfl⟩))
     go_ret
     exact⟨by rw[hB.out];rfl,hbW⟩
    ·have hB:Hid (((parts.drop (k+1)).all fun q=>Pl.okA q.data.toList)=A):=show _=_ from by
      have:=hst.out
      rw[ByteArray.toList_eq] at hE
      rw[hp.out,Pl.okA,hall2,hE,Bool.not_false,Bool.true_and,Bool.true_and] at this
      exact this.symm
     clear hp hst hall2
     go_wp2_with (go_at_call 122;go_must (refine(hall _).mono ?_;rintro e w2 ⟨rfl,rfl⟩))
     go_roundw
     case rel=>exact⟨k+1,by omega,by go_num,hB,trivial⟩
     case measure=>simp[Lib.intOf];omega
  ·have H0:Hid (A=true):=show _=_ from by rw[← hp.out,List.drop_eq_nil_of_le (by omega)];rfl
   clear hp
   go_wp2
   go_ret
   exact⟨by rw[H0.out];rfl,hbW⟩
theorem specPhrase (s:ByteArray)(w:World)(hs:s.size≤100000) :
  Calls Tryz.prog 135 #[.string s] w fun e w'=>e=.returned (.string ⟨(Pl.phrase s.data.toList).toArray⟩)∧Below w.heap.size w w':=by
 have hc0:decide ((100000:Int)<(s.size:Int))=false:=by simp;omega
 have ha:=specClean s w (by omega)
 have hat:=specAtoms 32 32 rfl s w (by omega)
 cases hT:s.data.toList.all Pl.tb
 ·have hE:Hid (Pl.phrase s.data.toList=[]):=show _=_ from by rw[Pl.phrase,if_neg (by rw[hT];simp)]
  rw[hT] at ha
  clear hT hat
  go_enter Tryz.func135,Tryz.ntmps135
  go_wp2_with fail
  refine ha.mono ?_
  rintro e w1 ⟨rfl,rfl⟩
  go_wp2
  go_ret
  rw[hE.out]
  exact⟨rfl,Below.refl _ _⟩
 ·rw[hT] at ha
  cases hA:Pl.scan 32 false s.data.toList
  ·have hE:Hid (Pl.phrase s.data.toList=34::Pl.qs s.data.toList ++ [34]):=show _=_ from by rw[Pl.phrase,if_pos hT,if_neg (by rw[hA];simp)]
   rw[hA] at hat
   clear hT hA
   go_enter Tryz.func135,Tryz.ntmps135
   go_wp2_with fail
   refine ha.mono ?_
   rintro e w1 ⟨rfl,rfl⟩
   go_wp2_with fail
   refine hat.mono ?_
   rintro e w1 ⟨rfl,hb1⟩
   go_wp2_with fail
   refine(specQuote s _ hs).mono ?_
   rintro e w2 ⟨rfl,hb2⟩
   go_wp2
   go_ret
   rw[hE.out]
   exact⟨rfl,hb1.trans (hb2.mono hb1.size)⟩
  ·have hE:Hid (Pl.phrase s.data.toList=s.data.toList):=show _=_ from by rw[Pl.phrase,if_pos hT,if_pos hA]
   rw[hA] at hat
   clear hT hA
   go_enter Tryz.func135,Tryz.ntmps135
   go_wp2_with fail
   refine ha.mono ?_
   rintro e w1 ⟨rfl,rfl⟩
   go_wp2_with fail
   refine hat.mono ?_
   rintro e w1 ⟨rfl,hb1⟩
   go_wp2
   go_ret
   rw[hE.out]
   exact⟨rfl,hb1⟩
namespace Pl
def litB (c:UInt8):Bool:=decide (32≤c.toNat) && (decide (c.toNat≤126) && (!(c==91) && (!(c==93) && !(c==92))))
def mid (l:List UInt8):List UInt8:=(l.take (l.length-1)).drop 1
def isLit (l:List UInt8):Bool:=hasPrefix l [91] && (hasSuffix (trimPrefix l [91]) [93] && (trimSuffix (trimPrefix l [91]) [93]).all litB)
def domI (l:List UInt8):Bool:=decide (l.length≤255) && (scan 46 false l || isLit l)
theorem atom_open:atom 91=false:=by decide +kernel
theorem scan_open (r:List UInt8):scan 46 false (91::r)=false:=by
 rw[scan,if_neg (by rw[atom_open];simp),if_neg (by decide)]
theorem dom_atoms (l:List UInt8)(c:UInt8)(r:List UInt8)(e:l=c::r)(h:c≠91)(hn:l.length≤255):domI l=scan 46 false l:=by
 have hp:hasPrefix l [91]=false:=by rw[e,hasPrefix];simp[List.isPrefixOf,Ne.symm h]
 rw[domI,isLit,hp,decide_eq_true hn]
 simp
theorem suf (r:List UInt8)(d:UInt8)(h:1≤r.length):hasSuffix r [d]=(r[r.length-1]==d):=by
 obtain⟨x,y,rfl⟩:∃x y,r=x ++ [y]:=⟨r.dropLast,r.getLast (by intro e;rw[e] at h;simp at h),(List.dropLast_concat_getLast _).symm⟩
 rw[hasSuffix]
 simp[List.isSuffixOf,List.isPrefixOf]
 by_cases e:d=y
 ·subst e;simp
 ·have:(d==y)=false:=by simpa using e
  have:(y==d)=false:=by simpa using Ne.symm e
  simp[*]
theorem dom_lit (l:List UInt8)(r:List UInt8)(e:l=91::r)(hn:l.length≤255):domI l=isLit l:=by
 rw[domI,decide_eq_true hn,e,scan_open]
 simp
theorem lit_short (l:List UInt8)(r:List UInt8)(e:l=91::r)(h:l.length<2):isLit l=false:=by
 have:r=[]:=by rw[e] at h;simp at h;exact List.length_eq_zero_iff.1 (by omega)
 rw[e,this];rfl
theorem lit_open (l:List UInt8)(r:List UInt8)(e:l=91::r)(h:2≤l.length)(hl:l[l.length-1]≠93):isLit l=false:=by
 subst e
 have h1:1≤r.length:=by simpa using h
 have hp:hasPrefix (91::r) [91]=true:=by simp[hasPrefix,List.isPrefixOf]
 have hg:(91::r)[(91::r).length-1]'(by simp)=r[r.length-1]:=by
  have:(91::r).length-1=(r.length-1)+1:=by simp;omega
  simp only[this,List.getElem_cons_succ]
 rw[hg] at hl
 rw[isLit,trimPrefix,hp,if_pos rfl]
 simp only[List.length_cons,List.length_nil,List.drop_succ_cons,List.drop_zero]
 rw[suf r 93 h1]
 have:(r[r.length-1]==93)=false:=by simpa using hl
 rw[this]
 simp
theorem lit_mid (l:List UInt8)(r:List UInt8)(e:l=91::r)(h:2≤l.length)(hl:l[l.length-1]=93):isLit l=(mid l).all litB:=by
 subst e
 have h1:1≤r.length:=by simpa using h
 have hp:hasPrefix (91::r) [91]=true:=by simp[hasPrefix,List.isPrefixOf]
 have hg:(91::r)[(91::r).length-1]'(by simp)=r[r.length-1]:=by
  have:(91::r).length-1=(r.length-1)+1:=by simp;omega
  simp only[this,List.getElem_cons_succ]
 rw[hg] at hl
 have hs:hasSuffix r [93]=true:=by rw[suf r 93 h1,hl];rfl
 have e1:trimPrefix (91::r) [91]=r:=by rw[trimPrefix,hp,if_pos rfl];rfl
 rw[isLit,hp,e1,hs,trimSuffix,hs,if_pos rfl,mid]
 have:(91::r).length-1=(r.length-1)+1:=by simp;omega
 rw[this]
 simp
theorem mid_step (l:List UInt8)(k:Nat)(hk:k<l.length-1):(((l.take (l.length-1)).drop k).all litB)=(litB (l[k]'(by omega)) && ((l.take (l.length-1)).drop (k+1)).all litB):=by
 rw[List.drop_eq_getElem_cons (by simp;omega),List.all_cons]
 simp
theorem mid_done (l:List UInt8)(k:Nat)(hk:l.length-1≤k):(((l.take (l.length-1)).drop k).all litB)=true:=by
 rw[List.drop_eq_nil_of_le (by simp;omega)]
 rfl
end Pl
theorem litB_cases (c:UInt8):(c.toNat<32∧Pl.litB c=false)∨(32≤c.toNat∧126<c.toNat∧Pl.litB c=false)∨(32≤c.toNat∧c.toNat≤126∧((c.toNat:Int)==91)=true∧Pl.litB c=false) ∨
  (32≤c.toNat∧c.toNat≤126∧((c.toNat:Int)==91)=false∧((c.toNat:Int)==93)=true∧Pl.litB c=false)∨(32≤c.toNat∧c.toNat≤126∧((c.toNat:Int)==91)=false∧((c.toNat:Int)==93)=false∧((c.toNat:Int)==92)=true∧Pl.litB c=false) ∨
  (32≤c.toNat∧c.toNat≤126∧((c.toNat:Int)==91)=false∧((c.toNat:Int)==93)=false∧((c.toNat:Int)==92)=false∧Pl.litB c=true):=by
 by_cases h1:c.toNat<32
 ·exact .inl ⟨h1,by simp[Pl.litB];omega⟩
 by_cases h2:126<c.toNat
 ·exact .inr (.inl ⟨by omega,h2,by simp[Pl.litB];omega⟩)
 cases h3:((c.toNat:Int)==91)
 ·have n3:=Pl.byte_ne c 91 _ rfl h3
  cases h4:((c.toNat:Int)==93)
  ·have n4:=Pl.byte_ne c 93 _ rfl h4
   cases h5:((c.toNat:Int)==92)
   ·have n5:=Pl.byte_ne c 92 _ rfl h5
    exact .inr (.inr (.inr (.inr (.inr ⟨by omega,by omega,rfl,rfl,rfl,by simp[Pl.litB,n3,n4,n5];omega⟩))))
   ·exact .inr (.inr (.inr (.inr (.inl ⟨by omega,by omega,rfl,rfl,rfl,by rw[Pl.byte_eq c 92 _ rfl h5];decide⟩))))
  ·exact .inr (.inr (.inr (.inl ⟨by omega,by omega,rfl,rfl,by rw[Pl.byte_eq c 93 _ rfl h4];decide⟩)))
 ·exact .inr (.inr (.inl ⟨by omega,by omega,rfl,by rw[Pl.byte_eq c 91 _ rfl h3];decide⟩))
theorem implLitByte (c:UInt8)(w:World):Calls Tryz.prog 222 #[.int .u8 (c.toNat:Int)] w fun e w'=>e=.returned (.bool (Pl.litB c))∧w=w':=by
 have h8:c.toNat<256:=UInt8.toNat_lt _
 rcases litB_cases c with ⟨h,hb⟩|⟨h,h1,hb⟩|⟨h,h1,h2,hb⟩|⟨h,h1,h2,h3,hb⟩|⟨h,h1,h2,h3,h4,hb⟩|⟨h,h1,h2,h3,h4,hb⟩<;>rw[hb]<;>clear hb
 all_goals
  try have g2:((c.toNat:Int) != 91) = !((c.toNat:Int)==91):=rfl
  try have g3:((c.toNat:Int) != 93) = !((c.toNat:Int)==93):=rfl
  try have g4:((c.toNat:Int) != 92) = !((c.toNat:Int)==92):=rfl
  try rw[h2] at g2
  try rw[h3] at g3
  try rw[h4] at g4
  try rw[Bool.not_true] at g2
  try rw[Bool.not_false] at g2
  try rw[Bool.not_true] at g3
  try rw[Bool.not_false] at g3
  try rw[Bool.not_true] at g4
  try rw[Bool.not_false] at g4
  go_enter Tryz.func222,Tryz.ntmps222
  go_wp2
  go_ret
  first|exact⟨rfl,rfl⟩|exact⟨congrArg (fun b=>Ending.returned (.bool b)) (by simp;omega),rfl⟩|exact⟨congrArg (fun b=>Ending.returned (.bool b)) (by first|exact g2|exact g3|exact g4),rfl⟩
theorem kindLit:Kind 222 Pl.litB:=⟨Go.Proofs.enters_of Tryz.func222 (by kernel_rfl) rfl,implLitByte⟩
theorem trimP_len (l p:List UInt8):(trimPrefix l p).length≤l.length:=by
 unfold trimPrefix
 split
 ·simp
 ·exact Nat.le_refl _
theorem trimS_len (l p:List UInt8):(trimSuffix l p).length≤l.length:=by
 unfold trimSuffix
 split
 ·simp
 ·exact Nat.le_refl _
theorem implIsLit (s:ByteArray)(w:World)(hs:s.size≤100000) :
  Calls Tryz.prog 190 #[.string s] w fun e w'=>e=.returned (.bool (Pl.isLit s.data.toList))∧w'=w:=by
 have hp:=Tryz.strings_CutPrefix s ⟨#[91]⟩ w
 have hl1:(trimPrefix s.data.toList [91]).length≤100000:=Nat.le_trans (trimP_len _ _) (by simpa using hs)
 have hl2:(trimSuffix (trimPrefix s.data.toList [91]) [93]).length≤100000:=Nat.le_trans (trimS_len _ _) hl1
 have hq:=Tryz.strings_CutSuffix ⟨(trimPrefix s.data.toList [91]).toArray⟩ ⟨#[93]⟩ w (by show(trimPrefix s.data.toList [91]).toArray.size≤_;simp;omega)
 have ha:=implAllOf kindLit ⟨(trimSuffix (trimPrefix s.data.toList [91]) [93]).toArray⟩ w (by show(trimSuffix (trimPrefix s.data.toList [91]) [93]).toArray.size≤_;simp;omega)
 unfold Pl.isLit
 simp only at hp
 simp only at hq
 simp only at ha
 clear hl1 hl2
 generalize trimSuffix (trimPrefix s.data.toList [91]) [93]=q at *
 generalize trimPrefix s.data.toList [91]=p at *
 generalize hasPrefix s.data.toList [91]=b1 at *
 generalize hasSuffix p [93]=b2 at *
 generalize q.all Pl.litB=b3 at *
 cases b1<;>cases b2
 all_goals
  go_enter Tryz.func190,Tryz.ntmps190
  go_wp2_with first|(go_at_call 220;go_must (refine hp.mono ?_;rintro e w2 ⟨rfl,rfl⟩))|(go_at_call 221;go_must (refine hq.mono ?_;rintro e w2 ⟨rfl,rfl⟩))|(go_at_call 122;go_must (refine ha.mono ?_;rintro e w2 ⟨rfl,rfl⟩))
  go_ret
  exact⟨rfl,rfl⟩
def dcode (b:Bool):Int:=if b then 0 else 1
theorem implDomain (s:ByteArray)(m:Int)(w:World)(hs:s.size≤1100000)(hm:w.cell? ⟨0,0,none⟩=some (.int .i64 m)) :
  Calls Tryz.prog 151 #[.string s] w fun e w'=>e=.returned (.int .i64 (dcode (Pl.domI s.data.toList)))∧Below w.heap.size w w':=by
 have hll:s.data.toList.length=s.size:=by simp
 by_cases hn:s.size≤255
 ·have ha:=implAreAtoms 46 Pl.atom_point s m w (by omega) hm
  have hb:=fun w=>implIsLit s w (by omega)
  rw[Pl.domI,decide_eq_true (by omega),Bool.true_and]
  generalize Pl.scan 46 false s.data.toList=b1 at ha ⊢
  generalize Pl.isLit s.data.toList=b2 at hb ⊢
  clear hm
  cases b1<;>cases b2
  all_goals
   go_enter Tryz.func151,Tryz.ntmps151
   go_wp2_with first|(go_at_call 189;go_must (refine ha.mono ?_;rintro e w2 ⟨rfl,hb2⟩))|(go_at_call 190;go_must (refine(hb _).mono ?_;rintro e w3 ⟨rfl,rfl⟩))
   go_ret
   exact⟨rfl,hb2⟩
 ·rw[Pl.domI,decide_eq_false (by omega),Bool.false_and]
  clear hm
  go_enter Tryz.func151,Tryz.ntmps151
  go_wp2
  go_ret
  exact⟨rfl,Below.refl _ _⟩
theorem specDomain (s:ByteArray)(w:World)(hs:s.size≤1100000) :
  Calls Tryz.prog 111 #[.string s] w fun e w'=>e=.returned (.int .i64 (dcode (Pl.domI s.data.toList)))∧Below w.heap.size w w':=by
 have hll:s.data.toList.length=s.size:=by simp
 by_cases h0:s.size<1
 ·rw[show Pl.domI s.data.toList=false from by
   have:s.data.toList=[]:=List.length_eq_zero_iff.1 (by omega)
   rw[this];rfl]
  go_enter Tryz.func111,Tryz.ntmps111
  go_wp2
  go_ret
  exact⟨rfl,Below.refl _ _⟩
 by_cases hn:255<s.size
 ·rw[Pl.domI,decide_eq_false (by omega),Bool.false_and]
  go_enter Tryz.func111,Tryz.ntmps111
  go_wp2
  go_ret
  exact⟨rfl,Below.refl _ _⟩
 have h0':0<s.size:=Nat.lt_of_not_le (fun h=>h0 (Nat.lt_of_le_of_lt h Nat.one_pos))
 have hcons:s.data.toList=s[0]'h0'::s.data.toList.drop 1:=by
  have:=Pl.drop_cons s.data.toList 0 (by omega)
  rw[List.drop_zero] at this
  exact this
 have h8:(s[0]'h0').toNat<256:=UInt8.toNat_lt _
 cases h91:((((s[0]'h0').toNat:Nat):Int)==91)
 ·have hne:((((s[0]'h0').toNat:Nat):Int) != 91)=true:=by rw[bne,h91];rfl
  have ha:=specAtoms 46 46 rfl s w hs
  rw[Pl.dom_atoms _ _ _ hcons (Pl.byte_ne _ 91 _ rfl h91) (by omega)]
  generalize Pl.scan 46 false s.data.toList=b1 at ha ⊢
  clear hcons hll
  cases b1
  all_goals
   go_enter Tryz.func111,Tryz.ntmps111
   go_wp2_with (go_at_call 170;go_must (refine ha.mono ?_;rintro e w2 ⟨rfl,hb2⟩))
   go_ret
   exact⟨rfl,hb2⟩
 ·have hne:((((s[0]'h0').toNat:Nat):Int) != 91)=false:=by rw[bne,h91];rfl
  have hc:s.data.toList=91::s.data.toList.drop 1:=by
   rw[← Pl.byte_eq _ 91 _ rfl h91];exact hcons
  rw[Pl.dom_lit _ _ hc (by omega)]
  by_cases h2:s.size<2
  ·rw[Pl.lit_short _ _ hc (by omega)]
   clear hcons hc hll
   go_enter Tryz.func111,Tryz.ntmps111
   go_wp2
   go_ret
   exact⟨rfl,Below.refl _ _⟩
  have hl':s.size-1<s.size:=Nat.sub_lt h0' Nat.one_pos
  have hidx:((s.size:Int)-1).toNat=s.size-1:=by omega
  have h8':(s[s.size-1]'hl').toNat<256:=UInt8.toNat_lt _
  have hlast:s.data.toList[s.data.toList.length-1]'(by omega)=s[s.size-1]'hl':=by simp;rfl
  cases h93:((((s[s.size-1]'hl').toNat:Nat):Int)==93)
  ·rw[Pl.lit_open _ _ hc (by omega) (by rw[hlast];exact Pl.byte_ne _ 93 _ rfl h93)]
   have hn3:((((s[s.size-1]'hl').toNat:Nat):Int) != 93)=true:=by rw[bne,h93];rfl
   clear hcons hc hll hlast
   go_enter Tryz.func111,Tryz.ntmps111
   go_wp2
   go_ret
   exact⟨rfl,Below.refl _ _⟩
  ·rw[Pl.lit_mid _ _ hc (by omega) (by rw[hlast];exact Pl.byte_eq _ 93 _ rfl h93),Pl.mid]
   have hn3:((((s[s.size-1]'hl').toNat:Nat):Int) != 93)=false:=by rw[bne,h93];rfl
   obtain⟨A,hA⟩:∃A,((s.data.toList.take (s.data.toList.length-1)).drop 1).all Pl.litB=A:=⟨_,rfl⟩
   rw[hA]
   have HA:Hid (((s.data.toList.take (s.data.toList.length-1)).drop 1).all Pl.litB=A):=hA
   clear hcons hc hll hlast hA
   go_enter Tryz.func111,Tryz.ntmps111
   go_wp2
   clear hn3 h93 h91 hne h8 h8'
   go_loopw [3] (fun i wr=>∃ k:Nat,1≤k∧k≤s.size-1∧i=.int .i64 k∧Hid (((s.data.toList.take (s.data.toList.length-1)).drop k).all Pl.litB=A)∧wr=w) (fun i _=>s.size-(Lib.intOf i).toNat)
   case atStart=>exact⟨1,Nat.le_refl _,by omega,rfl,HA,rfl⟩
   case round=>
    clear HA
    obtain⟨k,hk1,hk,rfl,hp,rfl⟩:=hrel
    by_cases hlt:k<s.size-1
    ·have h8:(s[k]'(by omega)).toNat<256:=UInt8.toNat_lt _
     have hst:Hid (((s.data.toList.take (s.data.toList.length-1)).drop k).all Pl.litB=(Pl.litB (s[k]'(by omega)) && ((s.data.toList.take (s.data.toList.length-1)).drop (k+1)).all Pl.litB)):=Pl.mid_step s.data.toList k (by simp;omega)
     have bad:Pl.litB (s[k]'(by omega))=false→Hid (A=false):=by
      intro h
      have:=hst.out
      rw[h,Bool.false_and,hp.out] at this
      exact this
     rcases litB_cases (s[k]'(by omega)) with ⟨h,hb⟩|⟨h,h1,hb⟩|⟨h,h1,h2,hb⟩|⟨h,h1,h2,h3,hb⟩|⟨h,h1,h2,h3,h4,hb⟩|⟨h,h1,h2,h3,h4,hb⟩
     iterate 5
      have hB:=bad hb
      clear bad hb hst hp
      go_wp2
      go_ret
      exact⟨by rw[hB.out];rfl,Below.refl _ _⟩
     ·have hg:Hid (((s.data.toList.take (s.data.toList.length-1)).drop (k+1)).all Pl.litB=A):=show _=_ from by
       have:=hst.out
       rw[hb,Bool.true_and,hp.out] at this
       exact this.symm
      clear bad hb hst hp
      go_wp2
      go_roundw
      case rel=>exact⟨k+1,by omega,by omega,by go_num,hg,trivial⟩
      case measure=>simp[Lib.intOf];omega
    ·have H0:Hid (A=true):=show _=_ from by rw[← hp.out];exact Pl.mid_done _ k (by simp;omega)
     clear hp
     go_wp2
     go_ret
     exact⟨by rw[H0.out];rfl,Below.refl _ _⟩
theorem heap_lt {w:World} {b:Nat} {o:Obj} (h:w.heap[b]?=some o):b<w.heap.size:=by
 rw[Array.getElem?_eq_some_iff] at h;exact h.1
theorem heap_alloc_old (w:World)(o:Obj)(g:Nat)(h:g<w.heap.size):(w.alloc o).heap[g]?=w.heap[g]?:=by
 show(w.heap.push o)[g]?=w.heap[g]?
 simp[Array.getElem?_push]
 omega
theorem two_cells {w:World} {b:Nat} {x y:Value} {t:TypeId} {z:Nat × Nat} (h:w.heap[b]?=some (.cells #[x,y] t z)):w.cell? ⟨b,0,none⟩=some x∧w.cell? ⟨b,1,none⟩=some y:=by
 constructor<;>simp[World.cell?,h]
theorem wpL_load_row {P:Program} {w:World} {ops:Array Oper} {rest:List Oper} {o:Oper} {a:Act} {Q:Exit→Act→World→Prop} (hg:o.guard=none)(ty:TypeId)(x:Operand)(ho:o.op=.load ty x)
  (g:Nat) (cs:Array Value) (t:TypeId) (fr:Nat × Nat) (d:TypeDesc) (hx:a.eval x=.pointer (some ⟨g,0,none⟩)) (hgp:w.heap[g]?=some (.cells cs t fr))
  (hu:P.underlying ty=some d) (hd:(match d with | .struct _ | .array _ _=>true|_=>false)=true) (hi:(P.info? ty).map (·.size)=some cs.size)
  (h:wpList P ops Q rest (a.put o.dst (.agg cs)) w):wpList P ops Q (o::rest) a w:=by
 refine wpList_plain hg fun K' hK'=>?_
 unfold Oper.wp execOp
 simp only[ho,hx,Instr.loadAt,Instr.sureAddr,Sem.run_bind,Sem.run_pure,Result.andThen_ok,run_loadVar_row w g t ty cs fr d hgp hu hd hi]
 exact hK' _ _ h
theorem wpL_store_row {P:Program} {w:World} {ops:Array Oper} {rest:List Oper} {o:Oper} {a:Act} {Q:Exit→Act→World→Prop} (hg:o.guard=none)(ty:TypeId)(x y:Operand)(ho:o.op=.store ty x y)
  (g:Nat) (cells:Array Value) (hx:a.eval x=.pointer (some ⟨g,0,none⟩)) (hy:a.eval y=.agg cells)
  (t:TypeId) (old:Array Value) (hgp:w.heap[g]?=some (.cells old t (0,0))) (hi:(P.info? ty).map (·.size)=some cells.size)
  (hold:old.size=cells.size) (h1:cells.all (·.oneCell')=true)
  (h:wpList P ops Q rest (a.put o.dst undef) (w.setRow g cells)):wpList P ops Q (o::rest) a w:=by
 refine wpList_plain hg fun K' hK'=>?_
 exact wp_store_row ty x y ho g cells hx hy t old hgp hi hold h1 (hK' _ _ h)
theorem grown_setRow (w:World)(g:Nat)(cs:Array Value):w.grownBy (w.setRow g cs) (some g):=
 ⟨rfl,rfl,rfl,by simp,fun i _ hi=>setRow_other w g i cs (fun e=>hi (by rw[e]))⟩
end Go.Proofs.YtacaoiedcfelcaaGreatDoor
