import Derived.Test.YtibbpmhbgbafhaaGreatDoorAddrPlain
import Derived.Test.YtibbpmhbgbafhaaGreatDoorFields
import Derived.WalkKit
import Derived.WalkLawsBesides
import Derived.WalkSpells
import Derived.Below
import Derived.Maps.OwnSet
import Derived.Test.YtibbpmhbgbafhaaGreatDoorChecked
import Derived.Test.YtibbpmhbgbafhaaGreatDoorPhrasePlain
import Derived.Test.YtibbpmhbgbafhaaGreatDoorBytes
import Derived.WalkSmall
import Derived.Lib.Agree
import Derived.Lib.QuietBelow
import Derived.Deep.QuietTactic
import Derived.BigQuiet
import Derived.Deep.RegionWith
set_option maxRecDepth 20000
set_option maxHeartbeats 2000000
namespace Go.Proofs.YtibbpmhbgbafhaaGreatDoor
open Go.RowKit Go.Lib
theorem litB_cases (c:UInt8):(c.toNat<32∧Pl.litB c=false)∨(32≤c.toNat∧126<c.toNat∧Pl.litB c=false)∨(32≤c.toNat∧c.toNat≤126∧((c.toNat:Int)==91)=true∧Pl.litB c=false) ∨
  (32≤c.toNat∧c.toNat≤126∧((c.toNat:Int)==91)=false∧((c.toNat:Int)==93)=true∧Pl.litB c=false)∨(32≤c.toNat∧c.toNat≤126∧((c.toNat:Int)==91)=false∧((c.toNat:Int)==93)=false∧((c.toNat:Int)==92)=true∧Pl.litB c=false) ∨
  (32≤c.toNat∧c.toNat≤126∧((c.toNat:Int)==91)=false∧((c.toNat:Int)==93)=false∧((c.toNat:Int)==92)=false∧Pl.litB c=true):=by
 by_cases h1:c.toNat<32
 ·exact .inl ⟨h1,by simp[Pl.litB];omega⟩
 by_cases h2:126<c.toNat
 ·exact .inr (.inl ⟨by omega,h2,by simp[Pl.litB];omega⟩)
 cases h3:((c.toNat:Int)==91)
 ·have n3:=Pl.byte_ne c 91 _ rfl h3
  cases h4:((c.toNat:Int)==93)
  ·have n4:=Pl.byte_ne c 93 _ rfl h4
   cases h5:((c.toNat:Int)==92)
   ·have n5:=Pl.byte_ne c 92 _ rfl h5
    exact .inr (.inr (.inr (.inr (.inr ⟨by omega,by omega,rfl,rfl,rfl,by simp[Pl.litB,n3,n4,n5];omega⟩))))
   ·exact .inr (.inr (.inr (.inr (.inl ⟨by omega,by omega,rfl,rfl,rfl,by rw[Pl.byte_eq c 92 _ rfl h5];decide⟩))))
  ·exact .inr (.inr (.inr (.inl ⟨by omega,by omega,rfl,rfl,by rw[Pl.byte_eq c 93 _ rfl h4];decide⟩)))
 ·exact .inr (.inr (.inl ⟨by omega,by omega,rfl,by rw[Pl.byte_eq c 91 _ rfl h3];decide⟩))
theorem implLitByte (c:UInt8)(w:World):Calls Tryz.prog 232 #[.int .u8 (c.toNat:Int)] w fun e w'=>e=.returned (.bool (Pl.litB c))∧w=w':=by
 have h8:c.toNat<256:=UInt8.toNat_lt _
 rcases litB_cases c with ⟨h,hb⟩|⟨h,h1,hb⟩|⟨h,h1,h2,hb⟩|⟨h,h1,h2,h3,hb⟩|⟨h,h1,h2,h3,h4,hb⟩|⟨h,h1,h2,h3,h4,hb⟩<;>rw[hb]<;>clear hb
 all_goals
  try have g2:((c.toNat:Int) != 91) = !((c.toNat:Int)==91):=rfl
  try have g3:((c.toNat:Int) != 93) = !((c.toNat:Int)==93):=rfl
  try have g4:((c.toNat:Int) != 92) = !((c.toNat:Int)==92):=rfl
  try rw[h2] at g2
  try rw[h3] at g3
  try rw[h4] at g4
  try rw[Bool.not_true] at g2
  try rw[Bool.not_false] at g2
  try rw[Bool.not_true] at g3
  try rw[Bool.not_false] at g3
  try rw[Bool.not_true] at g4
  try rw[Bool.not_false] at g4
  go_enter Tryz.func232,Tryz.ntmps232
  go_wp2
  go_ret
  first|exact⟨rfl,rfl⟩|exact⟨congrArg (fun b=>Ending.returned (.bool b)) (by simp;omega),rfl⟩|exact⟨congrArg (fun b=>Ending.returned (.bool b)) (by first|exact g2|exact g3|exact g4),rfl⟩
theorem kindLit:Kind 232 Pl.litB:=⟨Go.Proofs.enters_of Tryz.func232 (by kernel_rfl) rfl,implLitByte⟩
theorem trimP_len (l p:List UInt8):(trimPrefix l p).length≤l.length:=by
 unfold trimPrefix
 split
 ·simp
 ·exact Nat.le_refl _
theorem trimS_len (l p:List UInt8):(trimSuffix l p).length≤l.length:=by
 unfold trimSuffix
 split
 ·simp
 ·exact Nat.le_refl _
theorem implIsLit (s:ByteArray)(w:World)(hs:s.size≤100000) :
  Calls Tryz.prog 201 #[.string s] w fun e w'=>e=.returned (.bool (Pl.isLit s.data.toList))∧w'=w:=by
 have hp:=Tryz.strings_CutPrefix s ⟨#[91]⟩ w
 have hl1:(trimPrefix s.data.toList [91]).length≤100000:=Nat.le_trans (trimP_len _ _) (by simpa using hs)
 have hl2:(trimSuffix (trimPrefix s.data.toList [91]) [93]).length≤100000:=Nat.le_trans (trimS_len _ _) hl1
 have hq:=Tryz.strings_CutSuffix ⟨(trimPrefix s.data.toList [91]).toArray⟩ ⟨#[93]⟩ w (by show(trimPrefix s.data.toList [91]).toArray.size≤_;simp;omega)
 have ha:=implAllOf kindLit ⟨(trimSuffix (trimPrefix s.data.toList [91]) [93]).toArray⟩ w (by show(trimSuffix (trimPrefix s.data.toList [91]) [93]).toArray.size≤_;simp;omega)
 unfold Pl.isLit
 simp only at hp
 simp only at hq
 simp only at ha
 clear hl1 hl2
 generalize trimSuffix (trimPrefix s.data.toList [91]) [93]=q at *
 generalize trimPrefix s.data.toList [91]=p at *
 generalize hasPrefix s.data.toList [91]=b1 at *
 generalize hasSuffix p [93]=b2 at *
 generalize q.all Pl.litB=b3 at *
 cases b1<;>cases b2
 all_goals
  go_enter Tryz.func201,Tryz.ntmps201
  go_wp2_with first|(go_at_call 230;go_must (refine hp.mono ?_;rintro e w2 ⟨rfl,rfl⟩))|(go_at_call 231;go_must (refine hq.mono ?_;rintro e w2 ⟨rfl,rfl⟩))|(go_at_call 157;go_must (refine ha.mono ?_;rintro e w2 ⟨rfl,rfl⟩))
  go_ret
  exact⟨rfl,rfl⟩
def dcode (b:Bool):Int:=if b then 0 else 1
theorem implDomain (s:ByteArray)(m:Int)(w:World)(hs:s.size≤1100000)(hm:w.cell? ⟨0,0,none⟩=some (.int .i64 m)) :
  Calls Tryz.prog 167 #[.string s] w fun e w'=>e=.returned (.int .i64 (dcode (Pl.domI s.data.toList)))∧Below w.heap.size w w':=by
 have hll:s.data.toList.length=s.size:=by simp
 by_cases hn:s.size≤255
 ·have ha:=implAreAtoms 46 Pl.atom_point s m w (by omega) hm
  have hb:=fun w=>implIsLit s w (by omega)
  rw[Pl.domI,decide_eq_true (by omega),Bool.true_and]
  generalize Pl.scan 46 false s.data.toList=b1 at ha ⊢
  generalize Pl.isLit s.data.toList=b2 at hb ⊢
  clear hm
  cases b1<;>cases b2
  all_goals
   go_enter Tryz.func167,Tryz.ntmps167
   go_wp2_with first|(go_at_call 200;go_must (refine ha.mono ?_;rintro e w2 ⟨rfl,hb2⟩))|(go_at_call 201;go_must (refine(hb _).mono ?_;rintro e w3 ⟨rfl,rfl⟩))
   go_ret
   exact⟨rfl,hb2⟩
 ·rw[Pl.domI,decide_eq_false (by omega),Bool.false_and]
  clear hm
  go_enter Tryz.func167,Tryz.ntmps167
  go_wp2
  go_ret
  exact⟨rfl,Below.refl _ _⟩
theorem specDomain (s:ByteArray)(w:World)(hs:s.size≤1100000) :
  Calls Tryz.prog 66 #[.string s] w fun e w'=>e=.returned (.int .i64 (dcode (Pl.domI s.data.toList)))∧Below w.heap.size w w':=by
 have hll:s.data.toList.length=s.size:=by simp
 by_cases h0:s.size<1
 ·rw[show Pl.domI s.data.toList=false from by
   have:s.data.toList=[]:=List.length_eq_zero_iff.1 (by omega)
   rw[this];rfl]
  go_enter Tryz.func66,Tryz.ntmps66
  go_wp2
  go_ret
  exact⟨rfl,Below.refl _ _⟩
 by_cases hn:255<s.size
 ·rw[Pl.domI,decide_eq_false (by omega),Bool.false_and]
  go_enter Tryz.func66,Tryz.ntmps66
  go_wp2
  go_ret
  exact⟨rfl,Below.refl _ _⟩
 have h0':0<s.size:=Nat.lt_of_not_le (fun h=>h0 (Nat.lt_of_le_of_lt h Nat.one_pos))
 have hcons:s.data.toList=s[0]'h0'::s.data.toList.drop 1:=by
  have:=Pl.drop_cons s.data.toList 0 (by omega)
  rw[List.drop_zero] at this
  exact this
 have h8:(s[0]'h0').toNat<256:=UInt8.toNat_lt _
 cases h91:((((s[0]'h0').toNat:Nat):Int)==91)
 ·have hne:((((s[0]'h0').toNat:Nat):Int) != 91)=true:=by rw[bne,h91];rfl
  have ha:=specAtoms 46 46 rfl s w hs
  rw[Pl.dom_atoms _ _ _ hcons (Pl.byte_ne _ 91 _ rfl h91) (by omega)]
  generalize Pl.scan 46 false s.data.toList=b1 at ha ⊢
  clear hcons hll
  cases b1
  all_goals
   go_enter Tryz.func66,Tryz.ntmps66
   go_wp2_with (go_at_call 111;go_must (refine ha.mono ?_;rintro e w2 ⟨rfl,hb2⟩))
   go_ret
   exact⟨rfl,hb2⟩
 ·have hne:((((s[0]'h0').toNat:Nat):Int) != 91)=false:=by rw[bne,h91];rfl
  have hc:s.data.toList=91::s.data.toList.drop 1:=by
   rw[← Pl.byte_eq _ 91 _ rfl h91];exact hcons
  rw[Pl.dom_lit _ _ hc (by omega)]
  by_cases h2:s.size<2
  ·rw[Pl.lit_short _ _ hc (by omega)]
   clear hcons hc hll
   go_enter Tryz.func66,Tryz.ntmps66
   go_wp2
   go_ret
   exact⟨rfl,Below.refl _ _⟩
  have hl':s.size-1<s.size:=Nat.sub_lt h0' Nat.one_pos
  have hidx:((s.size:Int)-1).toNat=s.size-1:=by omega
  have h8':(s[s.size-1]'hl').toNat<256:=UInt8.toNat_lt _
  have hlast:s.data.toList[s.data.toList.length-1]'(by omega)=s[s.size-1]'hl':=by simp;rfl
  cases h93:((((s[s.size-1]'hl').toNat:Nat):Int)==93)
  ·rw[Pl.lit_open _ _ hc (by omega) (by rw[hlast];exact Pl.byte_ne _ 93 _ rfl h93)]
   have hn3:((((s[s.size-1]'hl').toNat:Nat):Int) != 93)=true:=by rw[bne,h93];rfl
   clear hcons hc hll hlast
   go_enter Tryz.func66,Tryz.ntmps66
   go_wp2
   go_ret
   exact⟨rfl,Below.refl _ _⟩
  ·rw[Pl.lit_mid _ _ hc (by omega) (by rw[hlast];exact Pl.byte_eq _ 93 _ rfl h93),Pl.mid]
   have hn3:((((s[s.size-1]'hl').toNat:Nat):Int) != 93)=false:=by rw[bne,h93];rfl
   obtain⟨A,hA⟩:∃A,((s.data.toList.take (s.data.toList.length-1)).drop 1).all Pl.litB=A:=⟨_,rfl⟩
   rw[hA]
   have HA:Hid (((s.data.toList.take (s.data.toList.length-1)).drop 1).all Pl.litB=A):=hA
   clear hcons hc hll hlast hA
   go_enter Tryz.func66,Tryz.ntmps66
   go_wp2
   clear hn3 h93 h91 hne h8 h8'
   go_loopw [3] (fun i wr=>∃ k:Nat,1≤k∧k≤s.size-1∧i=.int .i64 k∧Hid (((s.data.toList.take (s.data.toList.length-1)).drop k).all Pl.litB=A)∧wr=w) (fun i _=>s.size-(Lib.intOf i).toNat)
   case atStart=>exact⟨1,Nat.le_refl _,by omega,rfl,HA,rfl⟩
   case round=>
    clear HA
    obtain⟨k,hk1,hk,rfl,hp,rfl⟩:=hrel
    by_cases hlt:k<s.size-1
    ·have h8:(s[k]'(by omega)).toNat<256:=UInt8.toNat_lt _
     have hst:Hid (((s.data.toList.take (s.data.toList.length-1)).drop k).all Pl.litB=(Pl.litB (s[k]'(by omega)) && ((s.data.toList.take (s.data.toList.length-1)).drop (k+1)).all Pl.litB)):=Pl.mid_step s.data.toList k (by simp;omega)
     have bad:Pl.litB (s[k]'(by omega))=false→Hid (A=false):=by
      intro h
      have:=hst.out
      rw[h,Bool.false_and,hp.out] at this
      exact this
     rcases litB_cases (s[k]'(by omega)) with ⟨h,hb⟩|⟨h,h1,hb⟩|⟨h,h1,h2,hb⟩|⟨h,h1,h2,h3,hb⟩|⟨h,h1,h2,h3,h4,hb⟩|⟨h,h1,h2,h3,h4,hb⟩
     iterate 5
      have hB:=bad hb
      clear bad hb hst hp
      go_wp2
      go_ret
      exact⟨by rw[hB.out];rfl,Below.refl _ _⟩
     ·have hg:Hid (((s.data.toList.take (s.data.toList.length-1)).drop (k+1)).all Pl.litB=A):=show _=_ from by
       have:=hst.out
       rw[hb,Bool.true_and,hp.out] at this
       exact this.symm
      clear bad hb hst hp
      go_wp2
      go_roundw
      case rel=>exact⟨k+1,by omega,by omega,by go_num,hg,trivial⟩
      case measure=>simp[Lib.intOf];omega
    ·have H0:Hid (A=true):=show _=_ from by rw[← hp.out];exact Pl.mid_done _ k (by simp;omega)
     clear hp
     go_wp2
     go_ret
     exact⟨by rw[H0.out];rfl,Below.refl _ _⟩
theorem heap_lt {w:World} {b:Nat} {o:Obj} (h:w.heap[b]?=some o):b<w.heap.size:=by
 rw[Array.getElem?_eq_some_iff] at h;exact h.1
theorem heap_alloc_old (w:World)(o:Obj)(g:Nat)(h:g<w.heap.size):(w.alloc o).heap[g]?=w.heap[g]?:=by
 show(w.heap.push o)[g]?=w.heap[g]?
 simp[Array.getElem?_push]
 omega
theorem two_cells {w:World} {b:Nat} {x y:Value} {t:TypeId} {z:Nat × Nat} (h:w.heap[b]?=some (.cells #[x,y] t z)):w.cell? ⟨b,0,none⟩=some x∧w.cell? ⟨b,1,none⟩=some y:=by
 constructor<;>simp[World.cell?,h]
theorem wpL_load_row {P:Program} {w:World} {ops:Array Oper} {rest:List Oper} {o:Oper} {a:Act} {Q:Exit→Act→World→Prop} (hg:o.guard=none)(ty:TypeId)(x:Operand)(ho:o.op=.load ty x)
  (g:Nat) (cs:Array Value) (t:TypeId) (fr:Nat × Nat) (d:TypeDesc) (hx:a.eval x=.pointer (some ⟨g,0,none⟩)) (hgp:w.heap[g]?=some (.cells cs t fr))
  (hu:P.underlying ty=some d) (hd:(match d with | .struct _ | .array _ _=>true|_=>false)=true) (hi:(P.info? ty).map (·.size)=some cs.size)
  (h:wpList P ops Q rest (a.put o.dst (.agg cs)) w):wpList P ops Q (o::rest) a w:=by
 refine wpList_plain hg fun K' hK'=>?_
 unfold Oper.wp execOp
 simp only[ho,hx,Instr.loadAt,Instr.sureAddr,Sem.run_bind,Sem.run_pure,Result.andThen_ok,run_loadVar_row w g t ty cs fr d hgp hu hd hi]
 exact hK' _ _ h
theorem wpL_store_row {P:Program} {w:World} {ops:Array Oper} {rest:List Oper} {o:Oper} {a:Act} {Q:Exit→Act→World→Prop} (hg:o.guard=none)(ty:TypeId)(x y:Operand)(ho:o.op=.store ty x y)
  (g:Nat) (cells:Array Value) (hx:a.eval x=.pointer (some ⟨g,0,none⟩)) (hy:a.eval y=.agg cells)
  (t:TypeId) (old:Array Value) (hgp:w.heap[g]?=some (.cells old t (0,0))) (hi:(P.info? ty).map (·.size)=some cells.size)
  (hold:old.size=cells.size) (h1:cells.all (·.oneCell')=true)
  (h:wpList P ops Q rest (a.put o.dst undef) (w.setRow g cells)):wpList P ops Q (o::rest) a w:=by
 refine wpList_plain hg fun K' hK'=>?_
 exact wp_store_row ty x y ho g cells hx hy t old hgp hi hold h1 (hK' _ _ h)
theorem grown_setRow (w:World)(g:Nat)(cs:Array Value):w.grownBy (w.setRow g cs) (some g):=
 ⟨rfl,rfl,rfl,by simp,fun i _ hi=>setRow_other w g i cs (fun e=>hi (by rw[e]))⟩
abbrev keyV (d s:ByteArray)(x y:Int):Value:=.agg #[.string d,.string s,.int .i64 x,.int .i64 y]
def keyOk (x y:Int):Bool:=decide (1≤x) && (decide (x<2147483647) && (decide (1≤y) && decide (y<2147483647)))
theorem keyOk_iff (x y:Int):keyOk x y=true↔1≤x∧x<2147483647∧1≤y∧y<2147483647:=by
 unfold keyOk
 simp only[Bool.and_eq_true,decide_eq_true_eq]
theorem specKey (d s:ByteArray)(x y:Int)(w:World):Calls Tryz.prog 40 #[keyV d s x y] w fun e w'=>e=.returned (.bool (keyOk x y))∧Below w.heap.size w w':=by
 have hA:∀ob,Below w.heap.size w (w.alloc ob):=fun ob=>(Below.refl _ _).alloc (Nat.le_refl _) _
 unfold keyOk
 by_cases h1:1≤x
 ·by_cases h2:x<2147483647
  ·by_cases h3:1≤y
   ·rw[decide_eq_true h1,decide_eq_true h2,decide_eq_true h3,Bool.true_and,Bool.true_and,Bool.true_and]
    go_enter Tryz.func40,Tryz.ntmps40
    go_wp2
    go_ret
    exact⟨rfl,hA _⟩
   ·rw[decide_eq_false h3,Bool.false_and,Bool.and_false,Bool.and_false]
    go_enter Tryz.func40,Tryz.ntmps40
    go_wp2
    go_ret
    exact⟨rfl,hA _⟩
  ·rw[decide_eq_false h2,Bool.false_and,Bool.and_false]
   go_enter Tryz.func40,Tryz.ntmps40
   go_wp2
   go_ret
   exact⟨rfl,hA _⟩
 ·rw[decide_eq_false h1,Bool.false_and]
  go_enter Tryz.func40,Tryz.ntmps40
  go_wp2
  go_ret
  exact⟨rfl,hA _⟩
abbrev sumV (a b:Nat):Value:=.agg #[.int .i64 a,.int .i64 b]
abbrev sumW (d s:ByteArray)(x y:Int)(w:World):World:=(w.alloc (.cells #[.string d,.string s,.int .i64 x,.int .i64 y] 24)).alloc (.cells #[.int .i64 0,.int .i64 0] 49)
theorem sumW_facts (d s:ByteArray)(x y:Int)(w:World):(sumW d s x y w).heap[w.heap.size]?=some (.cells #[.string d,.string s,.int .i64 x,.int .i64 y] 24 (0,0))∧(sumW d s x y w).heap[w.heap.size+1]?=some (.cells #[.int .i64 0,.int .i64 0] 49 (0,0)) ∧
  (sumW d s x y w).heap.size=w.heap.size+2∧Below w.heap.size w (sumW d s x y w):=by
 refine⟨?_,?_,by simp,((Below.refl _ _).alloc (Nat.le_refl _) _).alloc (by simp) _⟩
 ·exact(heap_alloc_old _ _ _ (by simp)).trans (heap_alloc_at _ _)
 ·have:=heap_alloc_at (w.alloc (.cells #[.string d,.string s,.int .i64 x,.int .i64 y] 24)) (.cells #[.int .i64 0,.int .i64 0] 49)
  simpa using this
theorem retSum (w wr:World)(tmps:Array Value)(cs:Array Value)(hp:tmps.getD 4 undef=.pointer (some ⟨w.heap.size+1,0,none⟩)) {old:Array Value} (hres:wr.heap[w.heap.size+1]?=some (.cells old 49 (0,0)))(hb:Below w.heap.size w wr)(h2:cs.size=2:=by rfl) :
  bodyPost Tryz.prog Tryz.f14 (fun e w'=>e=.returned (.agg cs)∧Below w.heap.size w w') Exit.ret { tmps:=tmps,defers:=[] } (wr.setRow (w.heap.size+1) cs):=by
 refine bodyPost_ret (v:=.agg cs) (results_cell_row Tryz.results14 _ _ (w.heap.size+1) 49 _ (0,0) _ hp (setRow_heap _ _ _ _ _ _ hres) Tryz.underlying49 rfl ?_) rfl ⟨rfl,hb.grown (grown_setRow _ _ _) hb.size (fun j hj=>by cases hj;omega)⟩
 rw[h2]
 kernel_rfl
theorem mul_bound (a A:Nat)(ha:a<2147483647)(hA:A<2147483647):a*A≤4611686009837453316:=by
 have:=Nat.mul_le_mul (show a≤2147483646 by omega) (show A≤2147483646 by omega)
 omega
set_option maxRecDepth 10000 in
theorem specSum (d s t:ByteArray)(A B:Nat)(w:World)(ht:t.size≤200000)(hA0:1≤A)(hA:A<2147483647)(hB0:1≤B)(hB:B<2147483647) :
  Calls Tryz.prog 14 #[keyV d s A B,.string t] w fun e w'=>e=.returned (sumV (Ps.sm A 1 t.data.toList) (Ps.sm B 1 t.data.toList))∧Below w.heap.size w w':=by
 have hK:=specKey d s A B
 rw[show keyOk (A:Int) (B:Int)=true from (keyOk_iff _ _).2 (by omega)] at hK
 obtain⟨f0,f1,f2,f3⟩:=sumW_facts d s A B w
 obtain⟨RA,hRA⟩:∃R,Ps.sm A 1 t.data.toList=R:=⟨_,rfl⟩
 obtain⟨RB,hRB⟩:∃R,Ps.sm B 1 t.data.toList=R:=⟨_,rfl⟩
 have HRA:Hid (Ps.sm A 1 (t.data.toList.drop 0)=RA):=hRA
 have HRB:Hid (Ps.sm B 1 (t.data.toList.drop 0)=RB):=hRB
 rw[hRA,hRB]
 clear hRA hRB
 go_enter Tryz.func14,Tryz.ntmps14
 go_wp2_with fail
 refine(hK _).mono ?_
 rintro e w2 ⟨rfl,hb2⟩
 have hres:=(hb2.block (w.heap.size+1) (by rw[f2];omega)).trans f1
 have hkey:=(hb2.block w.heap.size (by rw[f2];omega)).trans f0
 have hbw:=f3.trans (hb2.mono f3.size)
 have k2:w2.cell? ⟨w.heap.size,2,none⟩=some (.int .i64 A):=by simp[World.cell?,hkey]
 have k3:w2.cell? ⟨w.heap.size,3,none⟩=some (.int .i64 B):=by simp[World.cell?,hkey]
 have Hbw:Hid (Below w.heap.size w w2):=hbw
 have Hres:Hid (w2.heap[w.heap.size+1]?=some (.cells #[.int .i64 0,.int .i64 0] 49 (0,0))):=hres
 clear hK f0 f1 f2 f3 hb2 hkey hres hbw
 go_wp2
 go_loopw [5,6,7] (fun u v i wr=>∃ (k a b:Nat),k≤t.size∧i=.int .i64 k∧u=.int .i64 a∧v=.int .i64 b∧a<2147483647∧b<2147483647∧Hid (Ps.sm A a (t.data.toList.drop k)=RA)∧Hid (Ps.sm B b (t.data.toList.drop k)=RB)∧Hid (Below w2.heap.size w2 wr)) (fun _ _ i _=>t.size-(Lib.intOf i).toNat)
 case atStart=>exact⟨0,1,1,Nat.zero_le _,rfl,rfl,rfl,by omega,by omega,HRA,HRB,Below.refl _ _⟩
 case round=>
  clear HRA HRB
  obtain⟨k,a,b,hk,rfl,rfl,rfl,ha,hb,HRA,HRB,HB⟩:=hrel
  have q2:=(HB.out.cell (World.block_lt_of_cell? _ _ k2)).trans k2
  have q3:=(HB.out.cell (World.block_lt_of_cell? _ _ k3)).trans k3
  have hresw:=(HB.out.block _ (heap_lt Hres.out)).trans Hres.out
  have hbww:=Hbw.out.trans (HB.out.mono Hbw.out.size)
  by_cases hlt:k<t.size
  ·have h8:t[k].toNat<256:=UInt8.toNat_lt _
   have hma:=mul_bound a A ha hA
   have hmb:=mul_bound b B hb hB
   have stepA:Hid (Ps.sm A ((a*A+t[k].toNat+1) % 2147483647) (t.data.toList.drop (k+1))=RA):=by
    have:=HRA.out
    rw[List.drop_eq_getElem_cons (by simpa using hlt),Ps.sm] at this
    exact this
   have stepB:Hid (Ps.sm B ((b*B+t[k].toNat+1) % 2147483647) (t.data.toList.drop (k+1))=RB):=by
    have:=HRB.out
    rw[List.drop_eq_getElem_cons (by simpa using hlt),Ps.sm] at this
    exact this
   generalize hc:t[k].toNat=c at *
   obtain⟨pa,hpa⟩:∃pa,a*A=pa:=⟨_,rfl⟩
   obtain⟨pb,hpb⟩:∃pb,b*B=pb:=⟨_,rfl⟩
   rw[hpa] at stepA hma
   rw[hpb] at stepB hmb
   have ea:(a:Int)*(A:Int)=(pa:Int):=by rw[← hpa];rfl
   have eb:(b:Int)*(B:Int)=(pb:Int):=by rw[← hpb];rfl
   have la:(pa+c+1) % 2147483647<2147483647:=Nat.mod_lt _ (by omega)
   have lb:(pb+c+1) % 2147483647<2147483647:=Nat.mod_lt _ (by omega)
   clear HRA HRB hpa hpb
   go_wp2
   go_quiet (fail)
   obtain⟨V,hV⟩:∃V,V=wr.drewN nq:=⟨_,rfl⟩
   have HBV:Hid (Below w2.heap.size w2 V):=by rw[hV];exact Go.below_drewN HB.out _
   have v3:V.cell? ⟨w.heap.size,3,none⟩=some (.int .i64 B):=by rw[hV];exact q3
   rw[← hV]
   clear hV q2 q3
   go_wp2
   go_quiet (fail)
   have HBV2:Hid (Below w2.heap.size w2 (V.drewN nq)):=Go.below_drewN HBV.out _
   go_wp2
   go_roundw
   case rel=>exact⟨k+1,(pa+c+1) % 2147483647,(pb+c+1) % 2147483647,by omega,by go_num,by first|rfl|(congr 1;omega),by first|rfl|(congr 1;omega),la,lb,stepA,stepB,HBV2⟩
   case measure=>simp[Lib.intOf];omega
  ·have ea:a=RA:=by
    rw[← HRA.out,List.drop_eq_nil_of_le (by simp;omega)];rfl
   have eb:b=RB:=by
    rw[← HRB.out,List.drop_eq_nil_of_le (by simp;omega)];rfl
   subst ea eb
   clear HRA HRB
   go_wp2_with (first|(refine wpL_store_row rfl 49 _ _ rfl (w.heap.size+1) #[.int .i64 a,.int .i64 b] rfl rfl 49 _ hresw (by kernel_rfl) rfl (by simp[Value.oneCell']) ?_)|go_in)
   exact retSum _ _ _ _ rfl hresw hbww
end Go.Proofs.YtibbpmhbgbafhaaGreatDoor
