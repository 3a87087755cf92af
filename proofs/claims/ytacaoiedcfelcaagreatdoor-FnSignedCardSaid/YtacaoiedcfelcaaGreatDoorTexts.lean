import Derived.Test.YtacaoiedcfelcaaGreatDoorChecked
import Derived.Test.YtacaoiedcfelcaaGreatDoorCkTurn
import Derived.Test.YtacaoiedcfelcaaGreatDoorAllOf
import Derived.WalkKit
import Derived.WalkLawsBesides
import Derived.WalkSpells
import Derived.WalkSmall
import Derived.Below
import Derived.Test.YtacaoiedcfelcaaGreatDoorCells
import Derived.Lib.Agree
import Derived.Lib.QuietBelow
import Derived.Deep.QuietTactic
import Derived.BigQuiet
import Derived.Deep.RegionWith
import Derived.Test.YtacaoiedcfelcaaGreatDoorReadLine
import Derived.Test.YtacaoiedcfelcaaGreatDoorOwnF
import Derived.Laws.OwnMore
import Derived.Laws.MakeOwn
set_option maxRecDepth 20000
set_option maxHeartbeats 2000000
namespace Go.Proofs.YtacaoiedcfelcaaGreatDoor
open Go.RowKit Go.Lib
abbrev keyV (d s:ByteArray)(x y:Int):Value:=.agg #[.string d,.string s,.int .i64 x,.int .i64 y]
def keyOk (x y:Int):Bool:=decide (1≤x) && (decide (x<2147483647) && (decide (1≤y) && decide (y<2147483647)))
theorem keyOk_iff (x y:Int):keyOk x y=true↔1≤x∧x<2147483647∧1≤y∧y<2147483647:=by
 unfold keyOk
 simp only[Bool.and_eq_true,decide_eq_true_eq]
theorem specKey (d s:ByteArray)(x y:Int)(w:World):Calls Tryz.prog 70 #[keyV d s x y] w fun e w'=>e=.returned (.bool (keyOk x y))∧Below w.heap.size w w':=by
 have hA:∀ob,Below w.heap.size w (w.alloc ob):=fun ob=>(Below.refl _ _).alloc (Nat.le_refl _) _
 unfold keyOk
 by_cases h1:1≤x
 ·by_cases h2:x<2147483647
  ·by_cases h3:1≤y
   ·rw[decide_eq_true h1,decide_eq_true h2,decide_eq_true h3,Bool.true_and,Bool.true_and,Bool.true_and]
    go_enter Tryz.func70,Tryz.ntmps70
    go_wp2
    go_ret
    exact⟨rfl,hA _⟩
   ·rw[decide_eq_false h3,Bool.false_and,Bool.and_false,Bool.and_false]
    go_enter Tryz.func70,Tryz.ntmps70
    go_wp2
    go_ret
    exact⟨rfl,hA _⟩
  ·rw[decide_eq_false h2,Bool.false_and,Bool.and_false]
   go_enter Tryz.func70,Tryz.ntmps70
   go_wp2
   go_ret
   exact⟨rfl,hA _⟩
 ·rw[decide_eq_false h1,Bool.false_and]
  go_enter Tryz.func70,Tryz.ntmps70
  go_wp2
  go_ret
  exact⟨rfl,hA _⟩
abbrev sumV (a b:Nat):Value:=.agg #[.int .i64 a,.int .i64 b]
abbrev sumW (d s:ByteArray)(x y:Int)(w:World):World:=(w.alloc (.cells #[.string d,.string s,.int .i64 x,.int .i64 y] 24)).alloc (.cells #[.int .i64 0,.int .i64 0] 51)
theorem sumW_facts (d s:ByteArray)(x y:Int)(w:World):(sumW d s x y w).heap[w.heap.size]?=some (.cells #[.string d,.string s,.int .i64 x,.int .i64 y] 24 (0,0))∧(sumW d s x y w).heap[w.heap.size+1]?=some (.cells #[.int .i64 0,.int .i64 0] 51 (0,0)) ∧
  (sumW d s x y w).heap.size=w.heap.size+2∧Below w.heap.size w (sumW d s x y w):=by
 refine⟨?_,?_,by simp,((Below.refl _ _).alloc (Nat.le_refl _) _).alloc (by simp) _⟩
 ·exact(heap_alloc_old _ _ _ (by simp)).trans (heap_alloc_at _ _)
 ·have:=heap_alloc_at (w.alloc (.cells #[.string d,.string s,.int .i64 x,.int .i64 y] 24)) (.cells #[.int .i64 0,.int .i64 0] 51)
  simpa using this
theorem retSum (w wr:World)(tmps:Array Value)(cs:Array Value)(hp:tmps.getD 4 undef=.pointer (some ⟨w.heap.size+1,0,none⟩)) {old:Array Value} (hres:wr.heap[w.heap.size+1]?=some (.cells old 51 (0,0)))(hb:Below w.heap.size w wr)(h2:cs.size=2:=by rfl) :
  bodyPost Tryz.prog Tryz.f23 (fun e w'=>e=.returned (.agg cs)∧Below w.heap.size w w') Exit.ret { tmps:=tmps,defers:=[] } (wr.setRow (w.heap.size+1) cs):=by
 refine bodyPost_ret (v:=.agg cs) (results_cell_row Tryz.results23 _ _ (w.heap.size+1) 51 _ (0,0) _ hp (setRow_heap _ _ _ _ _ _ hres) Tryz.underlying51 rfl ?_) rfl ⟨rfl,hb.grown (grown_setRow _ _ _) hb.size (fun j hj=>by cases hj;omega)⟩
 rw[h2]
 kernel_rfl
theorem mul_bound (a A:Nat)(ha:a<2147483647)(hA:A<2147483647):a*A≤4611686009837453316:=by
 have:=Nat.mul_le_mul (show a≤2147483646 by omega) (show A≤2147483646 by omega)
 omega
set_option maxRecDepth 10000 in
theorem specSum (d s t:ByteArray)(A B:Nat)(w:World)(ht:t.size≤200000)(hA0:1≤A)(hA:A<2147483647)(hB0:1≤B)(hB:B<2147483647) :
  Calls Tryz.prog 23 #[keyV d s A B,.string t] w fun e w'=>e=.returned (sumV (Ps.sm A 1 t.data.toList) (Ps.sm B 1 t.data.toList))∧Below w.heap.size w w':=by
 have hK:=specKey d s A B
 rw[show keyOk (A:Int) (B:Int)=true from (keyOk_iff _ _).2 (by omega)] at hK
 obtain⟨f0,f1,f2,f3⟩:=sumW_facts d s A B w
 obtain⟨RA,hRA⟩:∃R,Ps.sm A 1 t.data.toList=R:=⟨_,rfl⟩
 obtain⟨RB,hRB⟩:∃R,Ps.sm B 1 t.data.toList=R:=⟨_,rfl⟩
 have HRA:Hid (Ps.sm A 1 (t.data.toList.drop 0)=RA):=hRA
 have HRB:Hid (Ps.sm B 1 (t.data.toList.drop 0)=RB):=hRB
 rw[hRA,hRB]
 clear hRA hRB
 go_enter Tryz.func23,Tryz.ntmps23
 go_wp2_with fail
 refine(hK _).mono ?_
 rintro e w2 ⟨rfl,hb2⟩
 have hres:=(hb2.block (w.heap.size+1) (by rw[f2];omega)).trans f1
 have hkey:=(hb2.block w.heap.size (by rw[f2];omega)).trans f0
 have hbw:=f3.trans (hb2.mono f3.size)
 have k2:w2.cell? ⟨w.heap.size,2,none⟩=some (.int .i64 A):=by simp[World.cell?,hkey]
 have k3:w2.cell? ⟨w.heap.size,3,none⟩=some (.int .i64 B):=by simp[World.cell?,hkey]
 have Hbw:Hid (Below w.heap.size w w2):=hbw
 have Hres:Hid (w2.heap[w.heap.size+1]?=some (.cells #[.int .i64 0,.int .i64 0] 51 (0,0))):=hres
 clear hK f0 f1 f2 f3 hb2 hkey hres hbw
 go_wp2
 go_loopw [5,6,7] (fun u v i wr=>∃ (k a b:Nat),k≤t.size∧i=.int .i64 k∧u=.int .i64 a∧v=.int .i64 b∧a<2147483647∧b<2147483647∧Hid (Ps.sm A a (t.data.toList.drop k)=RA)∧Hid (Ps.sm B b (t.data.toList.drop k)=RB)∧Hid (Below w2.heap.size w2 wr)) (fun _ _ i _=>t.size-(Lib.intOf i).toNat)
 case atStart=>exact⟨0,1,1,Nat.zero_le _,rfl,rfl,rfl,by omega,by omega,HRA,HRB,Below.refl _ _⟩
 case round=>
  clear HRA HRB
  obtain⟨k,a,b,hk,rfl,rfl,rfl,ha,hb,HRA,HRB,HB⟩:=hrel
  have q2:=(HB.out.cell (World.block_lt_of_cell? _ _ k2)).trans k2
  have q3:=(HB.out.cell (World.block_lt_of_cell? _ _ k3)).trans k3
  have hresw:=(HB.out.block _ (heap_lt Hres.out)).trans Hres.out
  have hbww:=Hbw.out.trans (HB.out.mono Hbw.out.size)
  by_cases hlt:k<t.size
  ·have h8:t[k].toNat<256:=UInt8.toNat_lt _
   have hma:=mul_bound a A ha hA
   have hmb:=mul_bound b B hb hB
   have stepA:Hid (Ps.sm A ((a*A+t[k].toNat+1) % 2147483647) (t.data.toList.drop (k+1))=RA):=by
    have:=HRA.out
    rw[List.drop_eq_getElem_cons (by simpa using hlt),Ps.sm] at this
    exact this
   have stepB:Hid (Ps.sm B ((b*B+t[k].toNat+1) % 2147483647) (t.data.toList.drop (k+1))=RB):=by
    have:=HRB.out
    rw[List.drop_eq_getElem_cons (by simpa using hlt),Ps.sm] at this
    exact this
   generalize hc:t[k].toNat=c at *
   obtain⟨pa,hpa⟩:∃pa,a*A=pa:=⟨_,rfl⟩
   obtain⟨pb,hpb⟩:∃pb,b*B=pb:=⟨_,rfl⟩
   rw[hpa] at stepA hma
   rw[hpb] at stepB hmb
   have ea:(a:Int)*(A:Int)=(pa:Int):=by rw[← hpa];rfl
   have eb:(b:Int)*(B:Int)=(pb:Int):=by rw[← hpb];rfl
   have la:(pa+c+1) % 2147483647<2147483647:=Nat.mod_lt _ (by omega)
   have lb:(pb+c+1) % 2147483647<2147483647:=Nat.mod_lt _ (by omega)
   clear HRA HRB hpa hpb
   go_wp2
   go_quiet (fail)
   obtain⟨V,hV⟩:∃V,V=wr.drewN nq:=⟨_,rfl⟩
   have HBV:Hid (Below w2.heap.size w2 V):=by rw[hV];exact Go.below_drewN HB.out _
   have v3:V.cell? ⟨w.heap.size,3,none⟩=some (.int .i64 B):=by rw[hV];exact q3
   rw[← hV]
   clear hV q2 q3
   go_wp2
   go_quiet (fail)
   have HBV2:Hid (Below w2.heap.size w2 (V.drewN nq)):=Go.below_drewN HBV.out _
   go_wp2
   go_roundw
   case rel=>exact⟨k+1,(pa+c+1) % 2147483647,(pb+c+1) % 2147483647,by omega,by go_num,by first|rfl|(congr 1;omega),by first|rfl|(congr 1;omega),la,lb,stepA,stepB,HBV2⟩
   case measure=>simp[Lib.intOf];omega
  ·have ea:a=RA:=by
    rw[← HRA.out,List.drop_eq_nil_of_le (by simp;omega)];rfl
   have eb:b=RB:=by
    rw[← HRB.out,List.drop_eq_nil_of_le (by simp;omega)];rfl
   subst ea eb
   clear HRA HRB
   go_wp2_with (first|(refine wpL_store_row rfl 51 _ _ rfl (w.heap.size+1) #[.int .i64 a,.int .i64 b] rfl rfl 51 _ hresw (by kernel_rfl) rfl (by simp[Value.oneCell']) ?_)|go_in)
   exact retSum _ _ _ _ rfl hresw hbww
namespace Pl
def signB (c:UInt8):Bool:=decide (c.toNat≤127) && (!(c==59) && !(c==61))
def selB (c:UInt8):Bool:=(decide (97≤c.toNat) && decide (c.toNat≤122)) || digit c
def apart (l:List UInt8):Bool:=l.all fun c=>!(c==59) && !(c==61)
def selOk (l:List UInt8):Bool:=!l.isEmpty && (decide (l.length≤60) && l.all selB)
def domOk (l:List UInt8):Bool:=domI l && (!(l.head?==some 91) && l.all signB)
def sNameOk (l:List UInt8):Bool:=nameOk l && l.all signB
theorem ix_neg (c:UInt8):∀l:List UInt8,decide (indexByte l c<0)=l.all fun x=>!(x==c)
 | []=>by simp[indexByte]
 | a::r=>by
  have ih:=ix_neg c r
  have hge:=indexByte_ge r c
  rw[List.all_cons,← ih,indexByte]
  cases hac:(a==c)
  ·simp only[Bool.false_eq_true,if_false,Bool.not_false,Bool.true_and]
   cases h1:(indexByte r c == -1)
   ·have:indexByte r c ≠ -1:=by simpa using h1
    simp only[Bool.false_eq_true,if_false]
    congr 1
    exact propext (by omega)
   ·have:indexByte r c = -1:=by simpa using h1
    simp[this]
  ·simp
theorem apart_eq (l:List UInt8):(decide (indexByte l 59<0) && decide (indexByte l 61<0))=apart l:=by
 rw[ix_neg,ix_neg,apart]
 induction l with
 | nil=>rfl
 | cons a r ih=>
  rw[List.all_cons,List.all_cons,List.all_cons,← ih]
  cases (!(a==59))<;>cases (!(a==61))<;>simp
theorem signB_eq (l:List UInt8):(l.all fun c=>decide (c.toNat≤127))=true→l.all signB=apart l:=by
 intro h
 rw[apart]
 induction l with
 | nil=>rfl
 | cons a r ih=>
  rw[List.all_cons,Bool.and_eq_true] at h
  rw[List.all_cons,List.all_cons,ih h.2,signB,h.1,Bool.true_and]
theorem signB_ascii (l:List UInt8):l.all signB=(apart l && l.all fun c=>decide (c.toNat≤127)):=by
 induction l with
 | nil=>rfl
 | cons a r ih=>
  rw[List.all_cons,apart,List.all_cons,List.all_cons,ih,apart,signB]
  cases decide (a.toNat≤127)<;>cases (!(a==59) && !(a==61))<;>cases (r.all fun c=>!(c==59) && !(c==61))<;>simp
theorem name_ascii (l:List UInt8)(h:nameOk l=true):(l.all fun c=>decide (c.toNat≤127))=true:=by
 unfold nameOk at h
 rw[Bool.and_eq_true,Bool.and_eq_true] at h
 rw[List.all_eq_true]
 intro c hc
 have:=List.all_eq_true.1 h.2.2 c hc
 unfold nb at this
 simp at this
 simp
 omega
theorem sName_eq (l:List UInt8):sNameOk l=(nameOk l && apart l):=by
 unfold sNameOk
 cases h:nameOk l
 ·rfl
 ·rw[Bool.true_and,Bool.true_and,signB_eq l (name_ascii l h)]
end Pl
theorem implSignByte (c:UInt8)(w:World):Calls Tryz.prog 152 #[.int .u8 (c.toNat:Int)] w fun e w'=>e=.returned (.bool (Pl.signB c))∧w=w':=by
 have h8:c.toNat<256:=UInt8.toNat_lt _
 unfold Pl.signB
 by_cases h1:c.toNat≤127
 ·rw[decide_eq_true h1,Bool.true_and]
  cases h2:((c.toNat:Int)==59)
  ·have e2:(c==59)=false:=beq_eq_false_iff_ne.2 (Pl.byte_ne c 59 _ rfl h2)
   have n2:((c.toNat:Int) != 59)=true:=by rw[bne,h2];rfl
   rw[e2,Bool.not_false,Bool.true_and]
   cases h3:((c.toNat:Int)==61)
   ·have e3:(c==61)=false:=beq_eq_false_iff_ne.2 (Pl.byte_ne c 61 _ rfl h3)
    have n3:((c.toNat:Int) != 61)=true:=by rw[bne,h3];rfl
    rw[e3,Bool.not_false]
    go_enter Tryz.func152,Tryz.ntmps152
    go_wp2
    go_ret
    exact⟨rfl,rfl⟩
   ·have e3:(c==61)=true:=beq_iff_eq.2 (Pl.byte_eq c 61 _ rfl h3)
    have n3:((c.toNat:Int) != 61)=false:=by rw[bne,h3];rfl
    rw[e3,Bool.not_true]
    go_enter Tryz.func152,Tryz.ntmps152
    go_wp2
    go_ret
    exact⟨rfl,rfl⟩
  ·have e2:(c==59)=true:=beq_iff_eq.2 (Pl.byte_eq c 59 _ rfl h2)
   have n2:((c.toNat:Int) != 59)=false:=by rw[bne,h2];rfl
   rw[e2,Bool.not_true,Bool.false_and]
   go_enter Tryz.func152,Tryz.ntmps152
   go_wp2
   go_ret
   exact⟨rfl,rfl⟩
 ·rw[decide_eq_false h1,Bool.false_and]
  go_enter Tryz.func152,Tryz.ntmps152
  go_wp2
  go_ret
  exact⟨rfl,rfl⟩
theorem kindSign:Kind 152 Pl.signB:=⟨Go.Proofs.enters_of Tryz.func152 (by kernel_rfl) rfl,implSignByte⟩
theorem implSelByte (c:UInt8)(w:World):Calls Tryz.prog 153 #[.int .u8 (c.toNat:Int)] w fun e w'=>e=.returned (.bool (Pl.selB c))∧w=w':=by
 have h8:c.toNat<256:=UInt8.toNat_lt _
 have hD:=fun w=>implDigit c w
 unfold Pl.selB
 by_cases h1:97≤c.toNat
 ·rw[decide_eq_true h1,Bool.true_and]
  by_cases h2:c.toNat≤122
  ·rw[decide_eq_true h2,Bool.true_or]
   go_enter Tryz.func153,Tryz.ntmps153
   go_wp2
   go_ret
   first|exact⟨rfl,rfl⟩|exact⟨congrArg (fun b=>Ending.returned (.bool b)) (by simp;omega),rfl⟩
  ·rw[decide_eq_false h2,Bool.false_or]
   have d2:decide ((c.toNat:Int)≤122)=false:=decide_eq_false (by omega)
   generalize Pl.digit c=b at *
   go_enter Tryz.func153,Tryz.ntmps153
   go_wp2_with fail
   refine(hD _).mono ?_
   rintro e w2 ⟨rfl,rfl⟩
   go_wp2
   go_ret
   exact⟨rfl,rfl⟩
 ·rw[decide_eq_false h1,Bool.false_and,Bool.false_or]
  generalize Pl.digit c=b at *
  go_enter Tryz.func153,Tryz.ntmps153
  go_wp2_with fail
  refine(hD _).mono ?_
  rintro e w2 ⟨rfl,rfl⟩
  go_wp2
  go_ret
  exact⟨rfl,rfl⟩
theorem kindSel:Kind 153 Pl.selB:=⟨Go.Proofs.enters_of Tryz.func153 (by kernel_rfl) rfl,implSelByte⟩
theorem implSelector (s:ByteArray)(w:World)(hs:s.size≤1100000) :
  Calls Tryz.prog 98 #[.string s] w fun e w'=>e=.returned (.bool (Pl.selOk s.data.toList))∧w=w':=by
 have hA:=fun w=>implAllOf kindSel s w hs
 unfold Pl.selOk
 by_cases h0:s.size=0
 ·have hl:s.data.toList=[]:=List.length_eq_zero_iff.1 (by simpa using h0)
  have he:s.toList.isEmpty=true:=by rw[ByteArray.toList_eq,hl];rfl
  rw[hl]
  clear hl hA h0
  go_enter Tryz.func98,Tryz.ntmps98
  go_wp2
  go_ret
  exact⟨rfl,rfl⟩
 ·have hl:s.data.toList.isEmpty=false:=by
   rw[List.isEmpty_eq_false_iff]
   intro e
   have:=congrArg List.length e
   simp at this
   exact h0 (by simpa using this)
  have he:s.toList.isEmpty=false:=by rw[ByteArray.toList_eq];exact hl
  rw[hl,Pl.len_list,Bool.not_false,Bool.true_and]
  clear hl h0
  by_cases h6:s.size≤60
  ·rw[decide_eq_true h6,Bool.true_and]
   generalize s.data.toList.all Pl.selB=b at *
   go_enter Tryz.func98,Tryz.ntmps98
   go_wp2_with fail
   refine(hA _).mono ?_
   rintro e w2 ⟨rfl,rfl⟩
   go_wp2
   go_ret
   exact⟨rfl,rfl⟩
  ·rw[decide_eq_false h6,Bool.false_and]
   clear hA
   go_enter Tryz.func98,Tryz.ntmps98
   go_wp2
   go_ret
   exact⟨rfl,rfl⟩
theorem head_at (s:ByteArray)(h:0<s.size):(s.data.toList.head?==some 91)=(s[0]==91):=by
 have:s.data.toList.head?=some s[0]:=by
  rw[List.head?_eq_getElem?,List.getElem?_eq_getElem (by simpa using h)]
  rfl
 rw[this]
 rfl
theorem implSignDomain (s:ByteArray)(m:Int)(w:World)(hs:s.size≤1100000)(hm:w.cell? ⟨0,0,none⟩=some (.int .i64 m)) :
  Calls Tryz.prog 97 #[.string s] w fun e w'=>e=.returned (.bool (Pl.domOk s.data.toList))∧Below w.heap.size w w':=by
 have hD:=implDomain s m w hs hm
 have hA:=fun w=>implAllOf kindSign s w hs
 unfold Pl.domOk
 by_cases h0:0<s.size
 ·have h8:s[0].toNat<256:=UInt8.toNat_lt _
  rw[head_at s h0]
  generalize Pl.domI s.data.toList=bd at *
  generalize s.data.toList.all Pl.signB=ba at *
  cases h91:((s[0].toNat:Int)==91)
  ·have e91:(s[0]==91)=false:=beq_eq_false_iff_ne.2 (Pl.byte_ne _ 91 _ rfl h91)
   have n91:((s[0].toNat:Int) != 91)=true:=by rw[bne,h91];rfl
   rw[e91]
   generalize hsk:s[0]=c0 at *
   cases bd
   ·go_enter Tryz.func97,Tryz.ntmps97
    go_wp2_with fail
    refine hD.mono ?_
    rintro e w2 ⟨rfl,hb2⟩
    go_wp2
    go_ret
    exact⟨rfl,hb2⟩
   ·go_enter Tryz.func97,Tryz.ntmps97
    go_wp2_with fail
    refine hD.mono ?_
    rintro e w2 ⟨rfl,hb2⟩
    rw[show dcode true=0 from rfl]
    go_wp2_with fail
    refine(hA _).mono ?_
    rintro e w3 ⟨rfl,rfl⟩
    go_wp2
    go_ret
    exact⟨rfl,hb2⟩
  ·have e91:(s[0]==91)=true:=beq_iff_eq.2 (Pl.byte_eq _ 91 _ rfl h91)
   have n91:((s[0].toNat:Int) != 91)=false:=by rw[bne,h91];rfl
   rw[e91,Bool.not_true,Bool.false_and,Bool.and_false]
   generalize hsk:s[0]=c0 at *
   clear hA
   cases bd
   ·go_enter Tryz.func97,Tryz.ntmps97
    go_wp2_with fail
    refine hD.mono ?_
    rintro e w2 ⟨rfl,hb2⟩
    go_wp2
    go_ret
    exact⟨rfl,hb2⟩
   ·go_enter Tryz.func97,Tryz.ntmps97
    go_wp2_with fail
    refine hD.mono ?_
    rintro e w2 ⟨rfl,hb2⟩
    rw[show dcode true=0 from rfl]
    go_wp2
    go_ret
    exact⟨rfl,hb2⟩
 ·have hl:s.data.toList=[]:=List.length_eq_zero_iff.1 (by rw[Pl.len_list];omega)
  rw[hl] at hD ⊢
  rw[show Pl.domI []=false from rfl] at hD ⊢
  rw[Bool.false_and]
  clear hA hl
  go_enter Tryz.func97,Tryz.ntmps97
  go_wp2_with fail
  refine hD.mono ?_
  rintro e w2 ⟨rfl,hb2⟩
  go_wp2
  go_ret
  exact⟨rfl,hb2⟩
theorem implNoSignName (s:ByteArray)(w:World)(hs:s.size≤1100000) :
  Calls Tryz.prog 155 #[.string s] w fun e w'=>e=.returned (.bool (!Pl.sNameOk s.data.toList))∧w=w':=by
 have hN:=fun w=>implFieldName s w hs
 have hA:=fun w=>implAllOf kindSign s w hs
 unfold Pl.sNameOk
 generalize Pl.nameOk s.data.toList=bn at *
 generalize s.data.toList.all Pl.signB=ba at *
 cases bn
 ·go_enter Tryz.func155,Tryz.ntmps155
  go_wp2_with fail
  refine(hN _).mono ?_
  rintro e w2 ⟨rfl,rfl⟩
  go_wp2
  go_ret
  exact⟨rfl,rfl⟩
 ·go_enter Tryz.func155,Tryz.ntmps155
  go_wp2_with fail
  refine(hN _).mono ?_
  rintro e w2 ⟨rfl,rfl⟩
  go_wp2_with fail
  refine(hA _).mono ?_
  rintro e w2 ⟨rfl,rfl⟩
  go_wp2
  go_ret
  exact⟨rfl,rfl⟩
theorem specApart (s:ByteArray)(w:World)(hs:s.size≤1100000) :
  Calls Tryz.prog 71 #[.string s] w fun e w'=>e=.returned (.bool (Pl.apart s.data.toList))∧w=w':=by
 have h1:=fun w=>specIndex1 s 59 w hs
 have h2:=fun w=>specIndex1 s 61 w hs
 simp only[ix_zero] at h1 h2
 rw[← Pl.apart_eq]
 have g1:=indexByte_ge s.data.toList 59
 have g2:=indexByte_ge s.data.toList 61
 generalize indexByte s.data.toList 59=i1 at *
 generalize indexByte s.data.toList 61=i2 at *
 by_cases hi:i1<0
 ·rw[decide_eq_true hi,Bool.true_and]
  go_enter Tryz.func71,Tryz.ntmps71
  go_wp2_with fail
  refine(h1 _).mono ?_
  rintro e w2 ⟨rfl,rfl⟩
  go_wp2_with fail
  refine(h2 _).mono ?_
  rintro e w2 ⟨rfl,rfl⟩
  go_wp2
  go_ret
  exact⟨rfl,rfl⟩
 ·rw[decide_eq_false hi,Bool.false_and]
  go_enter Tryz.func71,Tryz.ntmps71
  go_wp2_with fail
  refine(h1 _).mono ?_
  rintro e w2 ⟨rfl,rfl⟩
  go_wp2
  go_ret
  exact⟨rfl,rfl⟩
theorem specSelector (s:ByteArray)(w:World)(hs:s.size≤1100000) :
  Calls Tryz.prog 69 #[.string s] w fun e w'=>e=.returned (.bool (Pl.selOk s.data.toList))∧w=w':=by
 obtain⟨R,hR⟩:∃R,Pl.selOk s.data.toList=R:=⟨_,rfl⟩
 rw[hR]
 by_cases h0:s.size<1
 ·have hl:s.data.toList=[]:=List.length_eq_zero_iff.1 (by rw[Pl.len_list];omega)
  rw[hl] at hR
  subst hR
  go_enter Tryz.func69,Tryz.ntmps69
  go_wp2
  go_ret
  exact⟨rfl,rfl⟩
 ·by_cases h6:60<s.size
  ·have hf:R=false:=by rw[← hR,Pl.selOk,Pl.len_list,decide_eq_false (by omega),Bool.false_and,Bool.and_false]
   subst hf
   clear hR
   go_enter Tryz.func69,Tryz.ntmps69
   go_wp2
   go_ret
   exact⟨rfl,rfl⟩
  ·have hne:s.data.toList.isEmpty=false:=by
    rw[List.isEmpty_eq_false_iff]
    intro e
    have:=congrArg List.length e
    simp at this
    exact h0 (by simp[this])
   have HR:Hid ((s.data.toList.drop 0).all Pl.selB=R):=by
    show _=_
    rw[← hR,Pl.selOk,hne,Pl.len_list,decide_eq_true (by omega)]
    rfl
   clear hR hne
   go_enter Tryz.func69,Tryz.ntmps69
   go_wp2
   go_loopw [3] (fun i wr=>∃ k:Nat,k≤s.size∧i=.int .i64 k∧Hid ((s.data.toList.drop k).all Pl.selB=R)∧wr=w) (fun i _=>s.size-(Lib.intOf i).toNat)
   case atStart=>exact⟨0,Nat.zero_le _,rfl,HR,rfl⟩
   case round=>
    clear HR
    obtain⟨k,hk,rfl,hp,rfl⟩:=hrel
    by_cases hlt:k<s.size
    ·have h8:s[k].toNat<256:=UInt8.toNat_lt _
     have hst:=Pl.all_step Pl.selB s.data.toList k (by simpa using hlt)
     rw[Pl.at_list s k hlt,hp.out] at hst
     have Hst:Hid (R=(Pl.selB s[k] && (s.data.toList.drop (k+1)).all Pl.selB)):=hst
     clear hst hp
     generalize hsk:s[k]=c at *
     cases hg:Pl.selB c
     ·have hR:R=false:=by rw[Hst.out,hg,Bool.false_and]
      subst hR
      have hcs:c.toNat<48∨(57<c.toNat∧c.toNat<97)∨122<c.toNat:=by
       unfold Pl.selB Pl.digit at hg
       simp at hg
       omega
      clear Hst hg
      rcases hcs with h1|⟨h1,h2⟩|h1
      ·have d97:decide ((97:Int)≤(c.toNat:Int))=false:=decide_eq_false (by omega)
       have d48:decide ((48:Int)≤(c.toNat:Int))=false:=decide_eq_false (by omega)
       go_wp2
       go_ret
       exact⟨rfl,rfl⟩
      ·have d97:decide ((97:Int)≤(c.toNat:Int))=false:=decide_eq_false (by omega)
       have d48:decide ((48:Int)≤(c.toNat:Int))=true:=decide_eq_true (by omega)
       have d57:decide ((c.toNat:Int)≤57)=false:=decide_eq_false (by omega)
       go_wp2
       go_ret
       exact⟨rfl,rfl⟩
      ·have d97:decide ((97:Int)≤(c.toNat:Int))=true:=decide_eq_true (by omega)
       have d122:decide ((c.toNat:Int)≤122)=false:=decide_eq_false (by omega)
       have d48:decide ((48:Int)≤(c.toNat:Int))=true:=decide_eq_true (by omega)
       have d57:decide ((c.toNat:Int)≤57)=false:=decide_eq_false (by omega)
       clear h1
       go_wp2
       go_ret
       exact⟨rfl,rfl⟩
     ·have HN:Hid ((s.data.toList.drop (k+1)).all Pl.selB=R):=by show _=_;rw[Hst.out,hg,Bool.true_and]
      have hcs:(97≤c.toNat∧c.toNat≤122)∨(48≤c.toNat∧c.toNat≤57):=by
       unfold Pl.selB Pl.digit at hg
       simp at hg
       omega
      clear Hst hg
      rcases hcs with ⟨h1,h2⟩|⟨h1,h2⟩
      ·have d97:decide ((97:Int)≤(c.toNat:Int))=true:=decide_eq_true (by omega)
       have d122:decide ((c.toNat:Int)≤122)=true:=decide_eq_true (by omega)
       clear h1 h2
       go_wp2
       go_roundw
       case rel=>exact⟨k+1,by omega,by go_num,HN,trivial⟩
       case measure=>simp[Lib.intOf];omega
      ·have d97:decide ((97:Int)≤(c.toNat:Int))=false:=decide_eq_false (by omega)
       have d48:decide ((48:Int)≤(c.toNat:Int))=true:=decide_eq_true (by omega)
       have d57:decide ((c.toNat:Int)≤57)=true:=decide_eq_true (by omega)
       clear h1 h2
       go_wp2
       go_roundw
       case rel=>exact⟨k+1,by omega,by go_num,HN,trivial⟩
       case measure=>simp[Lib.intOf];omega
    ·have hR:R=true:=by rw[← hp.out];exact Pl.all_done Pl.selB _ k (by simp;omega)
     subst hR
     clear hp
     go_wp2
     go_ret
     exact⟨rfl,rfl⟩
theorem specSignDomain (s:ByteArray)(w:World)(hs:s.size≤1100000) :
  Calls Tryz.prog 68 #[.string s] w fun e w'=>e=.returned (.bool (Pl.domOk s.data.toList))∧Below w.heap.size w w':=by
 have hD:=specDomain s w hs
 have hA:=fun w=>specApart s w hs
 unfold Pl.domOk
 rw[Pl.signB_ascii]
 by_cases h0:0<s.size
 ·have h8:s[0].toNat<256:=UInt8.toNat_lt _
  rw[head_at s h0]
  generalize Pl.domI s.data.toList=bd at *
  generalize Pl.apart s.data.toList=ba at *
  cases bd
  ·clear hA
   go_enter Tryz.func68,Tryz.ntmps68
   go_wp2_with fail
   refine hD.mono ?_
   rintro e w2 ⟨rfl,hb2⟩
   rw[show dcode false=1 from rfl]
   go_wp2
   go_ret
   exact⟨rfl,hb2⟩
  ·cases h91:((s[0].toNat:Int)==91)
   ·have e91:(s[0]==91)=false:=beq_eq_false_iff_ne.2 (Pl.byte_ne _ 91 _ rfl h91)
    rw[e91,Bool.not_false,Bool.true_and,Bool.true_and]
    cases ba
    ·generalize hsk:s[0]=c0 at *
     go_enter Tryz.func68,Tryz.ntmps68
     go_wp2_with fail
     refine hD.mono ?_
     rintro e w2 ⟨rfl,hb2⟩
     rw[show dcode true=0 from rfl]
     go_wp2_with fail
     refine(hA _).mono ?_
     rintro e w3 ⟨rfl,rfl⟩
     go_wp2
     go_ret
     exact⟨rfl,hb2⟩
    ·rw[Bool.true_and]
     obtain⟨R,hR⟩:∃R,(s.data.toList.all fun c=>decide (c.toNat≤127))=R:=⟨_,rfl⟩
     have HR:Hid (((s.data.toList.drop 0).all fun c=>decide (c.toNat≤127))=R):=hR
     rw[hR]
     clear hR e91
     generalize hsk:s[0]=c0 at *
     go_enter Tryz.func68,Tryz.ntmps68
     go_wp2_with fail
     refine hD.mono ?_
     rintro e w2 ⟨rfl,hb2⟩
     rw[show dcode true=0 from rfl]
     go_wp2_with fail
     refine(hA _).mono ?_
     rintro e w3 ⟨rfl,rfl⟩
     have Hb2:Hid (Below w.heap.size w w2):=hb2
     clear hA hD hb2 hsk h91 h8
     obtain⟨V,hV⟩:∃V,V=w2:=⟨_,rfl⟩
     subst hV
     go_wp2
     go_loopw [3] (fun i wr=>∃ k:Nat,k≤s.size∧i=.int .i64 k∧Hid (((s.data.toList.drop k).all fun c=>decide (c.toNat≤127))=R)∧wr=V) (fun i _=>s.size-(Lib.intOf i).toNat)
     case atStart=>exact⟨0,Nat.zero_le _,rfl,HR,rfl⟩
     case round=>
      clear HR
      obtain⟨k,hk,rfl,hp,rfl⟩:=hrel
      by_cases hlt:k<s.size
      ·have h8:s[k].toNat<256:=UInt8.toNat_lt _
       have hst:=Pl.all_step (fun c=>decide (c.toNat≤127)) s.data.toList k (by simpa using hlt)
       rw[Pl.at_list s k hlt,hp.out] at hst
       have Hst:Hid (R=(decide (s[k].toNat≤127) && ((s.data.toList.drop (k+1)).all fun c=>decide (c.toNat≤127)))):=hst
       clear hst hp
       generalize hsk:s[k]=c at *
       by_cases h1:c.toNat≤127
       ·have HN:Hid (((s.data.toList.drop (k+1)).all fun c=>decide (c.toNat≤127))=R):=by show _=_;rw[Hst.out,decide_eq_true h1,Bool.true_and]
        clear Hst
        go_wp2
        go_roundw
        case rel=>exact⟨k+1,by omega,by go_num,HN,trivial⟩
        case measure=>simp[Lib.intOf];omega
       ·have hR:R=false:=by rw[Hst.out,decide_eq_false h1,Bool.false_and]
        subst hR
        clear Hst
        go_wp2
        go_ret
        exact⟨rfl,Hb2.out⟩
      ·have hR:R=true:=by rw[← hp.out];exact Pl.all_done (fun c=>decide (c.toNat≤127)) _ k (by simp;omega)
       subst hR
       clear hp
       go_wp2
       go_ret
       exact⟨rfl,Hb2.out⟩
   ·have e91:(s[0]==91)=true:=beq_iff_eq.2 (Pl.byte_eq _ 91 _ rfl h91)
    rw[e91,Bool.not_true,Bool.false_and,Bool.and_false]
    generalize hsk:s[0]=c0 at *
    clear hA
    go_enter Tryz.func68,Tryz.ntmps68
    go_wp2_with fail
    refine hD.mono ?_
    rintro e w2 ⟨rfl,hb2⟩
    rw[show dcode true=0 from rfl]
    go_wp2
    go_ret
    exact⟨rfl,hb2⟩
 ·have hl:s.data.toList=[]:=List.length_eq_zero_iff.1 (by rw[Pl.len_list];omega)
  rw[hl] at hD ⊢
  rw[show Pl.domI []=false from rfl] at hD ⊢
  rw[Bool.false_and]
  clear hA hl
  go_enter Tryz.func68,Tryz.ntmps68
  go_wp2_with fail
  refine hD.mono ?_
  rintro e w2 ⟨rfl,hb2⟩
  rw[show dcode false=1 from rfl]
  go_wp2
  go_ret
  exact⟨rfl,hb2⟩
theorem implLongName (d s:ByteArray)(x y:Int)(w:World)(hd:d.size≤100000)(hs:s.size≤100000) :
  Calls Tryz.prog 28 #[keyV d s x y] w fun e w'=>e=.returned (.bool false)∧Below w.heap.size w w':=by
 have hA:∀ob,Below w.heap.size w (w.alloc ob):=fun ob=>(Below.refl _ _).alloc (Nat.le_refl _) _
 have hD:=fun w=>implTooLong d w (by omega)
 have hS:=fun w=>implTooLong s w (by omega)
 rw[show decide ((100000:Int)<(d.size:Int))=false from decide_eq_false (by omega)] at hD
 rw[show decide ((100000:Int)<(s.size:Int))=false from decide_eq_false (by omega)] at hS
 go_enter Tryz.func28,Tryz.ntmps28
 go_wp2_with fail
 refine(hD _).mono ?_
 rintro e w2 ⟨rfl,rfl⟩
 go_wp2_with fail
 refine(hS _).mono ?_
 rintro e w2 ⟨rfl,rfl⟩
 go_wp2
 go_ret
 exact⟨rfl,hA _⟩
theorem implFactor (x:Int)(w:World):Calls Tryz.prog 96 #[.int .i64 x] w fun e w'=>e=.returned (.bool (decide (1≤x) && decide (x<2147483647)))∧w=w':=by
 by_cases h1:1≤x
 ·rw[decide_eq_true h1,Bool.true_and]
  go_enter Tryz.func96,Tryz.ntmps96
  go_wp2
  go_ret
  exact⟨rfl,rfl⟩
 ·rw[decide_eq_false h1,Bool.false_and]
  go_enter Tryz.func96,Tryz.ntmps96
  go_wp2
  go_ret
  exact⟨rfl,rfl⟩
theorem implRight (d s:ByteArray)(x y:Int)(w:World) :
  Calls Tryz.prog 53 #[keyV d s x y] w fun e w'=>e=.returned (.bool (keyOk x y))∧Below w.heap.size w w':=by
 have hA:∀ob,Below w.heap.size w (w.alloc ob):=fun ob=>(Below.refl _ _).alloc (Nat.le_refl _) _
 have hX:=fun w=>implFactor x w
 have hY:=fun w=>implFactor y w
 unfold keyOk
 rw[← Bool.and_assoc]
 generalize (decide (1≤x) && decide (x<2147483647))=bx at *
 generalize (decide (1≤y) && decide (y<2147483647))=by' at *
 cases bx
 ·rw[Bool.false_and]
  go_enter Tryz.func53,Tryz.ntmps53
  go_wp2_with fail
  refine(hX _).mono ?_
  rintro e w2 ⟨rfl,rfl⟩
  go_wp2
  go_ret
  exact⟨rfl,hA _⟩
 ·rw[Bool.true_and]
  go_enter Tryz.func53,Tryz.ntmps53
  go_wp2_with fail
  refine(hX _).mono ?_
  rintro e w2 ⟨rfl,rfl⟩
  go_wp2_with fail
  refine(hY _).mono ?_
  rintro e w2 ⟨rfl,rfl⟩
  go_wp2
  go_ret
  exact⟨rfl,hA _⟩
theorem implSumWith (d s:ByteArray)(A B a b c:Nat)(w:World)(hA:A<2147483647)(hB:B<2147483647)(ha:a<2147483647)(hb:b<2147483647)(hc:c<256) :
  Calls Tryz.prog 56 #[keyV d s A B,sumV a b,.int .u8 c] w fun e w'=>e=.returned (sumV ((a*A+c+1) % 2147483647) ((b*B+c+1) % 2147483647))∧Below w.heap.size w w':=by
 have hma:=mul_bound a A ha hA
 have hmb:=mul_bound b B hb hB
 obtain⟨pa,hpa⟩:∃pa,a*A=pa:=⟨_,rfl⟩
 obtain⟨pb,hpb⟩:∃pb,b*B=pb:=⟨_,rfl⟩
 rw[hpa] at hma ⊢
 rw[hpb] at hmb ⊢
 have ea:(a:Int)*(A:Int)=(pa:Int):=by rw[← hpa];rfl
 have eb:(b:Int)*(B:Int)=(pb:Int):=by rw[← hpb];rfl
 clear hpa hpb
 go_enter Tryz.func56,Tryz.ntmps56
 go_wp2
 refine bodyPost_ret (v:=.agg #[.int .i64 (((pa:Int)+((c:Int)+1)) % 2147483647),.int .i64 (((pb:Int)+((c:Int)+1)) % 2147483647)]) (by simp[results,Tryz.results56,go_sem]) rfl ⟨?_,?_⟩
 ·have e1:((pa:Int)+((c:Int)+1)) % 2147483647=(((pa+c+1) % 2147483647:Nat):Int):=by omega
  have e2:((pb:Int)+((c:Int)+1)) % 2147483647=(((pb+c+1) % 2147483647:Nat):Int):=by omega
  rw[e1,e2]
 ·exact(((Below.refl _ _).alloc (Nat.le_refl _) _).alloc (by simp) _).alloc (by simp;omega) _
theorem entersSum:∀(args:Array Value)(w:World),(callFunc 56 args).run Tryz.prog w=.ok (.enter 56 args) w:=Go.Proofs.enters_of Tryz.func56 (by kernel_rfl) rfl
theorem wp_load_row {P:Program} {w:World} {o:Oper} {a:Act} {K:Act→World→Prop} {Q:Exit→Act→World→Prop} (ty:TypeId)(x:Operand)(ho:o.op=.load ty x)
  (g:Nat) (cs:Array Value) (t:TypeId) (fr:Nat × Nat) (d:TypeDesc) (hx:a.eval x=.pointer (some ⟨g,0,none⟩)) (hgp:w.heap[g]?=some (.cells cs t fr))
  (hu:P.underlying ty=some d) (hd:(match d with | .struct _ | .array _ _=>true|_=>false)=true) (hi:(P.info? ty).map (·.size)=some cs.size)
  (h:K (a.put o.dst (.agg cs)) w):Oper.wp P o a w K Q:=by
 unfold Oper.wp execOp
 simp only[ho,hx,Instr.loadAt,Instr.sureAddr,Sem.run_bind,Sem.run_pure,Result.andThen_ok,run_loadVar_row w g t ty cs fr d hgp hu hd hi]
 exact h
set_option maxRecDepth 10000 in
theorem implGatherS (d s t:ByteArray)(A B:Nat)(w:World)(ht:t.size≤200000)(hA:A<2147483647)(hB:B<2147483647) :
  Calls Tryz.prog 55 #[.string t,sumV 1 1,.func (.func 56) #[keyV d s A B] #[]] w fun e w'=>e=.returned (sumV (Ps.sm A 1 t.data.toList) (Ps.sm B 1 t.data.toList))∧Below w.heap.size w w':=by
 have hE:=entersSum
 obtain⟨RA,hRA⟩:∃R,Ps.sm A 1 t.data.toList=R:=⟨_,rfl⟩
 obtain⟨RB,hRB⟩:∃R,Ps.sm B 1 t.data.toList=R:=⟨_,rfl⟩
 have HRA:Hid (Ps.sm A 1 (t.data.toList.drop 0)=RA):=hRA
 have HRB:Hid (Ps.sm B 1 (t.data.toList.drop 0)=RB):=hRB
 rw[hRA,hRB]
 clear hRA hRB
 have HW:Hid ((((w.alloc (.cells #[.int .i64 1,.int .i64 1] 51)).alloc (.cells #[.int .i64 0,.int .i64 0] 51)).heap[w.heap.size]?=some (.cells #[.int .i64 ((1:Nat):Int),.int .i64 ((1:Nat):Int)] 51 (0,0)))∧((w.alloc (.cells #[.int .i64 1,.int .i64 1] 51)).alloc (.cells #[.int .i64 0,.int .i64 0] 51)).heap[w.heap.size+1]?=some (.cells #[.int .i64 0,.int .i64 0] 51 (0,0))):=by
  constructor
  ·exact(heap_alloc_old _ _ _ (by simp)).trans (heap_alloc_at _ _)
  ·have:=heap_alloc_at (w.alloc (.cells #[.int .i64 1,.int .i64 1] 51)) (.cells #[.int .i64 0,.int .i64 0] 51)
   simpa using this
 have HB0:Hid (Below w.heap.size w ((w.alloc (.cells #[.int .i64 1,.int .i64 1] 51)).alloc (.cells #[.int .i64 0,.int .i64 0] 51))):=((Below.refl _ _).alloc (Nat.le_refl _) _).alloc (by simp) _
 go_enter Tryz.func55,Tryz.ntmps55
 go_wp2
 go_loopw [7,10] (fun _ i wr=>∃ (k a b:Nat),k≤t.size∧i=.int .i64 k∧a<2147483647∧b<2147483647∧Hid (Ps.sm A a (t.data.toList.drop k)=RA)∧Hid (Ps.sm B b (t.data.toList.drop k)=RB)∧Hid (wr.heap[w.heap.size]?=some (.cells #[.int .i64 (a:Int),.int .i64 (b:Int)] 51 (0,0)))∧Hid (wr.heap[w.heap.size+1]?=some (.cells #[.int .i64 0,.int .i64 0] 51 (0,0)))∧Hid (Below w.heap.size w wr)) (fun _ i _=>t.size-(Lib.intOf i).toNat)
 case atStart=>exact⟨0,1,1,Nat.zero_le _,rfl,by omega,by omega,HRA,HRB,HW.out.1,HW.out.2,HB0⟩
 case round=>
  clear HRA HRB HW HB0
  obtain⟨k,a,b,hk,rfl,ha,hb,HRA,HRB,HV,HO,HB⟩:=hrel
  by_cases hlt:k<t.size
  ·have h8:t[k].toNat<256:=UInt8.toNat_lt _
   have stepA:Hid (Ps.sm A ((a*A+t[k].toNat+1) % 2147483647) (t.data.toList.drop (k+1))=RA):=by
    have:=HRA.out
    rw[List.drop_eq_getElem_cons (by simpa using hlt),Ps.sm] at this
    exact this
   have stepB:Hid (Ps.sm B ((b*B+t[k].toNat+1) % 2147483647) (t.data.toList.drop (k+1))=RB):=by
    have:=HRB.out
    rw[List.drop_eq_getElem_cons (by simpa using hlt),Ps.sm] at this
    exact this
   have hC:=fun w=>implSumWith d s A B a b t[k].toNat w hA hB ha hb h8
   have la:(a*A+t[k].toNat+1) % 2147483647<2147483647:=Nat.mod_lt _ (by omega)
   have lb:(b*B+t[k].toNat+1) % 2147483647<2147483647:=Nat.mod_lt _ (by omega)
   generalize hsk:t[k]=c at *
   generalize (a*A+c.toNat+1) % 2147483647=na at *
   generalize (b*B+c.toNat+1) % 2147483647=nb at *
   clear HRA HRB
   go_wp2
   have hV1:({ wr with drawn:=wr.drawn+1 }:World).heap[w.heap.size]?=some (.cells #[.int .i64 (a:Int),.int .i64 (b:Int)] 51 (0,0)):=HV.out
   have HO1:Hid (({ wr with drawn:=wr.drawn+1 }:World).heap[w.heap.size+1]?=some (.cells #[.int .i64 0,.int .i64 0] 51 (0,0))):=HO.out
   have HB1:Hid (Below w.heap.size w { wr with drawn:=wr.drawn+1 }):=HB.out.drew
   refine wp_region_any (by kernel_rfl) ?_
   obtain⟨V,hV⟩:∃V:World,V = { wr with drawn:=wr.drawn+1 }:=⟨_,rfl⟩
   rw[← hV] at hV1 HO1 HB1 ⊢
   clear hV HV HO HB
   refine wpAny_take (i:=0) (v:=.func (.func 56) #[keyV d s A B] #[]) rfl (by kernel_rfl) (by kernel_rfl) (by kernel_rfl) (fun _ _ _ h=>h) (Or.inl ⟨by rfl,?_⟩) ?_
   ·intro w
    go_simp
   go_simp
   refine wpAny_take (i:=2) (v:=.string t) rfl (by kernel_rfl) (by kernel_rfl) (by kernel_rfl) (fun _ _ _ h=>h) (Or.inl ⟨by rfl,?_⟩) ?_
   ·intro w
    go_simp
   go_simp
   refine wpAny_take (i:=3) (v:=.int .i64 (k:Int)) rfl (by kernel_rfl) (by kernel_rfl) (by kernel_rfl) (fun _ _ _ h=>h) (Or.inl ⟨by rfl,?_⟩) ?_
   ·intro w
    go_simp
   go_simp
   refine wpAny_take (i:=4) (v:=.int .u8 (c.toNat:Int)) rfl (by kernel_rfl) (by kernel_rfl) (by kernel_rfl) (fun _ _ _ h=>h) (Or.inl ⟨by rfl,?_⟩) ?_
   ·intro w
    go_simp
   go_simp
   refine wpAny_ready (rs:=[1]) (by kernel_rfl) (by simp) ?_
   refine AllReady.cons rfl (fun K hK=>?_) AllReady.nil
   split
   case isFalse hnw=>exact absurd rfl hnw
   refine wp_load_row 51 _ rfl w.heap.size _ 51 (0,0) _ rfl hV1 Tryz.underlying51 rfl (by kernel_rfl) ?_
   refine hK _ _ ?_
   clear hK K
   go_simp
   refine wpAny_ready (rs:=[5]) (by kernel_rfl) (by simp) ?_
   refine AllReady.cons rfl (fun K hK=>?_) AllReady.nil
   go_simp
   refine(hC _).mono ?_
   rintro e w2 ⟨rfl,hb2⟩
   have hV2:=(hb2.block _ (heap_lt hV1)).trans hV1
   have HO2:Hid (w2.heap[w.heap.size+1]?=some (.cells #[.int .i64 0,.int .i64 0] 51 (0,0))):=(hb2.block _ (heap_lt HO1.out)).trans HO1.out
   have HB2:Hid (Below w.heap.size w w2):=HB1.out.trans (hb2.mono HB1.out.size)
   clear hb2 hV1 HO1 HB1 hC
   go_simp
   refine hK _ _ ?_
   clear hK K
   go_simp
   refine wpAny_ready (rs:=[6]) (by kernel_rfl) (by simp) ?_
   refine AllReady.cons rfl (fun K hK=>?_) AllReady.nil
   split
   case isFalse hnw=>exact absurd rfl hnw
   refine wp_store_row 51 _ _ rfl w.heap.size #[.int .i64 (na:Int),.int .i64 (nb:Int)] rfl rfl 51 _ hV2 (by kernel_rfl) rfl (by simp[Value.oneCell']) ?_
   refine hK _ _ ?_
   clear hK K
   refine wpAny_done (by kernel_rfl) ?_ _
   have HV3:Hid ((w2.setRow w.heap.size #[.int .i64 (na:Int),.int .i64 (nb:Int)]).heap[w.heap.size]?=some (.cells #[.int .i64 (na:Int),.int .i64 (nb:Int)] 51 (0,0))):=setRow_heap _ _ _ _ _ _ hV2
   have HO3:Hid ((w2.setRow w.heap.size #[.int .i64 (na:Int),.int .i64 (nb:Int)]).heap[w.heap.size+1]?=some (.cells #[.int .i64 0,.int .i64 0] 51 (0,0))):=(setRow_other _ _ _ _ (by omega)).trans HO2.out
   have HB3:Hid (Below w.heap.size w (w2.setRow w.heap.size #[.int .i64 (na:Int),.int .i64 (nb:Int)])):=HB2.out.grown (grown_setRow _ _ _) HB2.out.size (fun j hj=>by cases hj;omega)
   go_wp2
   go_roundw
   case rel=>exact⟨k+1,na,nb,by omega,by go_num,la,lb,stepA,stepB,HV3,HO3,HB3⟩
   case measure=>simp[Lib.intOf];omega
  ·have ea:a=RA:=by
    rw[← HRA.out,List.drop_eq_nil_of_le (by simp;omega)];rfl
   have eb:b=RB:=by
    rw[← HRB.out,List.drop_eq_nil_of_le (by simp;omega)];rfl
   subst ea eb
   have hV:=HV.out
   have hO:=HO.out
   have hB:=HB.out
   clear HRA HRB HV HO HB
   go_wp2_with (first|(refine wpL_store_row rfl 51 _ _ rfl (w.heap.size+1) #[.int .i64 a,.int .i64 b] rfl rfl 51 _ hO (by kernel_rfl) rfl (by simp[Value.oneCell']) ?_)|(refine wpL_load_row rfl 51 _ rfl w.heap.size _ 51 (0,0) _ rfl hV Tryz.underlying51 rfl (by kernel_rfl) ?_)|go_in)
   refine bodyPost_ret (v:=sumV a b) (results_cell_row Tryz.results55 _ _ (w.heap.size+1) 51 _ (0,0) _ rfl (setRow_heap _ _ _ _ _ _ hO) Tryz.underlying51 rfl (by kernel_rfl)) rfl ⟨rfl,hB.grown (grown_setRow _ _ _) hB.size (fun j hj=>by cases hj;omega)⟩
theorem implSum (d s t:ByteArray)(A B:Nat)(w:World)(hd:d.size≤100000)(hs:s.size≤100000)(ht:t.size≤200000)(hA0:1≤A)(hA:A<2147483647)(hB0:1≤B)(hB:B<2147483647) :
  Calls Tryz.prog 16 #[keyV d s A B,.string t] w fun e w'=>e=.returned (sumV (Ps.sm A 1 t.data.toList) (Ps.sm B 1 t.data.toList))∧Below w.heap.size w w':=by
 have hL:=fun w=>implLongName d s A B w hd hs
 have hK:=fun w=>implRight d s A B w
 have hG:=fun w=>implGatherS d s t A B w ht hA hB
 rw[show keyOk (A:Int) (B:Int)=true from (keyOk_iff _ _).2 (by omega)] at hK
 obtain⟨f0,f1,f2,f3⟩:=sumW_facts d s A B w
 generalize Ps.sm A 1 t.data.toList=RA at *
 generalize Ps.sm B 1 t.data.toList=RB at *
 go_enter Tryz.func16,Tryz.ntmps16
 go_wp2_with fail
 refine(hL _).mono ?_
 rintro e w2 ⟨rfl,hb2⟩
 have hres2:=(hb2.block (w.heap.size+1) (by rw[f2];omega)).trans f1
 have hkey2:=(hb2.block w.heap.size (by rw[f2];omega)).trans f0
 have Hb2:Hid (Below w.heap.size w w2):=f3.trans (hb2.mono f3.size)
 have q0:w2.cell? ⟨w.heap.size,0,none⟩=some (.string d):=by simp[World.cell?,hkey2]
 have q1:w2.cell? ⟨w.heap.size,1,none⟩=some (.string s):=by simp[World.cell?,hkey2]
 have q2:w2.cell? ⟨w.heap.size,2,none⟩=some (.int .i64 A):=by simp[World.cell?,hkey2]
 have q3:w2.cell? ⟨w.heap.size,3,none⟩=some (.int .i64 B):=by simp[World.cell?,hkey2]
 clear hL f0 f1 f2 f3 hb2
 go_wp2_with fail
 refine(hK _).mono ?_
 rintro e w3 ⟨rfl,hb3⟩
 have hres3:=(hb3.block _ (heap_lt hres2)).trans hres2
 have hkey3:=(hb3.block _ (heap_lt hkey2)).trans hkey2
 have Hb3:Hid (Below w.heap.size w w3):=Hb2.out.trans (hb3.mono Hb2.out.size)
 clear hK hb3 hres2 hkey2 Hb2 q0 q1 q2 q3
 have q0:w3.cell? ⟨w.heap.size,0,none⟩=some (.string d):=by simp[World.cell?,hkey3]
 have q1:w3.cell? ⟨w.heap.size,1,none⟩=some (.string s):=by simp[World.cell?,hkey3]
 have q2:w3.cell? ⟨w.heap.size,2,none⟩=some (.int .i64 A):=by simp[World.cell?,hkey3]
 have q3:w3.cell? ⟨w.heap.size,3,none⟩=some (.int .i64 B):=by simp[World.cell?,hkey3]
 go_wp2_with fail
 refine(hG _).mono ?_
 rintro e w4 ⟨rfl,hb4⟩
 have hres4:=(hb4.block _ (heap_lt hres3)).trans hres3
 have hB4:=Hb3.out.trans (hb4.mono Hb3.out.size)
 clear hG hb4 hres3 hkey3 Hb3 q0 q1 q2 q3
 go_wp2_with (first|(refine wpL_store_row rfl 51 _ _ rfl (w.heap.size+1) #[.int .i64 RA,.int .i64 RB] rfl rfl 51 _ hres4 (by kernel_rfl) rfl (by simp[Value.oneCell']) ?_)|go_in)
 refine bodyPost_ret (v:=sumV RA RB) (results_cell_row Tryz.results16 _ _ (w.heap.size+1) 51 _ (0,0) _ rfl (setRow_heap _ _ _ _ _ _ hres4) Tryz.underlying51 rfl (by kernel_rfl)) rfl ⟨rfl,hB4.grown (grown_setRow _ _ _) hB4.size (fun j hj=>by cases hj;omega)⟩
open Go.RowKit Go.Lib Go.Maps
def Tx (B:Nat)(w:World)(o:Option Addr)(ps:List ByteArray):Prop:=∀k (h:k<ps.length),∃ a,o=some a∧a.block<B∧w.cell? (a.add k)=some (.string ps[k])
theorem Tx.below {B:Nat} {w w':World} {o:Option Addr} {ps:List ByteArray} (h:Tx B w o ps)(hb:Below B w w'):Tx B w' o ps:=by
 intro k hk
 obtain⟨a,rfl,ha,hc⟩:=h k hk
 refine⟨a,rfl,ha,?_⟩
 rw[← hc]
 have e:(a.add k).block=a.block:=by unfold Addr.add;split<;>rfl
 exact hb.cell (by rw[e];exact ha)
theorem Tx.mono {B B':Nat} {w:World} {o:Option Addr} {ps:List ByteArray} (h:Tx B w o ps)(hB:B≤B'):Tx B' w o ps:=by
 intro k hk
 obtain⟨a,rfl,ha,hc⟩:=h k hk
 exact⟨a,rfl,by omega,hc⟩
end Go.Proofs.YtacaoiedcfelcaaGreatDoor
