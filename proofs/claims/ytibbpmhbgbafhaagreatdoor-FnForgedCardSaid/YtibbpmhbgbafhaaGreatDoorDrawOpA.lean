import Derived.Test.YtibbpmhbgbafhaaGreatDoorCkSmall
import Derived.Test.YtibbpmhbgbafhaaGreatDoorDrawName
import Derived.Test.YtibbpmhbgbafhaaGreatDoorTexts
import Derived.Test.YtibbpmhbgbafhaaGreatDoorSumSpec
import Derived.Deep.OwnRows
import Derived.Lib.QuietBelow
import Derived.Deep.QuietTactic
import Derived.BigQuiet
import Derived.Test.YtibbpmhbgbafhaaGreatDoorDraw
import Derived.Maps.AppendAt
set_option maxRecDepth 20000
namespace Go.Proofs.YtibbpmhbgbafhaaGreatDoor
open Go.RowKit
section
variable {P:Program} {ops:Array Oper} {Q:Exit→Act→World→Prop} {md:Region.Mode}
def afterLowM (md:Region.Mode)(ops:Array Oper):Bool:=(List.range ops.size).all fun i=>((ops[i]?).map fun o=>o.after.toList.all fun e=>!Region.binds md e || decide (e.on<i)).getD false
theorem all_doneM {L:Array Bool} (hs:L.size=ops.size)(hA:afterLowM md ops=true)(hr:Region.ready md ops L=[]):∀m i,i<m→i<ops.size→L.getD i false=true
 | 0,i,h,_=>by omega
 | m+1,i,h,hi=>by
  by_cases hm:i<m
  ·exact all_doneM hs hA hr m i hm hi
  ·cases hd:L.getD i false with
   | true=>rfl
   | false=>
    exfalso
    have hin:i ∈ Region.ready md ops L:=by
     unfold Region.ready
     rw[List.mem_filter,List.mem_range,Bool.and_eq_true]
     refine⟨hi,by rw[getD_false (by omega),hd];rfl,?_⟩
     have ha:=List.all_eq_true.1 hA i (List.mem_range.2 hi)
     obtain⟨o,ho⟩:∃o,ops[i]?=some o:=⟨ops[i],by simp⟩
     rw[ho] at ha ⊢
     have ha2:(o.after.toList.all fun e=>!Region.binds md e || decide (e.on<i))=true:=ha
     show(o.after.all fun e=>!Region.binds md e || L.getD e.on false)=true
     refine Array.all_eq_true'.2 fun e he=>?_
     have hlt:=List.all_eq_true.1 ha2 e (Array.mem_toList_iff.2 he)
     rw[Bool.or_eq_true,decide_eq_true_eq] at hlt
     rcases hlt with hlt|hlt
     ·rw[hlt,Bool.true_or]
     ·rw[all_doneM hs hA hr m e.on (by omega) (by omega),Bool.or_true]
    rw[hr] at hin
    cases hin
def depOn (md:Region.Mode)(ops:Array Oper)(k j:Nat):Bool:=((ops[k]?).map fun o=>o.after.toList.any fun e=>e.on==j && Region.binds md e).getD false
def ClosedL (md:Region.Mode)(ops:Array Oper)(L:Array Bool):Prop:=∀k j,L.getD k false=true→depOn md ops k j=true→L.getD j false=true
theorem ready_dep2 {L:Array Bool} {i:Nat} (h:i ∈ Region.ready md ops L)(j:Nat)(hd:depOn md ops i j=true):L.getD j false=true:=by
 have hi:=(mem_ready h).1
 have ho:ops[i]?=some ops[i]:=by simp
 unfold depOn at hd
 rw[ho] at hd
 exact ready_dep h ho j hd
theorem ClosedL.set {L:Array Bool} {i:Nat} (hc:ClosedL md ops L)(h:i ∈ Region.ready md ops L):ClosedL md ops (L.setIfInBounds i true):=by
 intro k j hk hd
 by_cases hj:j=i
 ·subst hj
  have:=mem_ready h
  have hi:j<L.size:=by
   by_cases hi:j<L.size
   ·exact hi
   ·have h2:=this.2
    simp[Array.getD,hi] at h2
  simp[Array.getD,hi]
 ·rw[done_set hj]
  by_cases hk2:k=i
  ·subst hk2
   exact ready_dep2 h j hd
  ·rw[done_set hk2] at hk
   exact hc k j hk hd
def closeDown (md:Region.Mode)(ops:Array Oper):Nat→List Nat→List Nat
 | 0,M=>M
 | j+1,M=>closeDown md ops j (if M.any (fun k=>depOn md ops k j) then j::M else M)
theorem closeDown_done {L:Array Bool} {i:Nat} (hc:ClosedL md ops L)(hi:i ∈ Region.ready md ops L):∀(n:Nat)(M:List Nat),(∀k ∈ M,k=i∨L.getD k false=true)→∀k ∈ closeDown md ops n M,k=i∨L.getD k false=true
 | 0,M,h,k,hk=>h k hk
 | j+1,M,h,k,hk=>by
  refine closeDown_done hc hi j _ ?_ k hk
  intro q hq
  split at hq
  ·rename_i ha
   rcases List.mem_cons.1 hq with rfl|hq
   ·right
    obtain⟨p,hp,hd⟩:=List.any_eq_true.1 ha
    rcases h p hp with rfl|hp2
    ·exact ready_dep2 hi _ hd
    ·exact hc _ _ hp2 hd
   ·exact h q hq
  ·exact h q hq
def waitsAll (md:Region.Mode)(ops:Array Oper)(l:Nat):Bool:=(List.range ops.size).all fun i=>decide (i<l) || (List.range l).all fun j=>(closeDown md ops i [i]).contains j
theorem waits_done {L:Array Bool} {i l:Nat} (hw:waitsAll md ops l=true)(hc:ClosedL md ops L)(hi:i ∈ Region.ready md ops L)(hl:l≤i)(j:Nat)(hj:j<l):L.getD j false=true:=by
 have h1:=List.all_eq_true.1 hw i (List.mem_range.2 (mem_ready hi).1)
 rw[Bool.or_eq_true,decide_eq_true_eq] at h1
 rcases h1 with h1|h1
 ·omega
 ·have h2:=List.all_eq_true.1 h1 j (List.mem_range.2 hj)
  have h3:=closeDown_done hc hi i [i] (fun k hk=>.inl (by simpa using hk)) j (by simpa using h2)
  rcases h3 with h3|h3
  ·omega
  ·exact h3
theorem left_pos {L:Array Bool} {j:Nat} (hj:j<L.size)(h:L.getD j false=false):0<left L:=by
 unfold left
 rw[List.count_pos_iff]
 have:L[j]=false:=by simpa [Array.getD,hj] using h
 rw[← this]
 simp
theorem fin_eq {L Lf:Array Bool} {l:Nat} (hs:L.size=Lf.size)(hf:∀j,j<Lf.size→Lf.getD j false=decide (j<l))(h1:∀j,j<l→L.getD j false=true)(h2:∀j,l≤j→L.getD j false=false):L=Lf:=by
 refine Array.ext hs fun j hj hj2=>?_
 have e1:L.getD j false=L[j]:=by simp[Array.getD,hj]
 have e2:Lf.getD j false=Lf[j]:=by simp[Array.getD,hj2]
 rw[← e1,← e2,hf j hj2]
 by_cases h:j<l
 ·rw[h1 j h,decide_eq_true h]
 ·rw[h2 j (by omega),decide_eq_false h]
theorem wpAny_phase (l m:Nat)(Lf:Array Bool)(dst:Nat→Nat)(A:(Nat→Value)→Act)(F:Nat→Value→World→Prop)(G:Nat→World→Prop)(R:World→World→Prop)
  (hm:ops.size=l+m) (hLs:Lf.size=ops.size) (hLf:∀j,j<Lf.size→Lf.getD j false=decide (j<l)) (hln:left Lf=m)
  (hlow:afterLowM md ops=true) (hwait:waitsAll md ops l=true) (hdst:∀i j,i<l→j<l→j≠i→dst j≠dst i) (hF:∀j v w w',F j v w→R w w'→F j v w')
  (hend:∀x w,G l w→(∀i,i<l→F i (x (dst i)) w)→wpAny P md ops Q m Lf (A x) w)
  (hstep:∀k x L w i,i<l→k<l→G k w→i ∈ Region.ready md ops L→(∀j,j<l→L.getD j false=true→F j (x (dst j)) w)→wpOp P ops Q i (fun a' w'=>∃ v,a'=A (put x (dst i) v)∧F i v w'∧R w w'∧G (k+1) w') (A x) w) :
  ∀(n:Nat) (L:Array Bool) (k:Nat) (x:Nat→Value) (w:World),L.size=ops.size→left L=n→k+n=ops.size→(∀j,l≤j→L.getD j false=false)→ClosedL md ops L→G k w→(∀j,j<l→L.getD j false=true→F j (x (dst j)) w)→wpAny P md ops Q n L (A x) w:=by
 intro n
 induction n with
 | zero=>
  intro L k x w hs hl hk hno hc hG hx
  have hall:∀j,j<l→L.getD j false=true:=by
   intro j hj
   cases h:L.getD j false with
   | true=>rfl
   | false=>
    have:=left_pos (by omega) h
    omega
  have e:=fin_eq (by omega) hLf hall hno
  have hm0:m=0:=by rw[← hln,← e];exact hl
  have hkl:k=l:=by omega
  subst hkl
  rw[e]
  have:=hend x w hG (fun i hi=>hx i hi (hall i hi))
  rw[hm0] at this
  exact this
 | succ n ih=>
  intro L k x w hs hl hk hno hc hG hx
  by_cases hall:∀j,j<l→L.getD j false=true
  ·have e:=fin_eq (by omega) hLf hall hno
   have hm0:m=n+1:=by rw[← hln,← e];exact hl
   have hkl:k=l:=by omega
   subst hkl
   rw[e]
   have:=hend x w hG (fun i hi=>hx i hi (hall i hi))
   rw[hm0] at this
   exact this
  ·refine⟨fun hr=>?_,fun i hi=>?_⟩
   ·exact absurd (fun j hj=>all_doneM hs hlow hr _ j (Nat.lt_succ_self j) (by omega)) hall
   ·have hil:i<l:=by
     rcases Nat.lt_or_ge i l with h|h
     ·exact h
     ·exact absurd (fun j hj=>waits_done hwait hc hi h j hj) hall
    have hr:=mem_ready hi
    have hkl:k<l:=by
     rcases Nat.lt_or_ge k l with h|h
     ·exact h
     ·exfalso
      have hn:n+1≤m:=by omega
      refine hall fun j hj=>?_
      cases hd:L.getD j false with
      | true=>rfl
      | false=>
       exfalso
       have h1:left (L.setIfInBounds j true)=n:=left_set (by rw[getD_false (by omega)];exact hd) hl
       have h2:m≤left (L.setIfInBounds j true):=by
        rw[← hln]
        unfold left
        have key:∀(a b:List Bool),a.length=b.length→(∀i:Nat,a[i]?=some false→b[i]?=some false)→a.count false≤b.count false:=by
         intro a
         induction a with
         | nil=>intro b _ _;simp
         | cons p t iht=>
          intro b hlen hab
          cases b with
          | nil=>simp at hlen
          | cons q s=>
           have h3:=iht s (by simpa using hlen) (fun i hi=>by have:=hab (i+1);simpa using this (by simpa using hi))
           have h4:=hab 0
           cases p<;>cases q<;>simp at h4 ⊢<;>omega
        refine key _ _ (by simp;omega) fun i hi=>?_
        have hil:i<Lf.size:=by
         have:=(List.getElem?_eq_some_iff.1 hi).1
         simpa using this
        have e2:Lf.getD i false=false:=by
         have:=(List.getElem?_eq_some_iff.1 hi).2
         simpa [Array.getD,hil] using this
        rw[hLf i hil,decide_eq_false_iff_not] at e2
        have e3:=hno i (by omega)
        have hij:i≠j:=by omega
        rw[← done_set (i:=j) hij] at e3
        have hil2:i<(L.setIfInBounds j true).size:=by simp;omega
        generalize L.setIfInBounds j true=M at *
        have e4:M[i]=false:=by simpa [Array.getD,hil2] using e3
        rw[List.getElem?_eq_getElem (by simpa using hil2),Array.getElem_toList,e4]
       omega
    refine wpOp_mono ?_ (hstep k x L w i hil hkl hG hi hx)
    rintro a' w' ⟨v,rfl,hv,hw,hG'⟩
    refine ih _ (k+1) (put x (dst i) v) w' (by simpa using hs) (left_set hr.2 hl) (by omega) ?_ (hc.set hi) hG' ?_
    ·intro j hj
     rw[done_set (by omega)]
     exact hno j hj
    ·intro j hj hd
     by_cases hji:j=i
     ·subst hji
      unfold put
      rw[if_pos rfl]
      exact hv
     ·rw[done_set hji] at hd
      unfold put
      rw[if_neg (hdst i j hil hj hji)]
      exact hF j _ _ _ (hx j hj hd) hw
end
end Go.Proofs.YtibbpmhbgbafhaaGreatDoor
namespace Go.Proofs.YtibbpmhbgbafhaaGreatDoor
open Go.RowKit Go.Lib
def tabM (M B n:Nat)(v:Value)(w:World):Prop:=∃b,v=.slice (some ⟨b,0,none⟩) n n∧B≤b∧∀k,k<n→∃t:ByteArray,w.cell? ⟨b,k,none⟩=some (.string t)∧t.size≤M
def ptrM (M B:Nat)(v:Value)(w:World):Prop:=∃(b k:Nat)(t:ByteArray),v=.pointer (some ⟨b,k,none⟩)∧B≤b∧w.cell? ⟨b,k,none⟩=some (.string t)∧t.size≤M
def txtM (M:Nat)(v:Value):Prop:=∃t:ByteArray,v=.string t∧t.size≤M
def numM (lo hi:Nat)(v:Value):Prop:=∃k:Nat,v=.int .i64 k∧lo≤k∧k<hi
theorem tabM.gr {M B n g:Nat} {v:Value} {w w':World} (h:tabM M B n v w)(hg:w.grownBy w' (some g))(hB:g<B):tabM M B n v w':=by
 obtain⟨b,rfl,hb,hc⟩:=h
 refine⟨b,rfl,hb,fun k hk=>?_⟩
 obtain⟨t,h1,h2⟩:=hc k hk
 exact⟨t,gr_cell hg (show b≠g by omega) h1,h2⟩
theorem ptrM.gr {M B g:Nat} {v:Value} {w w':World} (h:ptrM M B v w)(hg:w.grownBy w' (some g))(hB:g<B):ptrM M B v w':=by
 obtain⟨b,k,t,rfl,hb,h1,h2⟩:=h
 exact⟨b,k,t,rfl,hb,gr_cell hg (show b≠g by omega) h1,h2⟩
theorem tabM_get {M:Nat} {w:World} {cs:Array Value} {k:Nat} (hk:k<cs.size)(hcs:cs.toList.all (strOk M)=true):∃t:ByteArray,(w.alloc (.cells cs 9)).cell? ⟨w.heap.size,k,none⟩=some (.string t)∧t.size≤M:=by
 have hm:strOk M cs[k]=true:=List.all_eq_true.1 hcs _ (Array.mem_toList_iff.2 (Array.getElem_mem hk))
 have hc:(w.alloc (.cells cs 9)).cell? ⟨w.heap.size,k,none⟩=some cs[k]:=by simp[hk]
 cases hx:cs[k] with
 | string t=>
  rw[hx] at hc hm
  exact⟨t,hc,by simpa [strOk] using hm⟩
 | _=>rw[hx] at hm;cases hm
def GoneBy (W:World)(g:Nat)(o:Option Addr)(cl cp a0 z:Nat)(k:Nat)(w:World):Prop:=W.grownBy w (some g)∧∃a',a'≤a0+k∧Src w g o cl cp a' z
theorem GoneBy.still {W:World} {g cl cp a0 z k:Nat} {o:Option Addr} {w w':World} (h:GoneBy W g o cl cp a0 z k w)(hb:Below w.heap.size w w'):GoneBy W g o cl cp a0 z (k+1) w':=by
 obtain⟨h1,a',h2,h3⟩:=h
 exact⟨gr_trans h1 (gr_below hb),a',by omega,h3.below hb⟩
end Go.Proofs.YtibbpmhbgbafhaaGreatDoor
namespace Go.Proofs.YtibbpmhbgbafhaaGreatDoor
open Go.RowKit Go.Lib Go.Maps
theorem Tryz.info2:(Tryz.prog.info? 2).map (fun i=>(i.zero,i.size,i.bytes))=some (some (.int .i64 0),1,8):=by kernel_rfl
def Same (lo hi:Nat)(w w':World):Prop:=∀k,lo≤k→k<hi→w'.heap[k]?=w.heap[k]?
theorem Same.of_below {lo hi B:Nat} {w w':World} (h:Below B w w')(hB:hi≤B):Same lo hi w w':=fun k _ h2=>h.block k (Nat.lt_of_lt_of_le h2 hB)
theorem Same.gr {lo hi g:Nat} {w w':World} (h:w.grownBy w' (some g))(hg:g<lo)(hh:hi≤w.heap.size):Same lo hi w w':=fun k h1 h2=>h.block k (Nat.lt_of_lt_of_le h2 hh) (by intro e;cases e;omega)
theorem two_blocks {w V:World} {o1 o2:Obj} (hV:V=(w.alloc o1).alloc o2):Below w.heap.size w V∧w.heap.size+2≤V.heap.size∧V.heap[w.heap.size]?=some o1∧V.heap[w.heap.size+1]?=some o2:=by
 subst hV
 refine⟨((Below.refl _ _).alloc (Nat.le_refl _) _).alloc (by simp) _,by simp,?_,?_⟩
 ·rw[heap_alloc_old _ _ _ (by simp)]
  exact heap_alloc_at _ _
 ·have:=heap_alloc_at (w.alloc o1) o2
  rw[World.size_alloc] at this
  exact this
def TxL (lo hi:Nat)(w:World)(o:Option Addr)(F:List ByteArray):Prop:=∀i (h:i<F.length),∃ a,o=some a∧lo≤a.block∧a.block<hi∧w.cell? (a.add i)=some (.string F[i])
def InL (lo hi:Nat)(w:World)(o:Option Addr)(F:List Int):Prop:=∀i (h:i<F.length),∃ a,o=some a∧lo≤a.block∧a.block<hi∧w.cell? (a.add i)=some (.int .i64 F[i])
theorem TxL.tx {lo hi:Nat} {w:World} {o:Option Addr} {F:List ByteArray} (h:TxL lo hi w o F):Tx hi w o F:=fun i hi=>let ⟨a,ho,_,h2,h3⟩:=h i hi;⟨a,ho,h2,h3⟩
def numCells (P:List Int):List Value:=P.map (.int .i64)
def OwnN (B:Nat)(v:Value)(P:List Int)(w:World):Prop:=w.ownsRow B 2 1 v P.length (numCells P)
theorem OwnN.shape {B:Nat} {v:Value} {P:List Int} {w:World} (h:OwnN B v P w):∃o cap,v=.slice o P.length cap:=by
 rcases h.2 with ⟨rfl,h0⟩|⟨g,cap,cur,rfl,-⟩
 ·exact⟨none,0,by rw[h0]⟩
 ·exact⟨_,cap,rfl⟩
theorem OwnN.inL {B:Nat} {o:Option Addr} {cap:Nat} {P:List Int} {w:World} (h:OwnN B (.slice o P.length cap) P w):InL B w.heap.size w o P:=by
 intro i hi
 have hl:=World.ownsRow.lt h
 rcases h.2 with ⟨h1,h0⟩|⟨g,cap',cur,h1,hB,-⟩
 ·omega
 ·simp only[Value.slice.injEq] at h1
  obtain⟨rfl,-⟩:=h1
  exact⟨_,rfl,hB,(hl g rfl).2,World.ownsRow.cells h (g:=g) rfl i _ (by simp[numCells,hi])⟩
theorem OwnN.below {B:Nat} {v:Value} {P:List Int} {w w':World} (h:OwnN B v P w)(hb:Below w.heap.size w w'):OwnN B v P w':=World.ownsRow.kept h (row:=none) ⟨hb.os,hb.tape,hb.output,hb.size,fun k hk _=>hb.block k hk⟩ (by
 cases hv:v.ownBlock with
 | none=>exact .inl rfl
 | some k=>exact .inr (by simp))
theorem wp_appN {w:World} {ops:Array Oper} {rest:List Oper} {o:Oper} {a:Act} {Q:Exit→Act→World→Prop} (hgd:o.guard=none)(s x:Operand)
  (ho:o.op=.call { callee:=.builtin .append,args:=#[s,x],argTypes:=#[106,106] })
  (B:Nat) (v:Value) (C:List Int) (hs:a.eval s=v) (hown:OwnN B v C w) (u:Int)
  (c:Nat) (hx:a.eval x=.slice (some ⟨w.heap.size,0,none⟩) 1 c) (hlen:C.length≤1000000) (hB:B≤w.heap.size)
  (h:∀v' w',OwnN B v' (C ++ [u]) w'→(w.alloc (.cells #[.int .i64 u] 2)).grownBy w' v.ownBlock→wpList Tryz.prog ops Q rest (a.put o.dst v') w'):wpList Tryz.prog ops Q (o::rest) a (w.alloc (.cells #[.int .i64 u] 2)):=by
 obtain⟨i0,hi0,hz0,hz1,hz2⟩:=info_parts Tryz.info2
 unfold OwnN at hown
 refine wpList_append_own _ hgd s x 106 ho B 2 i0 (.int .i64 0) 1 8 Tryz.underlying106 hi0 hz0 hz1 hz2 rfl (by decide) v C.length (numCells C) hs (World.ownsRow.alloc hown _) ⟨w.heap.size,0,none⟩ 1 c [.int .i64 u] hx
  rfl ?_ ?_ (by unfold maxLen;omega) (by omega) (by simp;omega) ?_
 ·intro j y hj
  rw[add_off]
  match j,hj with
  | 0,hj=>simp at hj;subst hj;simp
 ·intro y hy
  simp at hy
  subst hy
  rfl
 ·intro v' w' h1 h2 _
  refine h v' w' ?_ h2
  unfold OwnN numCells
  rw[List.map_append,List.length_append]
  exact h1
def strCellsX (P:List ByteArray):List Value:=P.map .string
def OwnX (B:Nat)(v:Value)(P:List ByteArray)(w:World):Prop:=w.ownsRow B 9 1 v P.length (strCellsX P)
theorem OwnX.shape {B:Nat} {v:Value} {P:List ByteArray} {w:World} (h:OwnX B v P w):∃o cap,v=.slice o P.length cap:=by
 rcases h.2 with ⟨rfl,h0⟩|⟨g,cap,cur,rfl,-⟩
 ·exact⟨none,0,by rw[h0]⟩
 ·exact⟨_,cap,rfl⟩
theorem OwnX.txL {B:Nat} {o:Option Addr} {cap:Nat} {P:List ByteArray} {w:World} (h:OwnX B (.slice o P.length cap) P w):TxL B w.heap.size w o P:=by
 intro i hi
 have hl:=World.ownsRow.lt h
 rcases h.2 with ⟨h1,h0⟩|⟨g,cap',cur,h1,hB,-⟩
 ·omega
 ·simp only[Value.slice.injEq] at h1
  obtain⟨rfl,-⟩:=h1
  exact⟨_,rfl,hB,(hl g rfl).2,World.ownsRow.cells h (g:=g) rfl i _ (by simp[strCellsX,hi])⟩
theorem OwnX.below {B:Nat} {v:Value} {P:List ByteArray} {w w':World} (h:OwnX B v P w)(hb:Below w.heap.size w w'):OwnX B v P w':=World.ownsRow.kept h (row:=none) ⟨hb.os,hb.tape,hb.output,hb.size,fun k hk _=>hb.block k hk⟩ (by
 cases hv:v.ownBlock with
 | none=>exact .inl rfl
 | some k=>exact .inr (by simp))
theorem Tryz.info9X:(Tryz.prog.info? 9).map (fun i=>(i.zero,i.size,i.bytes))=some (some (.string ⟨#[]⟩),1,16):=by kernel_rfl
theorem wp_appX {w:World} {ops:Array Oper} {rest:List Oper} {o:Oper} {a:Act} {Q:Exit→Act→World→Prop} (hgd:o.guard=none)(s x:Operand)
  (ho:o.op=.call { callee:=.builtin .append,args:=#[s,x],argTypes:=#[25,25] })
  (B:Nat) (v:Value) (C:List ByteArray) (hs:a.eval s=v) (hown:OwnX B v C w) (u:ByteArray)
  (c:Nat) (hx:a.eval x=.slice (some ⟨w.heap.size,0,none⟩) 1 c) (hlen:C.length≤1000000) (hB:B≤w.heap.size)
  (h:∀v' w',OwnX B v' (C ++ [u]) w'→(w.alloc (.cells #[.string u] 9)).grownBy w' v.ownBlock→wpList Tryz.prog ops Q rest (a.put o.dst v') w'):wpList Tryz.prog ops Q (o::rest) a (w.alloc (.cells #[.string u] 9)):=by
 obtain⟨i0,hi0,hz0,hz1,hz2⟩:=info_parts Tryz.info9X
 unfold OwnX at hown
 refine wpList_append_own _ hgd s x 25 ho B 9 i0 (.string ⟨#[]⟩) 1 16 Tryz.underlying25 hi0 hz0 hz1 hz2 rfl (by decide) v C.length (strCellsX C) hs (World.ownsRow.alloc hown _) ⟨w.heap.size,0,none⟩ 1 c [.string u] hx
  rfl ?_ ?_ (by unfold maxLen;omega) (by omega) (by simp;omega) ?_
 ·intro j y hj
  rw[add_off]
  match j,hj with
  | 0,hj=>simp at hj;subst hj;simp
 ·intro y hy
  simp at hy
  subst hy
  rfl
 ·intro v' w' h1 h2 _
  refine h v' w' ?_ h2
  unfold OwnX strCellsX
  rw[List.map_append,List.length_append]
  exact h1
theorem OwnX.made (B:Nat)(w:World)(hB:B≤w.heap.size):OwnX B (.slice (some ⟨w.heap.size,0,none⟩) 0 0) [] (w.alloc (.cells #[] 9)):=
 ⟨rfl,.inr ⟨w.heap.size,0,#[],rfl,hB,heap_alloc_at _ _,Nat.le_refl _,Nat.zero_le _,rfl,rfl⟩⟩
theorem own_apartA {w:World} {B B' s s' n n':Nat} {e e':TypeId} {v v':Value} {xs xs':List Value} (h:w.ownsRow B e s v n xs)(h':w.ownsRow B' e' s' v' n' xs')(he:e≠e'):v.ownBlock=none∨v.ownBlock≠v'.ownBlock:=by
 rcases h.2 with ⟨rfl,-⟩|⟨g,cap,cur,rfl,-,hg,-⟩
 ·exact .inl rfl
 ·right
  rcases h'.2 with ⟨rfl,-⟩|⟨g',cap',cur',rfl,-,hg',-⟩
  ·simp[Value.ownBlock]
  ·intro e1
   simp only[Value.ownBlock,Option.some.injEq] at e1
   rw[e1,hg'] at hg
   simp only[Option.some.injEq,Obj.cells.injEq] at hg
   exact he hg.2.1.symm
theorem row_stay {B s n:Nat} {e:TypeId} {v:Value} {xs:List Value} {w w':World} (h:w.ownsRow B e s v n xs)(hk:∀k,v.ownBlock=some k→w'.heap[k]?=w.heap[k]?):w'.ownsRow B e s v n xs:=by
 obtain⟨h1,h2⟩:=h
 refine⟨h1,?_⟩
 rcases h2 with h2|⟨k,cap,cur,rfl,e2,e3,e4⟩
 ·exact .inl h2
 ·exact .inr ⟨k,cap,cur,rfl,e2,(hk k rfl).trans e3,e4⟩
theorem row_same {B s n:Nat} {e:TypeId} {v:Value} {xs:List Value} {w w':World} (h:w.ownsRow B e s v n xs)(hs:Same B w.heap.size w w'):w'.ownsRow B e s v n xs:=
 row_stay h fun k hk=>hs k (World.ownsRow.lt h k hk).1 (World.ownsRow.lt h k hk).2
theorem gr_row {w0 w w':World} {g:Nat} {v:Value} (h:w0.grownBy w (some g))(hg:w.grownBy w' v.ownBlock)(hv:∀k,v.ownBlock=some k→w0.heap.size≤k):w0.grownBy w' (some g):=
 ⟨hg.os.trans h.os,hg.tape.trans h.tape,hg.output.trans h.output,Nat.le_trans h.size hg.size,fun i hi hr=>(hg.block i (Nat.lt_of_lt_of_le hi h.size) (fun e=>by have:=hv i e.symm;omega)).trans (h.block i hi hr)⟩
theorem Src.row {w w':World} {g n cp a z:Nat} {o:Option Addr} {v:Value} (h:Src w g o n cp a z)(hg:w.grownBy w' v.ownBlock)(hv:∀k,v.ownBlock=some k→k≠g):Src w' g o n cp a z:=
 ⟨by rw[hg.block g h.lt (fun e=>hv g e.symm rfl)];exact h.blk⟩
theorem gr_setC {w0 w:World} {g b j:Nat} {v:Value} (h:w0.grownBy w (some g))(hb:w0.heap.size≤b):w0.grownBy (w.setCell ⟨b,j,none⟩ v) (some g):=
 ⟨h.os,h.tape,h.output,by simpa [World.setCell] using h.size,fun i hi hr=>by rw[← h.block i hi hr];simp[World.setCell,Array.getElem?_modify,show b≠i by omega]⟩
theorem Src.setC {w:World} {g n cp a z b j:Nat} {o:Option Addr} {v:Value} (h:Src w g o n cp a z)(hb:b≠g):Src (w.setCell ⟨b,j,none⟩ v) g o n cp a z:=
 ⟨by simp[World.setCell,Array.getElem?_modify,h.blk,hb]⟩
theorem OwnN.grG {B g:Nat} {v:Value} {P:List Int} {w w':World} (h:OwnN B v P w)(hg:w.grownBy w' (some g))(hB:g<B):OwnN B v P w':=row_same h (Same.gr hg hB (Nat.le_refl _))
theorem OwnN.made (B:Nat)(w:World)(hB:B≤w.heap.size):OwnN B (.slice (some ⟨w.heap.size,0,none⟩) 0 0) [] (w.alloc (.cells #[] 2)):=
 ⟨rfl,.inr ⟨w.heap.size,0,#[],rfl,hB,hp_alloc _ _,Nat.le_refl _,Nat.zero_le _,rfl,rfl⟩⟩
set_option maxHeartbeats 4000000 in
theorem srcDomain (g:Nat)(o:Option Addr)(c:List UInt8)(cp a z:Nat)(w:World)(h:Src w g o c.length cp a z)(hc:Code g w o c)(ha:a≤900000000000)(hl:c.length≤1048576) :
  Calls Tryz.prog 150 #[.pointer (some ⟨g,0,none⟩)] w fun e w'=>∃ (t:ByteArray) (a':Nat),e=.returned (.string t)∧t.size≤14∧a'≤a+2∧Src w' g o c.length cp a' z∧w.grownBy w' (some g):=by
 have HC:Hid (Code g w o c):=hc
 have hgl:=h.lt
 have Hs:=mkHid h
 have Hg:Hid (w.grownBy w (some g)):=gr_refl _ _
 clear h hc
 go_enter Tryz.func150,Tryz.ntmps150
 have hN7:=srcOne g o c cp a z 9 w Hs.out (HC.out.grown Hg.out (Nat.le_refl _)) (by omega) hl (by omega) (by omega)
 go_wp2_with fail
 refine hN7.mono ?_
 rintro e w2 ⟨b1,rfl,hs5,hg6⟩
 have Hs3:=mkHid hs5
 have Hg4:=mkHid (gr_trans Hg.out hg6)
 clear hN7 hs5 hg6 Hs Hg
 cases b1 with
 | true=>
  have hb14:∀cs,Below w2.heap.size w2 (w2.alloc (.cells cs 9)):=fun cs=>(Below.refl _ _).alloc (Nat.le_refl _) _
  have hN13:=fun cs=>srcN g o c cp (a+1) z 6 (w2.alloc (.cells cs 9)) (Hs3.out.below (hb14 cs)) (HC.out.grown (gr_trans Hg4.out (gr_below (hb14 cs))) (Nat.le_refl _)) (by omega) hl (by omega) (by omega)
  have hl17:g<w2.heap.size:=Hs3.out.lt
  go_wp2_with fail
  refine(hN13 _).mono ?_
  rintro e w8 ⟨v11,rfl,hv11,hs15,hg16⟩
  obtain⟨t12,hct12,hzt12⟩:=table_at (M:=11) hg16 hl17 (show v11<6 by omega) (by decide)
  have hlv11:v11<6:=by omega
  have hgg18:=gr_trans (gr_below (hb14 _)) hg16
  have Hs9:=mkHid hs15
  have Hg10:=mkHid (gr_trans Hg4.out hgg18)
  clear hN13 hs15 hg16 hb14 hl17 hgg18 Hs3 Hg4
  go_wp2
  go_ret
  exact⟨_,_,rfl,by omega,by omega,Hs9.out,Hg10.out⟩
 | false=>
  have hb14:∀cs,Below w2.heap.size w2 (w2.alloc (.cells cs 9)):=fun cs=>(Below.refl _ _).alloc (Nat.le_refl _) _
  have hN13:=fun cs=>srcN g o c cp (a+1) z 4 (w2.alloc (.cells cs 9)) (Hs3.out.below (hb14 cs)) (HC.out.grown (gr_trans Hg4.out (gr_below (hb14 cs))) (Nat.le_refl _)) (by omega) hl (by omega) (by omega)
  have hl17:g<w2.heap.size:=Hs3.out.lt
  go_wp2_with fail
  refine(hN13 _).mono ?_
  rintro e w8 ⟨v11,rfl,hv11,hs15,hg16⟩
  obtain⟨t12,hct12,hzt12⟩:=table_at (M:=14) hg16 hl17 (show v11<4 by omega) (by decide)
  have hlv11:v11<4:=by omega
  have hgg18:=gr_trans (gr_below (hb14 _)) hg16
  have Hs9:=mkHid hs15
  have Hg10:=mkHid (gr_trans Hg4.out hgg18)
  clear hN13 hs15 hg16 hb14 hl17 hgg18 Hs3 Hg4
  go_wp2
  go_ret
  exact⟨_,_,rfl,by omega,by omega,Hs9.out,Hg10.out⟩
end Go.Proofs.YtibbpmhbgbafhaaGreatDoor
