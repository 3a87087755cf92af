import Derived.Test.YtibbpmhbgbafhaaGreatDoorDrawOpA
set_option maxRecDepth 20000
namespace Go.Proofs.YtibbpmhbgbafhaaGreatDoor
open Go.RowKit
section
variable {P:Program} {ops:Array Oper} {Q:Exit→Act→World→Prop} {md:Region.Mode}
def waitsAllD (md:Region.Mode)(ops:Array Oper)(l d0:Nat):Bool:=(List.range ops.size).all fun i=>decide (i<l) || (List.range l).all fun j=>j==d0 || (closeDown md ops i [i]).contains j
theorem waits_doneD {L:Array Bool} {i l d0:Nat} (hw:waitsAllD md ops l d0=true)(hc:ClosedL md ops L)(hi:i ∈ Region.ready md ops L)(hl:l≤i)(j:Nat)(hj:j<l)(hjd:j≠d0):L.getD j false=true:=by
 have h1:=List.all_eq_true.1 hw i (List.mem_range.2 (mem_ready hi).1)
 rw[Bool.or_eq_true,decide_eq_true_eq] at h1
 rcases h1 with h1|h1
 ·omega
 ·have h2:=List.all_eq_true.1 h1 j (List.mem_range.2 hj)
  rw[Bool.or_eq_true,beq_iff_eq] at h2
  rcases h2 with h2|h2
  ·exact absurd h2 hjd
  ·have h3:=closeDown_done hc hi i [i] (fun k hk=>.inl (by simpa using hk)) j (by simpa using h2)
   rcases h3 with h3|h3
   ·omega
   ·exact h3
theorem set_keeps {L:Array Bool} {i d0:Nat} (h:i ∈ Region.ready md ops L)(hd:L.getD d0 false=true):(L.setIfInBounds i true).getD d0 false=true:=by
 by_cases h9:d0=i
 ·subst h9
  have h8:=(mem_ready h).2
  have hi:d0<L.size:=by
   by_cases hi:d0<L.size
   ·exact hi
   ·simp[Array.getD,hi] at hd
  simp[Array.getD,hi]
 ·rw[done_set h9]
  exact hd
theorem wpAny_phaseD (d0 l m:Nat)(Lf:Array Bool)(dst:Nat→Nat)(A:(Nat→Value)→Act)(F:Nat→Value→World→Prop)(G:Nat→World→Prop)(R:World→World→Prop)
  (hm:ops.size=l+m) (hLs:Lf.size=ops.size) (hLf:∀j,j<Lf.size→Lf.getD j false=decide (j<l)) (hln:left Lf=m)
  (hlow:afterLowM md ops=true) (hwait:waitsAllD md ops l d0=true) (hdst:∀i j,i<l→j<l→j≠i→dst j≠dst i) (hF:∀j v w w',F j v w→R w w'→F j v w')
  (hend:∀x w,G l w→(∀i,i<l→F i (x (dst i)) w)→wpAny P md ops Q m Lf (A x) w)
  (hstep:∀k x L w i,i<l→k<l→G k w→i ∈ Region.ready md ops L→(∀j,j<l→L.getD j false=true→F j (x (dst j)) w)→wpOp P ops Q i (fun a' w'=>∃ v,a'=A (put x (dst i) v)∧F i v w'∧R w w'∧G (k+1) w') (A x) w) :
  ∀(n:Nat) (L:Array Bool) (k:Nat) (x:Nat→Value) (w:World),L.size=ops.size→left L=n→k+n=ops.size→(∀j,l≤j→L.getD j false=false)→ClosedL md ops L→L.getD d0 false=true→G k w→(∀j,j<l→L.getD j false=true→F j (x (dst j)) w)→wpAny P md ops Q n L (A x) w:=by
 intro n
 induction n with
 | zero=>
  intro L k x w hs hl hk hno hc hd0 hG hx
  have hall:∀j,j<l→L.getD j false=true:=by
   intro j hj
   cases h:L.getD j false with
   | true=>rfl
   | false=>
    have:=left_pos (by omega) h
    omega
  have e:=fin_eq (by omega) hLf hall hno
  have hm0:m=0:=by rw[← hln,← e];exact hl
  have hkl:k=l:=by omega
  subst hkl
  rw[e]
  have:=hend x w hG (fun i hi=>hx i hi (hall i hi))
  rw[hm0] at this
  exact this
 | succ n ih=>
  intro L k x w hs hl hk hno hc hd0 hG hx
  by_cases hall:∀j,j<l→L.getD j false=true
  ·have e:=fin_eq (by omega) hLf hall hno
   have hm0:m=n+1:=by rw[← hln,← e];exact hl
   have hkl:k=l:=by omega
   subst hkl
   rw[e]
   have:=hend x w hG (fun i hi=>hx i hi (hall i hi))
   rw[hm0] at this
   exact this
  ·refine⟨fun hr=>?_,fun i hi=>?_⟩
   ·exact absurd (fun j hj=>all_doneM hs hlow hr _ j (Nat.lt_succ_self j) (by omega)) hall
   ·have hil:i<l:=by
     rcases Nat.lt_or_ge i l with h|h
     ·exact h
     ·exact absurd (fun j hj=>if hjd:j=d0 then by rw[hjd];exact hd0 else waits_doneD hwait hc hi h j hj hjd) hall
    have hr:=mem_ready hi
    have hkl:k<l:=by
     rcases Nat.lt_or_ge k l with h|h
     ·exact h
     ·exfalso
      have hn:n+1≤m:=by omega
      refine hall fun j hj=>?_
      cases hd:L.getD j false with
      | true=>rfl
      | false=>
       exfalso
       have h1:left (L.setIfInBounds j true)=n:=left_set (by rw[getD_false (by omega)];exact hd) hl
       have h2:m≤left (L.setIfInBounds j true):=by
        rw[← hln]
        unfold left
        have key:∀(a b:List Bool),a.length=b.length→(∀i:Nat,a[i]?=some false→b[i]?=some false)→a.count false≤b.count false:=by
         intro a
         induction a with
         | nil=>intro b _ _;simp
         | cons p t iht=>
          intro b hlen hab
          cases b with
          | nil=>simp at hlen
          | cons q s=>
           have h3:=iht s (by simpa using hlen) (fun i hi=>by have:=hab (i+1);simpa using this (by simpa using hi))
           have h4:=hab 0
           cases p<;>cases q<;>simp at h4 ⊢<;>omega
        refine key _ _ (by simp;omega) fun i hi=>?_
        have hil:i<Lf.size:=by
         have:=(List.getElem?_eq_some_iff.1 hi).1
         simpa using this
        have e2:Lf.getD i false=false:=by
         have:=(List.getElem?_eq_some_iff.1 hi).2
         simpa [Array.getD,hil] using this
        rw[hLf i hil,decide_eq_false_iff_not] at e2
        have e3:=hno i (by omega)
        have hij:i≠j:=by omega
        rw[← done_set (i:=j) hij] at e3
        have hil2:i<(L.setIfInBounds j true).size:=by simp;omega
        generalize L.setIfInBounds j true=M at *
        have e4:M[i]=false:=by simpa [Array.getD,hil2] using e3
        rw[List.getElem?_eq_getElem (by simpa using hil2),Array.getElem_toList,e4]
       omega
    refine wpOp_mono ?_ (hstep k x L w i hil hkl hG hi hx)
    rintro a' w' ⟨v,rfl,hv,hw,hG'⟩
    refine ih _ (k+1) (put x (dst i) v) w' (by simpa using hs) (left_set hr.2 hl) (by omega) ?_ (hc.set hi) (set_keeps hi hd0) hG' ?_
    ·intro j hj
     rw[done_set (by omega)]
     exact hno j hj
    ·intro j hj hd
     by_cases hji:j=i
     ·subst hji
      unfold put
      rw[if_pos rfl]
      exact hv
     ·rw[done_set hji] at hd
      unfold put
      rw[if_neg (hdst i j hil hj hji)]
      exact hF j _ _ _ (hx j hj hd) hw
theorem closed_first {n:Nat} (h:(Region.ready md ops (Array.replicate n false)).contains 0=true):ClosedL md ops ((Array.replicate n false).setIfInBounds 0 true):=by
 refine ClosedL.set (fun k j hk=>?_) (by simpa using h)
 exfalso
 simp[Array.getD] at hk
end
end Go.Proofs.YtibbpmhbgbafhaaGreatDoor
