import Derived.Test.YtibbpmhbgbafhaaGreatDoorReadPlain
import Derived.Test.YtibbpmhbgbafhaaGreatDoorBytes
import Derived.WalkKit
import Derived.Test.YtibbpmhbgbafhaaGreatDoorBlank
import Derived.Laws.MakeOwn
import Derived.Laws.OwnMore
import Derived.Deep.QuietTactic
import Derived.BigQuiet
import Derived.Deep.RegionWith
set_option maxRecDepth 20000
set_option maxHeartbeats 2000000
namespace Go.Proofs.YtibbpmhbgbafhaaGreatDoor
namespace Pl
theorem stop_ge (K:UInt8→Bool)(l:List UInt8)(k:Nat)(h:k≤l.length):k≤stop K l k:=first_ge _ _ _ h
theorem stop_le (K:UInt8→Bool)(l:List UInt8)(k:Nat)(h:k≤l.length):stop K l k≤l.length:=first_le _ _ _ h
theorem stop_all (K:UInt8→Bool)(l:List UInt8)(k:Nat)(h:k≤l.length)(j:Nat)(h1:k≤j)(h2:j<stop K l k):K (b l j)=true:=by
 have:=first_none (fun j=>!K (b l j)) l.length k h j h1 h2
 simpa using this
theorem stop_not (K:UInt8→Bool)(l:List UInt8)(k:Nat)(h:k≤l.length)(h1:stop K l k<l.length):K (b l (stop K l k))=false:=by
 have:=first_is (fun j=>!K (b l j)) l.length k h h1
 change (!K (b l (stop K l k)))=true at this
 simpa using this
theorem stop_eq (K:UInt8→Bool)(l:List UInt8)(k m:Nat)(hk:k≤m)(hm:m≤l.length)(h1:∀j,k≤j→j<m→K (b l j)=true)(h2:m<l.length→K (b l m)=false):stop K l k=m:=
 first_eq _ _ _ _ hk hm (fun j a c=>by rw[h1 j a c];rfl) (fun h=>by rw[h2 h];rfl)
theorem crlf_b (l:List UInt8)(j:Nat)(h:crlf l j=true):b l j=13∧b l (j+1)=10∧j+1<l.length:=by
 obtain⟨h0,h1,h2⟩:=(crlf_iff l j).1 h
 exact⟨by rw[b_lt l j (by omega)];exact h1,by rw[b_lt l (j+1) h0];exact h2,h0⟩
theorem fold_crlf (l:List UInt8)(j:Nat)(h:fold l j=true):crlf l j=true:=by
 unfold fold at h
 rw[Bool.and_eq_true] at h
 exact h.1
theorem fold_b (l:List UInt8)(j:Nat)(h:fold l j=true):blank (b l (j+2))=true∧j+2<l.length:=by
 obtain⟨h0,-,-,h3⟩:=(fold_iff l j).1 h
 exact⟨by rw[b_lt l (j+2) h0];exact h3,h0⟩
theorem no_crlf (l:List UInt8)(j:Nat)(h:b l j≠13):crlf l j=false:=by
 rw[Bool.eq_false_iff]
 intro e
 exact h (crlf_b l j e).1
theorem lb_13 (c:UInt8)(h:lb c=true):c≠13:=by rintro rfl;cases h
theorem nb_13 (c:UInt8)(h:nb c=true):c≠13:=by rintro rfl;revert h;decide
theorem nb_58 (c:UInt8)(h:nb c=true):c≠58:=by rintro rfl;revert h;decide
theorem blank_13 (c:UInt8)(h:blank c=true):c≠13:=by rintro rfl;revert h;decide
theorem blank_58 (c:UInt8)(h:blank c=true):c≠58:=by rintro rfl;revert h;decide
theorem nb_blank (c:UInt8)(h:nb c=true):blank c=false:=by
 rw[Bool.eq_false_iff]
 intro e
 simp only[blank,Bool.or_eq_true,beq_iff_eq] at e
 rcases e with rfl|rfl<;>revert h<;>decide
theorem first_skip (P:Nat→Bool)(n k m:Nat)(hk:k≤m)(hm:m≤n)(h:∀j,k≤j→j<m→P j=false):first P n k=first P n m:=by
 refine first_eq P n k _ (Nat.le_trans hk (first_ge P n m hm)) (first_le P n m hm) (fun j h1 h2=>?_) (first_is P n m hm)
 by_cases hj:j<m
 ·exact h j h1 hj
 ·exact first_none P n m hm j (by omega) h2
theorem le_fe (l:List UInt8)(k:Nat)(h:k≤l.length):le l k≤fe l k:=by
 by_cases hc:fe l k<le l k
 ·have h1:=first_none (crlf l) l.length k h (fe l k) (first_ge _ _ _ h) hc
  have hlt:fe l k<l.length:=by have:=first_le (crlf l) l.length k h;unfold le at hc;omega
  have h2:=first_is (fun j=>crlf l j && !fold l j) l.length k h hlt
  rw[Bool.and_eq_true] at h2
  change crlf l (fe l k)=true∧_ at h2
  rw[h1] at h2
  cases h2.1
 ·omega
theorem val_run (L:List UInt8):∀(d i k:Nat),i-k=d→k≤i→i≤L.length→(∀j,k≤j→j<i→lb (b L j)=true)→val (L.drop k)=val (L.drop i)
 | 0,i,k,hd,hk,_,_=>by rw[show i=k by omega]
 | d+1,i,k,hd,hk,hi,h=>by
  have hb:=h k (Nat.le_refl _) (by omega)
  have hf:fold L k=false:=by
   rw[Bool.eq_false_iff]
   intro e
   exact lb_13 _ hb (crlf_b L k (fold_crlf L k e)).1
  rw[val_other L k (by omega) hf,← b_lt L k (by omega),hb,Bool.true_and]
  exact val_run L d i (k+1) (by omega) (by omega) hi (fun j h1 h2=>h j (by omega) h2)
theorem b_take (l:List UInt8)(e j:Nat)(h:j<e):b (l.take e) j=b l j:=by
 unfold b
 rw[List.getD_eq_getElem?_getD,List.getD_eq_getElem?_getD,List.getElem?_take_of_lt h]
theorem sl_take (l:List UInt8)(k e:Nat):sl l k e=(l.take e).drop k:=by
 unfold sl
 rw[List.drop_take]
theorem fold_take (l:List UInt8)(e j:Nat)(h:j+2<e):fold (l.take e) j=fold l j:=by
 unfold fold crlf blankAt
 rw[List.drop_take,List.take_take,List.getElem?_take_of_lt h,Nat.min_eq_left (by omega)]
theorem fold_take_of (l:List UInt8)(e j:Nat)(h:fold (l.take e) j=true):fold l j=true:=by
 have:=fold_lt _ _ h
 rw[List.length_take] at this
 rw[← fold_take l e j (by omega)]
 exact h
theorem vend_spec (l:List UInt8)(e B:Nat):∀(f g cur beg:Nat),l.length+1≤f+cur→l.length+1≤g+beg→beg≤cur→cur≤l.length→fe l cur=e→le l beg=le l cur →
  (l.length≤(vend l f cur beg).1→(vend l f cur beg).1=l.length∧e=l.length∧val (sl l cur e)=true) ∧
  ((vend l f cur beg).1<l.length→crlf l (vend l f cur beg).1=true→e=(vend l f cur beg).1∧val (sl l cur e)=true) ∧
  ((vend l f cur beg).1<l.length→crlf l (vend l f cur beg).1=false→val (sl l cur e)=false∧whr l e B g beg cur=(vend l f cur beg).2)
 | 0,_,_,_,hf,_,_,hc,_,_=>by omega
 | _,0,_,_,_,hg,hb,hc,_,_=>by omega
 | f+1,g+1,cur,beg,hf,hg,hb,hc,he,hle=>by
  have hi0:=stop_ge lb l cur hc
  have hi1:=stop_le lb l cur hc
  have hia:=stop_all lb l cur hc
  have hin:=stop_not lb l cur hc
  rw[vend]
  generalize stop lb l cur=i at hi0 hi1 hia hin ⊢
  have hnc:∀j,cur≤j→j<i→crlf l j=false:=fun j h1 h2=>no_crlf l j (lb_13 _ (hia j h1 h2))
  have hnp:∀j,cur≤j→j<i→(crlf l j && !fold l j)=false:=fun j h1 h2=>by rw[hnc j h1 h2];rfl
  have hege:cur≤e:=by rw[← he];exact first_ge _ _ _ hc
  have hele:e≤l.length:=by rw[← he];exact first_le _ _ _ hc
  have hLl:(l.take e).length=e:=by rw[List.length_take];omega
  by_cases hfold:fold l i=true
  ·rw[if_pos hfold]
   obtain⟨hbl,hi2⟩:=fold_b l i hfold
   obtain⟨hb13,hb10,-⟩:=crlf_b l i (fold_crlf l i hfold)
   have hskip:fe l cur=fe l (i+2):=by
    refine first_skip _ _ _ _ (by omega) (by omega) (fun j h1 h2=>?_)
    by_cases hj:j<i
    ·exact hnp j h1 hj
    ·by_cases hj':j=i
     ·rw[hj',hfold,Bool.not_true,Bool.and_false]
     ·rw[show j=i+1 by omega,no_crlf l (i+1) (by rw[hb10];decide)];rfl
   have hei:i+2<e:=by
    have h1:i+2≤e:=by rw[← he,hskip];exact first_ge _ _ _ (by omega)
    by_cases h2:e=i+2
    ·exfalso
     have h3:=first_is (fun j=>crlf l j && !fold l j) l.length cur hc (by show fe l cur<_;omega)
     change (crlf l (fe l cur) && !fold l (fe l cur))=true at h3
     rw[he,h2,Bool.and_eq_true] at h3
     exact blank_13 _ hbl (crlf_b l _ h3.1).1
    ·omega
   have hval:val (sl l cur e)=val (sl l (i+2) e):=by
    rw[sl_take,sl_take,val_run (l.take e) _ i cur rfl (by omega) (by omega) (fun j h1 h2=>by rw[b_take l e j (by omega)];exact hia j h1 h2)]
    exact(val_fold (l.take e) i (by rw[fold_take l e i hei];exact hfold)).symm
   have hlei:le l beg=i:=by
    rw[hle]
    exact first_eq _ _ _ _ hi0 hi1 hnc (fun _=>fold_crlf l i hfold)
   have hw:whr l e B (g+1) beg cur=whr l e B g (i+2) (i+2):=by
    rw[whr,if_pos (by omega),hlei,Nat.min_eq_left (by omega),first_eq (fun j=>!lb (b l j)) i cur i hi0 (Nat.le_refl _) (fun j h1 h2=>by rw[hia j h1 h2];rfl) (fun h=>by omega),if_neg (by omega),nx,if_pos (by omega)]
   rw[hval,hw]
   exact vend_spec l e B f g (i+2) (i+2) (by omega) (by omega) (Nat.le_refl _) (by omega) (hskip.symm.trans he) rfl
  ·rw[if_neg hfold]
   rw[Bool.not_eq_true] at hfold
   refine⟨fun h=>?_,fun h hcr=>?_,fun h hcr=>?_⟩
   ·change l.length≤i at h
    have hin':i=l.length:=by omega
    have hen:e=l.length:=by rw[← he];exact first_eq _ _ _ _ hc (Nat.le_refl _) (fun j h1 h2=>hnp j h1 (by omega)) (fun h=>by omega)
    refine⟨hin',hen,?_⟩
    rw[sl_take,val_run (l.take e) _ e cur rfl (by omega) (by omega) (fun j h1 h2=>by rw[b_take l e j (by omega)];exact hia j h1 (by omega))]
    exact val_done _ _ (by omega)
   ·change i<l.length at h
    change crlf l i=true at hcr
    have hei:e=i:=by rw[← he];exact first_eq _ _ _ _ hi0 hi1 hnp (fun _=>by rw[hcr,hfold];rfl)
    refine⟨hei,?_⟩
    rw[sl_take,val_run (l.take e) _ e cur rfl (by omega) (by omega) (fun j h1 h2=>by rw[b_take l e j (by omega)];exact hia j h1 (by omega))]
    exact val_done _ _ (by omega)
   ·change i<l.length at h
    change crlf l i=false at hcr
    have hlow:i+1≤e:=by
     rw[← he,show fe l cur=fe l (i+1) from first_skip _ _ _ _ (by omega) (by omega) (fun j h1 h2=>by
      by_cases hj:j<i
      ·exact hnp j h1 hj
      ·rw[show j=i by omega,hcr];rfl)]
     exact first_ge _ _ _ (by omega)
    have hlel:i+1≤le l beg:=by
     rw[hle,show le l cur=le l (i+1) from first_skip _ _ _ _ (by omega) (by omega) (fun j h1 h2=>by
      by_cases hj:j<i
      ·exact hnc j h1 hj
      ·rw[show j=i by omega,hcr])]
     exact first_ge _ _ _ (by omega)
    have hlbi:=hin h
    constructor
    ·rw[sl_take,val_run (l.take e) _ i cur rfl hi0 (by omega) (fun j h1 h2=>by rw[b_take l e j (by omega)];exact hia j h1 h2),
      val_other (l.take e) i (by omega) (by
       rw[Bool.eq_false_iff];intro h2
       rw[fold_take_of l e i h2] at hfold;cases hfold),
      ← b_lt (l.take e) i (by omega),b_take l e i (by omega),hlbi,Bool.false_and]
    ·have hm:i<min (le l beg) e:=by omega
     rw[whr,if_pos (by omega),first_eq (fun j=>!lb (b l j)) (min (le l beg) e) cur i hi0 (by omega) (fun j h1 h2=>by rw[hia j h1 h2];rfl) (fun _=>by rw[hlbi];rfl),if_pos hm]
theorem sl_len (l:List UInt8)(i j:Nat)(h:j≤l.length):(sl l i j).length=j-i:=by
 unfold sl;rw[List.length_take,List.length_drop];omega
theorem sl_get (l:List UInt8)(i j m:Nat)(h:j≤l.length)(hm:m<j-i):(sl l i j)[m]?=some (b l (i+m)):=by
 unfold sl b
 rw[List.getElem?_take_of_lt hm,List.getElem?_drop,List.getD_eq_getElem?_getD,List.getElem?_eq_getElem (by omega)]
 rfl
theorem sl_app (l:List UInt8)(i m j:Nat)(h1:i≤m)(h2:m≤j):sl l i j=sl l i m++sl l m j:=by
 unfold sl
 rw[show j-i=(m-i)+(j-m) by omega,List.take_add,List.drop_drop,show i+(m-i)=m by omega]
theorem all_sl (K:UInt8→Bool)(l:List UInt8)(i j:Nat)(h:j≤l.length)(hK:∀m,i≤m→m<j→K (b l m)=true):(sl l i j).all K=true:=by
 rw[List.all_eq_true]
 intro x hx
 obtain⟨m,hm,rfl⟩:=List.getElem_of_mem hx
 have hm':=hm
 rw[sl_len l i j h] at hm'
 have:=sl_get l i j m h hm'
 rw[List.getElem?_eq_getElem hm,Option.some.injEq] at this
 rw[this]
 exact hK _ (by omega) (by omega)
theorem trimR_app (p q:List UInt8)(hq:q.all blank=true)(hl:∀x ∈ p.getLast?,blank x=false):trimR (p++q)=p:=by
 unfold trimR
 rw[List.reverse_append,List.dropWhile_append_of_pos (by intro a ha;exact List.all_eq_true.1 hq a (by simpa using ha))]
 cases hr:p.reverse with
 | nil=>simp at hr;simp[hr]
 | cons x r=>
  have hx:blank x=false:=hl x (by
   have:p=r.reverse ++ [x]:=by rw[← List.reverse_reverse p,hr];simp
   rw[this];simp)
  rw[List.dropWhile_cons_of_neg (by rw[hx];simp),← hr,List.reverse_reverse]
theorem trimR_split (l:List UInt8):∃q,l=trimR l++q∧q.all blank=true:=by
 refine⟨(l.reverse.takeWhile blank).reverse,?_,?_⟩
 ·unfold trimR
  rw[← List.reverse_append,List.takeWhile_append_dropWhile,List.reverse_reverse]
 ·rw[List.all_reverse]
  exact List.all_takeWhile
theorem name_same (l:List UInt8)(k:Nat)(hk:k<l.length)(hg:nameGood l k=true) :
  colon l (fe l k) k=stop blank l (stop nb l k)∧trimR (sl l k (colon l (fe l k) k))=sl l k (stop nb l k)∧colon l (fe l k) k<le l k∧nameOk (sl l k (stop nb l k))=true:=by
 unfold nameGood at hg
 have a0:=stop_ge nb l k (by omega)
 have a1:=stop_le nb l k (by omega)
 have a2:=stop_all nb l k (by omega)
 generalize stop nb l k=n1 at *
 have c0:=stop_ge blank l n1 a1
 have c1:=stop_le blank l n1 a1
 have c2:=stop_all blank l n1 a1
 generalize stop blank l n1=n2 at *
 rw[Bool.and_eq_true,Bool.and_eq_true,decide_eq_true_eq,beq_iff_eq] at hg
 obtain⟨hn,h1,h2⟩:=hg
 have hno:∀j,k≤j→j<n2→b l j≠13∧b l j≠58:=fun j h3 h4=>by
  by_cases hj:j<n1
  ·exact⟨nb_13 _ (a2 j h3 hj),nb_58 _ (a2 j h3 hj)⟩
  ·exact⟨blank_13 _ (c2 j (by omega) h4),blank_58 _ (c2 j (by omega) h4)⟩
 have hle:n2<le l k:=by
  by_cases h:le l k≤n2
  ·exfalso
   have h3:=first_is (crlf l) l.length k (by omega) (by show le l k<_;omega)
   have h4:=(crlf_b l _ h3).1
   by_cases h5:le l k=n2
   ·change b l (le l k)=13 at h4
    rw[h5,h2] at h4
    cases h4
   ·exact(hno (le l k) (first_ge _ _ _ (by omega)) (by omega)).1 h4
  ·omega
 have hfe:=le_fe l k (by omega)
 have hc:colon l (fe l k) k=n2:=first_eq _ _ _ _ (by omega) (by omega) (fun j h3 h4=>by simpa using (hno j h3 h4).2) (fun _=>by simpa using h2)
 rw[hc]
 refine⟨rfl,?_,hle,hn⟩
 rw[sl_app l k n1 n2 a0 c0]
 refine trimR_app _ _ (all_sl blank l n1 n2 c1 c2) ?_
 intro x hx
 have hlen:=sl_len l k n1 a1
 rw[List.getLast?_eq_getElem?,hlen] at hx
 have hpos:k<n1:=by
  by_cases h:k<n1
  ·exact h
  ·rw[show sl l k n1=[] from List.length_eq_zero_iff.1 (by rw[hlen];omega)] at hn
   cases hn
 rw[sl_get l k n1 (n1-k-1) a1 (by omega)] at hx
 simp only[Option.mem_some_iff] at hx
 rw[← hx]
 exact nb_blank _ (a2 _ (by omega) (by omega))
theorem name_back (l:List UInt8)(k:Nat)(hk:k<l.length)(h1:colon l (fe l k) k<le l k)(h2:nameOk (trimR (sl l k (colon l (fe l k) k)))=true):nameGood l k=true:=by
 have hfe:=le_fe l k (by omega)
 have hfl:fe l k≤l.length:=first_le _ _ _ (by omega)
 have hkf:k≤fe l k:=first_ge _ _ _ (by omega)
 have hcg:k≤colon l (fe l k) k:=first_ge _ _ _ hkf
 have hc58:=first_is (fun j=>b l j==58) (fe l k) k hkf (by show colon l (fe l k) k<_;omega)
 change (b l (colon l (fe l k) k)==58)=true at hc58
 rw[beq_iff_eq] at hc58
 generalize colon l (fe l k) k=c at *
 obtain⟨q,hq,hqb⟩:=trimR_split (sl l k c)
 generalize trimR (sl l k c)=p at *
 have hlen:p.length+q.length=c-k:=by
  have:=congrArg List.length hq
  rw[sl_len l k c (by omega),List.length_append] at this
  omega
 have hget:∀m,m<c-k→(p++q)[m]?=some (b l (k+m)):=fun m hm=>by rw[← hq];exact sl_get l k c m (by omega) hm
 have hpall:p.all nb=true:=by
  unfold nameOk at h2
  rw[Bool.and_eq_true,Bool.and_eq_true] at h2
  exact h2.2.2
 have hn1:stop nb l k=k+p.length:=by
  refine stop_eq nb l k _ (by omega) (by omega) (fun j h3 h4=>?_) (fun _=>?_)
  ·have h5:=hget (j-k) (by omega)
   rw[List.getElem?_append_left (by omega),List.getElem?_eq_getElem (by omega),Option.some.injEq,show k+(j-k)=j by omega] at h5
   rw[← h5]
   exact List.all_eq_true.1 hpall _ (List.getElem_mem _)
  ·by_cases hqz:q.length=0
   ·rw[show k+p.length=c by omega,hc58];decide
   ·have h5:=hget p.length (by omega)
    rw[List.getElem?_append_right (by omega),Nat.sub_self,List.getElem?_eq_getElem (by omega),Option.some.injEq] at h5
    have h6:=List.all_eq_true.1 hqb _ (List.getElem_mem (by omega:0<q.length))
    rw[h5] at h6
    cases hx:nb (b l (k+p.length))
    ·rfl
    ·rw[nb_blank _ hx] at h6;cases h6
 have hn2:stop blank l (k+p.length)=c:=by
  refine stop_eq blank l _ _ (by omega) (by omega) (fun j h3 h4=>?_) (fun _=>by rw[hc58];decide)
  have h5:=hget (j-k) (by omega)
  rw[List.getElem?_append_right (by omega),List.getElem?_eq_getElem (by omega),Option.some.injEq,show k+(j-k)=j by omega] at h5
  rw[← h5]
  exact List.all_eq_true.1 hqb _ (List.getElem_mem _)
 have hslp:sl l k (k+p.length)=p:=by
  have h3:=sl_app l k (k+p.length) c (by omega) (by omega)
  have h4:(sl l k (k+p.length)).length=p.length:=by rw[sl_len _ _ _ (by omega)];omega
  exact(List.append_inj (h3.symm.trans hq) h4).1
 unfold nameGood
 rw[hn1,hn2,hslp,h2,hc58,decide_eq_true (by omega)]
 rfl
theorem field_same (l:List UInt8)(k:Nat)(hk:k<l.length):specF l k=implF l k:=by
 unfold specF implF
 dsimp only
 by_cases hg:nameGood l k=true
 ·obtain⟨h1,h2,h3,h4⟩:=name_same l k hk hg
  rw[if_pos hg,h2,if_neg (by rw[h4,decide_eq_false (by omega)];simp),h1]
  have hg':=hg
  unfold nameGood at hg'
  have a0:=stop_ge nb l k (by omega)
  have a1:=stop_le nb l k (by omega)
  have a2:=stop_all nb l k (by omega)
  have c0:=stop_ge blank l _ a1
  have c2:=stop_all blank l _ a1
  rw[h1] at h3
  generalize stop blank l (stop nb l k)=n2 at *
  rw[Bool.and_eq_true,Bool.and_eq_true,decide_eq_true_eq,beq_iff_eq] at hg'
  obtain⟨-,hn2,h58⟩:=hg'
  have hno:∀j,k≤j→j<n2+1→b l j≠13:=fun j h5 h6=>by
   by_cases hj:j<stop nb l k
   ·exact nb_13 _ (a2 j h5 hj)
   ·by_cases hj':j=n2
    ·rw[hj',h58];decide
    ·exact blank_13 _ (c2 j (by omega) (by omega))
  have hfe:fe l (n2+1)=fe l k:=(first_skip _ _ _ _ (by omega) (by omega) (fun j h5 h6=>by rw[no_crlf l j (hno j h5 h6)];rfl)).symm
  have hle:le l k=le l (n2+1):=first_skip _ _ _ _ (by omega) (by omega) (fun j h5 h6=>no_crlf l j (hno j h5 h6))
  obtain⟨v1,v2,v3⟩:=vend_spec l (fe l k) k (l.length+1) (l.length+1) (n2+1) k (by omega) (by omega) (by omega) (by omega) hfe hle
  generalize vend l (l.length+1) (n2+1) k=v at v1 v2 v3 ⊢
  by_cases hv:l.length≤v.1
  ·obtain⟨-,e1,e2⟩:=v1 hv
   rw[if_pos e2,if_pos hv,e1,nx,if_neg (by omega)]
  ·rw[if_neg hv]
   cases hcr:crlf l v.1
   ·obtain⟨e1,e2⟩:=v3 (by omega) hcr
    rw[if_neg (by rw[e1];simp),e2]
    rfl
   ·obtain⟨e1,e2⟩:=v2 (by omega) hcr
    rw[if_pos e2,e1,nx,if_pos (by omega)]
    rfl
 ·rw[if_neg hg]
  by_cases h1:le l k≤colon l (fe l k) k
  ·rw[decide_eq_true h1,Bool.true_or,if_pos rfl]
  ·cases h2:nameOk (trimR (sl l k (colon l (fe l k) k)))
   ·rw[Bool.not_false,Bool.or_true,if_pos rfl]
   ·exact absurd (name_back l k hk (by omega) h2) hg
end Pl
end Go.Proofs.YtibbpmhbgbafhaaGreatDoor
namespace Go.Proofs.YtibbpmhbgbafhaaGreatDoor
open Go.RowKit Go.Lib
theorem b_at (s:ByteArray)(k:Nat)(h:k<s.size):Pl.b s.data.toList k=s[k]:=Pl.b_lt _ k (by simpa using h)
theorem specLine (s:ByteArray)(k:Nat)(w:World)(_hs:s.size≤1100000)(hk:k≤s.size) :
  Calls Tryz.prog 19 #[.string s,.int .i64 k] w fun e w'=>e=.returned (.tuple #[.int .i64 (Pl.le s.data.toList k:Nat),.int .i64 (Pl.nx s.data.toList (Pl.le s.data.toList k):Nat)])∧w=w':=by
 obtain⟨E,hE⟩:∃E,Pl.le s.data.toList k=E:=⟨_,rfl⟩
 rw[hE]
 have HE:Hid (Pl.le s.data.toList k=E):=hE
 clear hE
 go_enter Tryz.func19,Tryz.ntmps19
 go_wp2
 go_loopw [6] (fun i wr=>∃ j:Nat,j≤s.size∧i=.int .i64 j∧Hid (Pl.le s.data.toList j=E)∧wr=w) (fun i _=>s.size-(Lib.intOf i).toNat)
 case atStart=>exact⟨k,hk,rfl,HE,rfl⟩
 case round=>
  clear HE hk
  obtain⟨k,hk,rfl,hp,rfl⟩:=hrel
  by_cases hlt:k+1<s.size
  ·have h8:s[k].toNat<256:=UInt8.toNat_lt _
   have h9:s[k+1].toNat<256:=UInt8.toNat_lt _
   have hll:k<s.data.toList.length:=by simp;omega
   have miss:Pl.crlf s.data.toList k=false→Hid (Pl.le s.data.toList (k+1)=E):=fun h=>show _=_ from (Pl.first_miss _ _ _ hll h).trans hp.out
   by_cases h13:((s[k].toNat:Int)==13)=true
   ·by_cases h10:((s[k+1].toNat:Int)==10)=true
    ·have hcr:Pl.crlf s.data.toList k=true:=(Pl.crlf_iff _ _).2 ⟨by simp;omega,Pl.byte_eq _ 13 _ rfl h13,Pl.byte_eq _ 10 _ rfl h10⟩
     have hE:Hid (E=k):=show _=_ from hp.out.symm.trans (Pl.first_hit _ _ _ hcr)
     have hN:Hid (Pl.nx s.data.toList k=k+2):=show _=_ from by rw[Pl.nx,if_pos hll]
     clear hp miss hcr
     go_wp2
     refine bodyPost_ret (v:=.tuple #[.int .i64 k,.int .i64 (k+2)]) (by simp[results,Tryz.results19,go_sem]) rfl ⟨?_,rfl⟩
     rw[hE.out,hN.out]
     simp
    ·rw[Bool.not_eq_true] at h10
     have hg:=miss (by rw[Bool.eq_false_iff];intro e;obtain⟨_,-,e1⟩:=(Pl.crlf_iff _ _).1 e;exact Pl.byte_ne _ 10 _ rfl h10 e1)
     clear hp miss
     go_wp2
     go_roundw
     case rel=>exact⟨k+1,by omega,by go_num,hg,trivial⟩
     case measure=>simp[Lib.intOf];omega
   ·rw[Bool.not_eq_true] at h13
    have hg:=miss (by rw[Bool.eq_false_iff];intro e;obtain⟨_,e1,-⟩:=(Pl.crlf_iff _ _).1 e;exact Pl.byte_ne _ 13 _ rfl h13 e1)
    clear hp miss
    go_wp2
    go_roundw
    case rel=>exact⟨k+1,by omega,by go_num,hg,trivial⟩
    case measure=>simp[Lib.intOf];omega
  ·have hE:Hid (E=s.size):=show _=_ from by
    rw[← hp.out]
    exact(Pl.first_eq _ _ _ _ hk (by simp) (fun j h1 h2=>Pl.crlf_short _ _ (by simp;omega)) (fun h=>by simp at h))
   have hN:Hid (Pl.nx s.data.toList s.size=s.size):=show _=_ from by rw[Pl.nx,if_neg (by simp)];simp
   clear hp
   go_wp2
   refine bodyPost_ret (v:=.tuple #[.int .i64 s.size,.int .i64 s.size]) (by simp[results,Tryz.results19,go_sem]) rfl ⟨?_,rfl⟩
   rw[hE.out,hN.out]
theorem whereName (s n:ByteArray)(B e c f:Nat)(w:World)(hn:n.size≤1100000)(_hB:B≤1100000)(_hc:c≤1100000)(_hf:f≤1100000)(h:f≤c∨Pl.nameOk n.data.toList=false) :
  Calls Tryz.prog 23 #[.string s,.int .i64 B,.int .i64 e,.int .i64 c,.int .i64 f,.string n] w fun x w'=>x=.returned (.int .i64 B)∧w=w':=by
 by_cases hfc:f≤c
 ·clear h
  go_enter Tryz.func23,Tryz.ntmps23
  go_wp2
  go_ret
  exact⟨rfl,rfl⟩
 ·have hN:=h.resolve_left hfc
  have hcn:=fun w=>specName n w hn
  simp only[hN] at hcn
  clear h hN
  go_enter Tryz.func23,Tryz.ntmps23
  go_wp2_with (go_at_call 21;go_must (refine(hcn _).mono ?_;rintro x w2 ⟨rfl,rfl⟩))
  go_ret
  exact⟨rfl,rfl⟩
set_option maxRecDepth 8000 in
theorem whereLine (s n:ByteArray)(B e c f:Nat)(w:World)(hs:s.size≤1100000)(hn:n.size≤1100000)(hBc:B≤c)(hce:c+1≤e)(hes:e≤s.size)(hf:f≤1100000)(hcf:c<f)(hN:Pl.nameOk n.data.toList=true) :
  Calls Tryz.prog 23 #[.string s,.int .i64 B,.int .i64 e,.int .i64 c,.int .i64 f,.string n] w fun x w'=>x=.returned (.int .i64 (Pl.whr s.data.toList e B (s.data.toList.length+1) B (c+1):Nat))∧w=w':=by
 have hcn:=fun w=>specName n w hn
 simp only[hN] at hcn
 obtain⟨R,hR⟩:∃R,Pl.whr s.data.toList e B (s.data.toList.length+1) B (c+1)=R:=⟨_,rfl⟩
 rw[hR]
 have HR:Hid (∃g,s.size+1≤g+B∧Pl.whr s.data.toList e B g B (c+1)=R):=show ∃g,_∧_ from ⟨_,by rw[Pl.len_list];omega,hR⟩
 clear hR hN
 have hd:decide (f≤c)=false:=by simp;omega
 have hd':decide ((f:Int)≤(c:Int))=false:=by simp;omega
 go_enter Tryz.func23,Tryz.ntmps23
 go_wp2_with (go_at_call 21;go_must (refine(hcn _).mono ?_;rintro x w2 ⟨rfl,rfl⟩))
 go_loopw [13,14,15,16,17] (fun a fr _ _ _ wr=>∃ (k r:Nat),k≤s.size∧r≤s.size∧a=.int .i64 k∧fr=.int .i64 r∧Hid (∃g,s.size+1≤g+k∧Pl.whr s.data.toList e B g k r=R)∧wr=w) (fun a _ _ _ _ _=>s.size-(Lib.intOf a).toNat)
 case atStart=>exact⟨B,c+1,by omega,by omega,rfl,by go_num,HR,rfl⟩
 case round=>
  clear HR hcn
  obtain⟨k,r,hk,hr,rfl,rfl,hg,rfl⟩:=hrel
  by_cases hke:k<e
  ·have hln:=fun w=>specLine s k w hs hk
   have hle0:=Pl.first_ge (Pl.crlf s.data.toList) s.data.toList.length k (by simpa using hk)
   have hle1:=Pl.first_le (Pl.crlf s.data.toList) s.data.toList.length k (by simpa using hk)
   have Hnx:Hid (Pl.nx s.data.toList (Pl.le s.data.toList k)=if Pl.le s.data.toList k<s.size then Pl.le s.data.toList k+2 else s.size):=show _=_ from by rw[Pl.nx,Pl.len_list]
   have Hst:Hid (∃g,s.size+1≤g+1+k∧(if Pl.first (fun j=>!Pl.lb (Pl.b s.data.toList j)) (min (Pl.le s.data.toList k) e) r<min (Pl.le s.data.toList k) e then k else Pl.whr s.data.toList e B g (Pl.nx s.data.toList (Pl.le s.data.toList k)) (Pl.nx s.data.toList (Pl.le s.data.toList k)))=R):=show ∃g,_∧_ from by
    obtain⟨g,h1,h2⟩:=hg.out
    obtain⟨g',rfl⟩:∃g',g=g'+1:=⟨g-1,by omega⟩
    rw[Pl.whr,if_pos hke] at h2
    exact⟨g',h1,h2⟩
   have Hcr:Hid (Pl.le s.data.toList k<s.size→Pl.le s.data.toList k+2≤s.size):=show _→_ from fun h=>by
    have:=(Pl.crlf_b _ _ (Pl.first_is (Pl.crlf s.data.toList) s.data.toList.length k (by simpa using hk) (by show Pl.le s.data.toList k<_;rw[Pl.len_list];exact h))).2.2
    simp at this
    exact this
   change k≤Pl.le s.data.toList k at hle0
   change Pl.le s.data.toList k≤_ at hle1
   rw[Pl.len_list] at hle1
   clear hg
   generalize Pl.nx s.data.toList (Pl.le s.data.toList k)=N at hln Hnx Hst
   generalize Pl.le s.data.toList k=E at hln Hnx Hst Hcr hle0 hle1
   have hN0:k<N:=by have:=Hnx.out;split at this<;>omega
   have hN1:N≤s.size:=by have a:=Hnx.out;have c:=Hcr.out;split at a<;>omega
   obtain⟨M,hM⟩:∃M,M=min E e:=⟨_,rfl⟩
   have hMe:M≤e:=by omega
   have HM:Hid (M=min E e):=hM
   rw[← hM] at Hst
   clear Hnx Hcr
   by_cases hEe:e<E
   ·have hMv:e=M:=by omega
    clear hM
    subst hMv
    go_wp2_with (go_at_call 19;go_must (refine(hln _).mono ?_;rintro x w2 ⟨rfl,rfl⟩))
    go_loopw [17] (fun i wx=>∃ j:Nat,j≤s.size∧r≤j∧i=.int .i64 j∧Hid (Pl.first (fun j=>!Pl.lb (Pl.b s.data.toList j)) e r=Pl.first (fun j=>!Pl.lb (Pl.b s.data.toList j)) e j)∧wx=wr) (fun i _=>s.size-(Lib.intOf i).toNat)
    case atStart=>exact⟨r,hr,Nat.le_refl _,rfl,rfl,rfl⟩
    case round=>
     obtain⟨j,hj,hrj,rfl,hp,rfl⟩:=hrel
     by_cases hlt:j<e
     ·have h8:s[j].toNat<256:=UInt8.toNat_lt _
      have hbj:=b_at s j (by omega)
      cases h13:((s[j].toNat:Int)==13)
      ·cases h10:((s[j].toNat:Int)==10)
       ·have hlb:Pl.lb s[j]=true:=by simp[Pl.lb,Pl.byte_ne _ 13 _ rfl h13,Pl.byte_ne _ 10 _ rfl h10]
        have hg:Hid (Pl.first (fun j=>!Pl.lb (Pl.b s.data.toList j)) e r=Pl.first (fun j=>!Pl.lb (Pl.b s.data.toList j)) e (j+1)):=show _=_ from hp.out.trans (Pl.first_miss _ _ _ hlt (by rw[hbj,hlb];rfl)).symm
        clear hp hlb hbj
        go_wp2
        go_roundw
        case rel=>exact⟨j+1,by omega,by omega,by go_num,hg,trivial⟩
        case measure=>simp[Lib.intOf];omega
       ·have hE:Hid (R=k):=show _=_ from by
         obtain⟨g,-,h2⟩:=Hst.out
         rw[hp.out,Pl.first_hit _ _ _ (by rw[hbj,Pl.byte_eq _ 10 _ rfl h10];rfl),if_pos hlt] at h2
         exact h2.symm
        clear hp hbj
        go_wp2
        go_ret
        rw[hE.out]
        exact⟨rfl,rfl⟩
      ·have hE:Hid (R=k):=show _=_ from by
        obtain⟨g,-,h2⟩:=Hst.out
        rw[hp.out,Pl.first_hit _ _ _ (by rw[hbj,Pl.byte_eq _ 13 _ rfl h13];rfl),if_pos hlt] at h2
        exact h2.symm
       clear hp hbj
       go_wp2
       go_ret
       rw[hE.out]
       exact⟨rfl,rfl⟩
     ·have hE:Hid (∃g,s.size+1≤g+N∧Pl.whr s.data.toList e B g N N=R):=show ∃g,_∧_ from by
       obtain⟨g,h1,h2⟩:=Hst.out
       rw[hp.out,Pl.first_end _ _ _ (by omega),if_neg hlt] at h2
       exact⟨g,by omega,h2⟩
      clear hp
      go_wp2
      go_roundw
      case rel=>exact⟨N,N,by omega,by omega,rfl,rfl,hE,trivial⟩
      case measure=>simp[Lib.intOf];omega
   ·have hMv:E=M:=by omega
    clear hM
    subst hMv
    go_wp2_with (go_at_call 19;go_must (refine(hln _).mono ?_;rintro x w2 ⟨rfl,rfl⟩))
    go_loopw [17] (fun i wx=>∃ j:Nat,j≤s.size∧r≤j∧i=.int .i64 j∧Hid (Pl.first (fun j=>!Pl.lb (Pl.b s.data.toList j)) E r=Pl.first (fun j=>!Pl.lb (Pl.b s.data.toList j)) E j)∧wx=wr) (fun i _=>s.size-(Lib.intOf i).toNat)
    case atStart=>exact⟨r,hr,Nat.le_refl _,rfl,rfl,rfl⟩
    case round=>
     obtain⟨j,hj,hrj,rfl,hp,rfl⟩:=hrel
     by_cases hlt:j<E
     ·have h8:s[j].toNat<256:=UInt8.toNat_lt _
      have hbj:=b_at s j (by omega)
      cases h13:((s[j].toNat:Int)==13)
      ·cases h10:((s[j].toNat:Int)==10)
       ·have hlb:Pl.lb s[j]=true:=by simp[Pl.lb,Pl.byte_ne _ 13 _ rfl h13,Pl.byte_ne _ 10 _ rfl h10]
        have hg:Hid (Pl.first (fun j=>!Pl.lb (Pl.b s.data.toList j)) E r=Pl.first (fun j=>!Pl.lb (Pl.b s.data.toList j)) E (j+1)):=show _=_ from hp.out.trans (Pl.first_miss _ _ _ hlt (by rw[hbj,hlb];rfl)).symm
        clear hp hlb hbj
        go_wp2
        go_roundw
        case rel=>exact⟨j+1,by omega,by omega,by go_num,hg,trivial⟩
        case measure=>simp[Lib.intOf];omega
       ·have hE:Hid (R=k):=show _=_ from by
         obtain⟨g,-,h2⟩:=Hst.out
         rw[hp.out,Pl.first_hit _ _ _ (by rw[hbj,Pl.byte_eq _ 10 _ rfl h10];rfl),if_pos hlt] at h2
         exact h2.symm
        clear hp hbj
        go_wp2
        go_ret
        rw[hE.out]
        exact⟨rfl,rfl⟩
      ·have hE:Hid (R=k):=show _=_ from by
        obtain⟨g,-,h2⟩:=Hst.out
        rw[hp.out,Pl.first_hit _ _ _ (by rw[hbj,Pl.byte_eq _ 13 _ rfl h13];rfl),if_pos hlt] at h2
        exact h2.symm
       clear hp hbj
       go_wp2
       go_ret
       rw[hE.out]
       exact⟨rfl,rfl⟩
     ·have hE:Hid (∃g,s.size+1≤g+N∧Pl.whr s.data.toList e B g N N=R):=show ∃g,_∧_ from by
       obtain⟨g,h1,h2⟩:=Hst.out
       rw[hp.out,Pl.first_end _ _ _ (by omega),if_neg hlt] at h2
       exact⟨g,by omega,h2⟩
      clear hp
      go_wp2
      go_roundw
      case rel=>exact⟨N,N,by omega,by omega,rfl,rfl,hE,trivial⟩
      case measure=>simp[Lib.intOf];omega
  ·have hE:Hid (R=B):=show _=_ from by
    obtain⟨g,h1,h2⟩:=hg.out
    obtain⟨g',rfl⟩:∃g',g=g'+1:=⟨g-1,by omega⟩
    rw[Pl.whr,if_neg hke] at h2
    exact h2.symm
   clear hg
   go_wp2
   go_ret
   rw[hE.out]
   exact⟨rfl,rfl⟩
theorem mkHid {p:Prop} (h:p):Hid p:=h
theorem heap_alloc_at (w:World)(o:Obj):(w.alloc o).heap[w.heap.size]?=some o:=by
 show(w.heap.push o)[w.heap.size]?=some o
 simp
abbrev Fd:=ByteArray × ByteArray
def Fld (B:Nat)(w:World)(o:Option Addr)(F:List Fd):Prop:=
 ∀i (h:i<F.length),∃ a,o=some a∧a.block<B∧w.cell? (a.add (i*2))=some (.string F[i].1)∧w.cell? ⟨(a.add (i*2)).block,(a.add (i*2)).off+1,none⟩=some (.string F[i].2)
theorem add_block (a:Addr)(n:Nat):(a.add n).block=a.block:=by unfold Addr.add;split<;>rfl
theorem Fld.below {B:Nat} {w w':World} {o:Option Addr} {F:List Fd} (h:Fld B w o F)(hb:Below B w w'):Fld B w' o F:=by
 intro i hi
 obtain⟨a,ho,ha,h0,h1⟩:=h i hi
 exact⟨a,ho,ha,(hb.cell (by rw[add_block];exact ha)).trans h0,(hb.cell (p:=⟨(a.add (i*2)).block,(a.add (i*2)).off+1,none⟩) (show(a.add (i*2)).block<B from by rw[add_block];exact ha)).trans h1⟩
theorem Fld.mono {B B':Nat} {w:World} {o:Option Addr} {F:List Fd} (h:Fld B w o F)(hB:B≤B'):Fld B' w o F:=by
 intro i hi
 obtain⟨a,ho,ha,h0,h1⟩:=h i hi
 exact⟨a,ho,by omega,h0,h1⟩
theorem Tryz.info43:(Tryz.prog.info? 56).map (fun i=>(i.zero,i.size,i.bytes))=some (some (.agg #[.string ⟨#[]⟩,.string ⟨#[]⟩]),2,32):=by kernel_rfl
end Go.Proofs.YtibbpmhbgbafhaaGreatDoor
