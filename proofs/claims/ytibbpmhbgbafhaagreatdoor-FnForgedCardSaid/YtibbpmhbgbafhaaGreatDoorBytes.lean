import Derived.Lib.UnsafeStr
import Derived.Laws.Strings
import Derived.WalkKit
import Derived.Lib.AppendStr
import Derived.Laws.IdiomStrings
set_option maxRecDepth 20000
namespace Go.Proofs.YtibbpmhbgbafhaaGreatDoor
namespace Pl
theorem drop_cons (l:List UInt8)(k:Nat)(h:k<l.length):l.drop k=l[k]::l.drop (k+1):=by
 rw[List.drop_eq_getElem_cons h]
theorem byte_eq (c d:UInt8)(n:Int)(hn:n=(d.toNat:Int))(h:((c.toNat:Int)==n)=true):c=d:=by
 subst hn
 have h:=beq_iff_eq.1 h
 exact UInt8.toNat_inj.1 (by omega)
theorem byte_ne (c d:UInt8)(n:Int)(hn:n=(d.toNat:Int))(h:((c.toNat:Int)==n)=false):c≠d:=by
 subst hn
 rintro rfl
 simp at h
theorem at_list (s:ByteArray)(k:Nat)(h:k<s.size):s.data.toList[k]'(by simpa using h)=s[k]:=rfl
theorem len_list (s:ByteArray):s.data.toList.length=s.size:=by simp
theorem ext_list (s:ByteArray)(a b:Nat):(s.extract a b).toList=(s.data.toList.drop a).take (b-a):=by
 rw[ByteArray.toList_eq]
 simp
theorem ext_data (s:ByteArray)(a b:Nat):(s.extract a b).data.toList=(s.data.toList.drop a).take (b-a):=by simp
def crlf (l:List UInt8)(k:Nat):Bool:=(l.drop k).take 2 == [13,10]
theorem crlf_iff (l:List UInt8)(k:Nat):crlf l k=true↔∃ h:k+1<l.length,l[k]=13∧l[k+1]=10:=by
 unfold crlf
 rw[beq_iff_eq]
 constructor
 ·intro e
  have hlen:=congrArg List.length e
  simp only[List.length_take,List.length_drop,List.length_cons,List.length_nil] at hlen
  have h:k+1<l.length:=by omega
  rw[drop_cons l k (by omega),drop_cons l (k+1) h] at e
  simp only[List.take_succ_cons,List.take_zero,List.cons.injEq,and_true] at e
  exact⟨h,e⟩
 ·rintro⟨h,e0,e1⟩
  rw[drop_cons l k (by omega),drop_cons l (k+1) h,e0,e1]
  rfl
theorem crlf_short (l:List UInt8)(k:Nat)(h:l.length<k+2):crlf l k=false:=by
 rw[Bool.eq_false_iff]
 intro e
 obtain⟨h',-⟩:=(crlf_iff l k).1 e
 omega
theorem crlf_long (s:ByteArray)(k:Nat):(((s.extract k s.size).extract 0 2).toList == [13,10])=crlf s.data.toList k:=by
 rw[ext_list,ext_data]
 unfold crlf
 rw[List.drop_zero,List.take_of_length_le (i:=s.size-k) (by simp)]
end Pl
namespace Pl
def blank (c:UInt8):Bool:=c==32 || c==9
def blankAt (l:List UInt8)(k:Nat):Bool:=match l[k]? with|some c=>blank c|none=>false
def fold (l:List UInt8)(k:Nat):Bool:=crlf l k && blankAt l (k+2)
theorem blankAt_lt (l:List UInt8)(k:Nat)(h:k<l.length):blankAt l k=blank l[k]:=by simp[blankAt,h]
theorem blankAt_ge (l:List UInt8)(k:Nat)(h:l.length≤k):blankAt l k=false:=by simp[blankAt,h]
theorem crlf_drop (l:List UInt8)(k:Nat):crlf (l.drop k) 0=crlf l k:=by simp[crlf]
theorem blankAt_drop (l:List UInt8)(k j:Nat):blankAt (l.drop k) j=blankAt l (k+j):=by simp[blankAt,List.getElem?_drop]
theorem fold_drop (l:List UInt8)(k:Nat):fold (l.drop k) 0=fold l k:=by
 unfold fold
 rw[crlf_drop,blankAt_drop]
theorem fold_iff (l:List UInt8)(k:Nat):fold l k=true↔∃ h:k+2<l.length,l[k]=13∧l[k+1]=10∧blank l[k+2]=true:=by
 unfold fold
 rw[Bool.and_eq_true,crlf_iff]
 constructor
 ·rintro⟨⟨h,h0,h1⟩,hb⟩
  by_cases hk:k+2<l.length
  ·rw[blankAt_lt l _ hk] at hb
   exact⟨hk,h0,h1,hb⟩
  ·rw[blankAt_ge l _ (by omega)] at hb
   cases hb
 ·rintro⟨h,h0,h1,hb⟩
  exact⟨⟨by omega,h0,h1⟩,by rw[blankAt_lt l _ h];exact hb⟩
theorem fold_lt (l:List UInt8)(k:Nat)(h:fold l k=true):k+2<l.length:=((fold_iff l k).1 h).1
def unf:Bool→List UInt8→List UInt8
 | _,[]=>[]
 | true,_::r=>unf false r
 | false,c::r=>if fold (c::r) 0 then unf true r else c::unf false r
theorem unf_fold (l p x:List UInt8)(k:Nat)(h:fold l k=true)(hp:p++unf false (l.drop k)=x):p++unf false (l.drop (k+2))=x:=by
 have hk:=fold_lt l k h
 rw[drop_cons l k (by omega),unf,← drop_cons l k (by omega),fold_drop,if_pos h,drop_cons l (k+1) (by omega),unf] at hp
 exact hp
theorem unf_other (l p x:List UInt8)(k:Nat)(hk:k<l.length)(h:fold l k=false)(hp:p++unf false (l.drop k)=x):(p ++ [l[k]])++unf false (l.drop (k+1))=x:=by
 rw[drop_cons l k hk,unf,← drop_cons l k hk,fold_drop,if_neg (by rw[h];simp)] at hp
 simpa using hp
theorem unf_done (l p x:List UInt8)(k:Nat)(hk:l.length≤k)(hp:p++unf false (l.drop k)=x):p=x:=by
 rw[List.drop_eq_nil_of_le hk] at hp
 simpa [unf] using hp
theorem unf_len:∀(l:List UInt8)(b:Bool),(unf b l).length≤l.length
 | [],b=>by cases b<;>simp[unf]
 | c::r,true=>by have:=unf_len r false;simp[unf];omega
 | c::r,false=>by
  unfold unf
  by_cases h:fold (c::r) 0=true
  ·rw[if_pos h];have:=unf_len r true;simp;omega
  ·rw[if_neg h];have:=unf_len r false;simp;omega
end Pl
namespace Pl
theorem unf_fold_eq (l:List UInt8)(k:Nat)(h:fold l k=true):unf false (l.drop k)=unf false (l.drop (k+2)):=by
 have:=unf_fold l [] _ k h rfl
 simpa using this.symm
theorem unf_other_eq (l:List UInt8)(k:Nat)(hk:k<l.length)(h:fold l k=false):unf false (l.drop k)=l[k]::unf false (l.drop (k+1)):=by
 have:=unf_other l [] _ k hk h rfl
 simpa using this.symm
def lb (c:UInt8):Bool:=!(c==13 || c==10)
def val (l:List UInt8):Bool:=(unf false l).all lb
theorem val_fold (l:List UInt8)(k:Nat)(h:fold l k=true):val (l.drop (k+2))=val (l.drop k):=by
 unfold val;rw[unf_fold_eq l k h]
theorem val_other (l:List UInt8)(k:Nat)(hk:k<l.length)(h:fold l k=false):val (l.drop k)=(lb l[k] && val (l.drop (k+1))):=by
 unfold val;rw[unf_other_eq l k hk h];simp
theorem val_done (l:List UInt8)(k:Nat)(hk:l.length≤k):val (l.drop k)=true:=by
 rw[List.drop_eq_nil_of_le hk];simp[val,unf]
theorem all_step (f:UInt8→Bool)(l:List UInt8)(k:Nat)(hk:k<l.length):(l.drop k).all f=(f l[k] && (l.drop (k+1)).all f):=by
 rw[drop_cons l k hk,List.all_cons]
theorem all_done (f:UInt8→Bool)(l:List UInt8)(k:Nat)(hk:l.length≤k):(l.drop k).all f=true:=by
 rw[List.drop_eq_nil_of_le hk];rfl
theorem getD_lt (l:List UInt8)(k:Nat)(h:k<l.length):l.getD k 0=l[k]:=by simp[h]
theorem ext_take (t:ByteArray)(z:Nat):(t.extract 0 z).data.toList=t.data.toList.take z:=by rw[ext_data,List.drop_zero,Nat.sub_zero]
end Pl
end Go.Proofs.YtibbpmhbgbafhaaGreatDoor
namespace Go.Proofs.YtibbpmhbgbafhaaGreatDoor
open Go.RowKit Go.Lib
def Own (B:Nat)(v:Value)(p:List UInt8)(w:World):Prop:=w.ownsRow B 5 1 v p.length (byteCells p)
theorem add_off (g j:Nat):(⟨g,0,none⟩:Addr).add j=⟨g,j,none⟩:=by
 by_cases h:j=0
 ·subst h;rfl
 ·simp[Addr.add,h]
theorem Own.nil (B:Nat)(w:World):Own B (.slice none 0 0) [] w:=World.ownsRow_nil _ _ _ _
theorem Own.made (B:Nat)(w:World)(h:B≤w.heap.size):Own B (.slice (some ⟨w.heap.size,0,none⟩) 0 0) [] (w.alloc (.cells #[] 5)):=
 World.ownsRow_made w #[] 0 h (by unfold maxLen;omega) rfl
theorem Own.form {B:Nat} {v:Value} {p:List UInt8} {w:World} (h:Own B v p w):(v=.slice none 0 0∧p=[])∨∃ g cap,v=.slice (some ⟨g,0,none⟩) p.length cap:=by
 rcases h.2 with ⟨rfl,h0⟩|⟨g,cap,cur,rfl,-⟩
 ·exact .inl ⟨rfl,List.length_eq_zero_iff.1 h0⟩
 ·exact .inr ⟨g,cap,rfl⟩
theorem Own.cell {B g cap n:Nat} {p:List UInt8} {w:World} (h:Own B (.slice (some ⟨g,0,none⟩) n cap) p w)(j:Nat)(hj:j<p.length) :
  w.cell? ⟨g,j,none⟩=some (.int .u8 (p[j].toNat:Int)):=by
 have:=World.ownsRow.cells h (g:=g) rfl j (.int .u8 (p[j].toNat:Int)) (by simp[byteCells,hj])
 rwa [add_off] at this
theorem wp_app {P:Program} {W w:World} {ops:Array Oper} {rest:List Oper} {o:Oper} {a:Act} {Q:Exit→Act→World→Prop} (hgd:o.guard=none)(s x:Operand)(t:TypeId)
  (ho:o.op=.call { callee:=.builtin .append,args:=#[s,x],argTypes:=#[t,t] })
  (i:TypeInfo) (ht:P.underlying t=some (.slice 5)) (hi:P.info? 5=some i) (hz:i.zero=some (.int .u8 0)) (hsize:i.size=1) (hby:i.bytes=1)
  (B:Nat) (v:Value) (p:List UInt8) (hs:a.eval s=v) (hown:Own B v p w) (cs:Array Value) (news:List UInt8) (hcs:cs.toList=byteCells news)
  (n c:Nat) (hn:n=news.length) (hx:a.eval x=.slice (some ⟨w.heap.size,0,none⟩) n c) (hlen:p.length+news.length≤140737488355328) (hB:B≤W.heap.size) (hb:Below B W w)
  (h:∀v' w',Own B v' (p++news) w'→Below B W w'→wpList P ops Q rest (a.put o.dst v') w'):wpList P ops Q (o::rest) a (w.alloc (.cells cs 5)):=by
 subst hn
 have hsz:=hb.size
 refine wpList_append_own _ hgd s x t ho B 5 i (.int .u8 0) 1 1 ht hi hz hsize hby rfl (by decide) v p.length (byteCells p) hs (hown.alloc _) ⟨w.heap.size,0,none⟩ news.length c (byteCells news) hx
  (by rw[byteCells_length,Nat.mul_one]) ?_ ?_ (by unfold maxLen;omega) (by omega) (by simp;omega) ?_
 ·intro j u hj
  have e2:cs[j]?=some u:=by rw[← Array.getElem?_toList,hcs];exact hj
  rw[add_off]
  simp[e2]
 ·intro u hu
  simp only[byteCells,List.mem_map] at hu
  obtain⟨b,-,rfl⟩:=hu
  rfl
 ·intro v' w' h1 h2 _
  refine h v' w' ?_ ?_
  ·unfold Own
   rw[byteCells_append,List.length_append]
   exact h1
  ·exact(hb.alloc (by omega) _).grown h2 (by simp;omega) (fun k hk=>(World.ownsRow.lt hown k hk).1)
theorem wp_apps {P:Program} {W w:World} {ops:Array Oper} {rest:List Oper} {o:Oper} {a:Act} {Q:Exit→Act→World→Prop} (hgd:o.guard=none)(s x:Operand)(t u:TypeId)
  (ho:o.op=.call { callee:=.builtin .append,args:=#[s,x],argTypes:=#[t,u] })
  (i:TypeInfo) (ht:P.underlying t=some (.slice 5)) (hu:P.underlying u=some .string) (hi:P.info? 5=some i) (hz:i.zero=some (.int .u8 0)) (hsize:i.size=1) (hby:i.bytes=1)
  (B:Nat) (v:Value) (p:List UInt8) (hs:a.eval s=v) (hown:Own B v p w) (news:ByteArray)
  (hx:a.eval x=.string news) (hlen:p.length+news.size≤140737488355328) (hB:B≤W.heap.size) (hb:Below B W w)
  (h:∀v' w',Own B v' (p++news.data.toList) w'→Below B W w'→wpList P ops Q rest (a.put o.dst v') w'):wpList P ops Q (o::rest) a w:=by
 have hsz:=hb.size
 refine wpList_append_own_string _ hgd s x t u ho B 5 i ht hu hi hz hsize hby v p.length (byteCells p) hs hown news hx (by unfold maxLen;omega) hlen (by omega) ?_
 intro v' w' h1 h2 _
 refine h v' w' ?_ ?_
 ·unfold Own
  rw[byteCells_append,List.length_append]
  exact h1
 ·exact hb.grown h2 (by omega) (fun k hk=>(World.ownsRow.lt hown k hk).1)
theorem Own.back {P:Program} {B:Nat} {v:Value} {p:List UInt8} {w:World} (h:Own B v p w)(src dst:TypeId)(hs:P.underlying src=some (.slice 5))(he:P.underlying 5=some (.int .u8))(hd:P.underlying dst=some .string) :
  (convert src dst v).run P w=.ok (.string ⟨p.toArray⟩) w:=by
 rcases h.form with ⟨rfl,rfl⟩|⟨g,cap,rfl⟩
 ·have:=run_convert_bytes_string (P:=P) w src dst 5 none 0 0 hs he hd
  rw[this];rfl
 ·exact run_convert_bytes_back w src dst 5 ⟨g,0,none⟩ cap p hs he hd (fun j hj=>by rw[add_off];exact h.cell j hj)
end Go.Proofs.YtibbpmhbgbafhaaGreatDoor
