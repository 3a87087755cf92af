import Derived.Test.YtibbpmhbgbafhaaGreatDoorBlank
import Derived.Test.YtibbpmhbgbafhaaGreatDoorBytes
set_option maxRecDepth 20000
set_option maxHeartbeats 1000000
namespace Go.Proofs.YtibbpmhbgbafhaaGreatDoor
open Go.RowKit Go.Lib
theorem implLineByte (c:UInt8)(w:World):Calls Tryz.prog 120 #[.int .u8 (c.toNat:Int)] w fun e w'=>e=.returned (.bool (Pl.lb c))∧w=w':=by
 have h8:c.toNat<256:=UInt8.toNat_lt _
 cases h13:((c.toNat:Int)==13)
 ·have hn:((c.toNat:Int) != 13)=true:=by rw[bne,h13];rfl
  cases h10:((c.toNat:Int)==10)
  ·have hm:((c.toNat:Int) != 10)=true:=by rw[bne,h10];rfl
   rw[show Pl.lb c=true from by simp[Pl.lb,Pl.byte_ne c 13 _ rfl h13,Pl.byte_ne c 10 _ rfl h10]]
   go_enter Tryz.func120,Tryz.ntmps120
   go_wp2
   go_ret
   exact⟨rfl,rfl⟩
  ·have hm:((c.toNat:Int) != 10)=false:=by rw[bne,h10];rfl
   rw[show Pl.lb c=false from by rw[Pl.byte_eq c 10 _ rfl h10];rfl]
   go_enter Tryz.func120,Tryz.ntmps120
   go_wp2
   go_ret
   exact⟨rfl,rfl⟩
 ·have hn:((c.toNat:Int) != 13)=false:=by rw[bne,h13];rfl
  rw[show Pl.lb c=false from by rw[Pl.byte_eq c 13 _ rfl h13];rfl]
  go_enter Tryz.func120,Tryz.ntmps120
  go_wp2
  go_ret
  exact⟨rfl,rfl⟩
theorem kindLine:Kind 120 Pl.lb:=⟨Go.Proofs.enters_of Tryz.func120 (by kernel_rfl) rfl,implLineByte⟩
theorem kindBlank:Kind 116 Pl.blank:=⟨Go.Proofs.enters_of Tryz.func116 (by kernel_rfl) rfl,implBlank⟩
theorem implLineEndAt (s:ByteArray)(k:Nat)(w:World)(_hs:s.size≤1100000)(hk:k≤s.size) :
  Calls Tryz.prog 113 #[.string s,.int .i64 k] w fun e w'=>e=.returned (.bool (Pl.crlf s.data.toList k))∧w=w':=by
 by_cases h:s.size<k+2
 ·rw[Pl.crlf_short _ _ (by simp;omega)]
  go_enter Tryz.func113,Tryz.ntmps113
  go_wp2
  go_ret
  exact⟨rfl,rfl⟩
 ·rw[← Pl.crlf_long]
  go_enter Tryz.func113,Tryz.ntmps113
  go_wp2
  go_ret
  exact⟨rfl,rfl⟩
theorem implFoldAt (s:ByteArray)(k:Nat)(w:World)(hs:s.size≤1100000)(hk:k≤s.size) :
  Calls Tryz.prog 159 #[.string s,.int .i64 k] w fun e w'=>e=.returned (.bool (Pl.fold s.data.toList k))∧w=w':=by
 have hc:=implLineEndAt s k w hs hk
 by_cases hcr:Pl.crlf s.data.toList k=true
 ·by_cases h2:k+2<s.size
  ·rw[hcr] at hc
   rw[show Pl.fold s.data.toList k=Pl.blank s[k+2] from by rw[Pl.fold,hcr,Pl.blankAt_lt _ _ (by simpa using h2)];rfl]
   clear hcr
   go_enter Tryz.func159,Tryz.ntmps159
   go_wp2_with (first|(go_at_call 113;go_must (refine hc.mono ?_;rintro e w2 ⟨rfl,rfl⟩))|(go_at_call 116;go_must (refine(implBlank s[k+2] _).mono ?_;rintro e w2 ⟨rfl,rfl⟩)))
   go_ret
   exact⟨rfl,rfl⟩
  ·rw[hcr] at hc
   rw[show Pl.fold s.data.toList k=false from by rw[Pl.fold,Pl.blankAt_ge _ (k+2) (by simp;omega),Bool.and_false]]
   clear hcr
   go_enter Tryz.func159,Tryz.ntmps159
   go_wp2_with (go_at_call 113;go_must (refine hc.mono ?_;rintro e w2 ⟨rfl,rfl⟩))
   go_ret
   exact⟨rfl,rfl⟩
 ·rw[Bool.not_eq_true] at hcr
  rw[hcr] at hc
  rw[show Pl.fold s.data.toList k=false from by rw[Pl.fold,hcr];rfl]
  clear hcr
  go_enter Tryz.func159,Tryz.ntmps159
  go_wp2_with (go_at_call 113;go_must (refine hc.mono ?_;rintro e w2 ⟨rfl,rfl⟩))
  go_ret
  exact⟨rfl,rfl⟩
theorem specFold3 (s:ByteArray)(k:Nat)(w:World)(_hs:s.size≤1100000)(_hk:k≤s.size) :
  Calls Tryz.prog 48 #[.string s,.int .i64 k] w fun e w'=>e=.returned (.bool (Pl.fold s.data.toList k))∧w=w':=by
 by_cases h2:k+2<s.size
 ·by_cases h0:((s[k].toNat:Int)==13)=true
  ·by_cases h1:((s[k+1].toNat:Int)==10)=true
   ·rw[show Pl.fold s.data.toList k=Pl.blank s[k+2] from by
     rw[Pl.fold,(Pl.crlf_iff _ _).2 ⟨by simp;omega,Pl.byte_eq _ 13 _ rfl h0,Pl.byte_eq _ 10 _ rfl h1⟩,Pl.blankAt_lt _ _ (by simpa using h2)];rfl]
    go_enter Tryz.func48,Tryz.ntmps48
    go_wp2_with (go_at_call 20;go_must (refine(specBlank s[k+2] _).mono ?_;rintro e w2 ⟨rfl,rfl⟩))
    go_ret
    exact⟨rfl,rfl⟩
   ·rw[Bool.not_eq_true] at h1
    rw[show Pl.fold s.data.toList k=false from by
     rw[Bool.eq_false_iff];intro e;obtain⟨h,-,e1,-⟩:=(Pl.fold_iff _ _).1 e;exact Pl.byte_ne _ 10 _ rfl h1 e1]
    go_enter Tryz.func48,Tryz.ntmps48
    go_wp2
    go_ret
    exact⟨rfl,rfl⟩
  ·rw[Bool.not_eq_true] at h0
   rw[show Pl.fold s.data.toList k=false from by
    rw[Bool.eq_false_iff];intro e;obtain⟨h,e0,-,-⟩:=(Pl.fold_iff _ _).1 e;exact Pl.byte_ne _ 13 _ rfl h0 e0]
   go_enter Tryz.func48,Tryz.ntmps48
   go_wp2
   go_ret
   exact⟨rfl,rfl⟩
 ·rw[show Pl.fold s.data.toList k=false from by rw[Pl.fold,Pl.blankAt_ge _ (k+2) (by simp;omega),Bool.and_false]]
  go_enter Tryz.func48,Tryz.ntmps48
  go_wp2
  go_ret
  exact⟨rfl,rfl⟩
theorem specUnfold (s:ByteArray)(w:World)(hs:s.size≤100000) :
  Calls Tryz.prog 70 #[.string s] w fun e w'=>e=.returned (.string ⟨(Pl.unf false s.data.toList).toArray⟩)∧Below w.heap.size w w':=by
 obtain⟨i0,hi,hz0,hz1,hz2⟩:=info_parts Tryz.info5
 have hc0:decide ((100000:Int)<(s.size:Int))=false:=by simp;omega
 go_enter Tryz.func70,Tryz.ntmps70
 go_wp2
 go_loopw [3,4] (fun v i wr=>∃ (k:Nat) (p:List UInt8),k≤s.size∧i=.int .i64 k∧p.length≤k∧Hid (p++Pl.unf false (s.data.toList.drop k)=Pl.unf false s.data.toList)∧Own w.heap.size v p wr∧Below w.heap.size w wr) (fun _ i _=>s.size-(Lib.intOf i).toNat)
 case atStart=>exact⟨0,[],Nat.zero_le _,rfl,by simp,rfl,Own.made _ _ (Nat.le_refl _),(Below.refl _ _).alloc (Nat.le_refl _) _⟩
 case round=>
  obtain⟨k,p,hk,rfl,hpl,hp,hown,hb⟩:=hrel
  by_cases hlt:k<s.size
  ·have h8:s[k].toNat<256:=UInt8.toNat_lt _
   have hc:=fun w=>specFold3 s k w (by omega) hk
   by_cases hf:Pl.fold s.data.toList k=true
   ·have h2:Hid (k+2<s.size):=show k+2<s.size from by simpa using Pl.fold_lt _ _ hf
    have Hf:Hid (Pl.fold s.data.toList k=true):=hf
    simp only[hf] at hc
    clear hf
    go_wp2_with (go_at_call 48;go_must (refine(hc _).mono ?_;rintro e w2 ⟨rfl,rfl⟩))
    go_roundw
    case rel=>exact⟨k+2,p,by have:=h2.out;omega,by go_num,by omega,Pl.unf_fold _ p _ k Hf.out hp,hown,hb⟩
    case measure=>simp[Lib.intOf];omega
   ·rw[Bool.not_eq_true] at hf
    have Hf:Hid (Pl.fold s.data.toList k=false):=hf
    simp only[hf] at hc
    clear hf
    go_wp2_with (first|(go_at_call 48;go_must (refine(hc _).mono ?_;rintro e w2 ⟨rfl,rfl⟩))|(at_builtin;go_must (refine wp_app (W:=w) rfl _ _ 22 rfl i0 Tryz.underlying22 hi hz0 hz1 hz2 w.heap.size u3 p rfl hown _ [s[k]] rfl 1 1 rfl rfl (by simp;omega) (Nat.le_refl _) hb ?_;intro v' w' hown' hb')))
    go_roundw
    case rel=>exact⟨k+1,_,by omega,by go_num,by simp;omega,Pl.unf_other _ p _ k (by simpa using hlt) Hf.out hp,hown',hb'⟩
    case measure=>simp[Lib.intOf];omega
  ·have hpn:Hid (p=Pl.unf false s.data.toList):=Pl.unf_done _ p _ k (by simp;omega) hp
   clear hp
   have hbk:=hown.back (P:=Tryz.prog) 22 9 Tryz.underlying22 Tryz.underlying5 Tryz.underlying9
   go_wp2
   go_ret
   rw[← hpn.out]
   exact⟨rfl,hb⟩
theorem implUnfolded (s:ByteArray)(w:World)(hs:s.size≤1100000) :
  Calls Tryz.prog 181 #[.string s] w fun e w'=>e=.returned (.string ⟨(Pl.unf false s.data.toList).toArray⟩)∧Below w.heap.size w w':=by
 obtain⟨i0,hi,hz0,hz1,hz2⟩:=info_parts Tryz.info5
 go_enter Tryz.func181,Tryz.ntmps181
 go_wp2
 go_loopw [3,4] (fun v i wr=>∃ (k:Nat) (p:List UInt8),k≤s.size∧i=.int .i64 k∧p.length≤k∧Hid (p++Pl.unf false (s.data.toList.drop k)=Pl.unf false s.data.toList)∧Own w.heap.size v p wr∧Below w.heap.size w wr) (fun _ i _=>s.size-(Lib.intOf i).toNat)
 case atStart=>exact⟨0,[],Nat.zero_le _,rfl,by simp,rfl,Own.nil _ _,Below.refl _ _⟩
 case round=>
  obtain⟨k,p,hk,rfl,hpl,hp,hown,hb⟩:=hrel
  by_cases hlt:k<s.size
  ·have h8:s[k].toNat<256:=UInt8.toNat_lt _
   have hc:=fun w=>implFoldAt s k w hs hk
   by_cases hf:Pl.fold s.data.toList k=true
   ·have h2:Hid (k+2<s.size):=show k+2<s.size from by simpa using Pl.fold_lt _ _ hf
    have Hf:Hid (Pl.fold s.data.toList k=true):=hf
    simp only[hf] at hc
    clear hf
    go_wp2_with (go_at_call 159;go_must (refine(hc _).mono ?_;rintro e w2 ⟨rfl,rfl⟩))
    go_roundw
    case rel=>exact⟨k+2,p,by have:=h2.out;omega,by go_num,by omega,Pl.unf_fold _ p _ k Hf.out hp,hown,hb⟩
    case measure=>simp[Lib.intOf];omega
   ·rw[Bool.not_eq_true] at hf
    have Hf:Hid (Pl.fold s.data.toList k=false):=hf
    simp only[hf] at hc
    clear hf
    go_wp2_with (first|(go_at_call 159;go_must (refine(hc _).mono ?_;rintro e w2 ⟨rfl,rfl⟩))|(at_builtin;go_must (refine wp_app (W:=w) rfl _ _ 22 rfl i0 Tryz.underlying22 hi hz0 hz1 hz2 w.heap.size u3 p rfl hown _ [s[k]] rfl 1 1 rfl rfl (by simp;omega) (Nat.le_refl _) hb ?_;intro v' w' hown' hb')))
    go_roundw
    case rel=>exact⟨k+1,_,by omega,by go_num,by simp;omega,Pl.unf_other _ p _ k (by simpa using hlt) Hf.out hp,hown',hb'⟩
    case measure=>simp[Lib.intOf];omega
  ·have hpn:Hid (p=Pl.unf false s.data.toList):=Pl.unf_done _ p _ k (by simp;omega) hp
   clear hp
   have hbk:=hown.back (P:=Tryz.prog) 22 9 Tryz.underlying22 Tryz.underlying5 Tryz.underlying9
   go_wp2
   go_ret
   rw[← hpn.out]
   exact⟨rfl,hb⟩
end Go.Proofs.YtibbpmhbgbafhaaGreatDoor
namespace Go.Proofs.YtibbpmhbgbafhaaGreatDoor
namespace Pl
def nb (c:UInt8):Bool:=decide (33≤c.toNat) && (decide (c.toNat≤126) && !(c==58))
def nameOk (l:List UInt8):Bool:=!l.isEmpty && (decide (l.length≤70) && l.all nb)
def okF (f:ByteArray × ByteArray):Bool:=decide (f.2.size≤100000) && (nameOk f.1.data.toList && val f.2.data.toList)
def line (f:ByteArray × ByteArray):List UInt8:=f.1.data.toList ++ [58]++f.2.data.toList ++ [13,10]
def hd:List UInt8→List (ByteArray × ByteArray)→List UInt8
 | out,[]=>out
 | out,f::r=>if okF f then (if 100000<(out++line f).length then [] else hd (out++line f) r) else []
theorem hd_bad (p x:List UInt8)(F:List (ByteArray × ByteArray))(k:Nat)(hk:k<F.length)(h:okF F[k]=false)(hp:hd p (F.drop k)=x):x=[]:=by
 rw[List.drop_eq_getElem_cons hk,hd,if_neg (by rw[h];simp)] at hp
 exact hp.symm
theorem hd_long (p x:List UInt8)(F:List (ByteArray × ByteArray))(k:Nat)(hk:k<F.length)(h:okF F[k]=true)(hl:100000<(p++line F[k]).length)(hp:hd p (F.drop k)=x):x=[]:=by
 rw[List.drop_eq_getElem_cons hk,hd,if_pos h,if_pos hl] at hp
 exact hp.symm
theorem hd_step (p x:List UInt8)(F:List (ByteArray × ByteArray))(k:Nat)(hk:k<F.length)(h:okF F[k]=true)(hl:¬100000<(p++line F[k]).length)(hp:hd p (F.drop k)=x):hd (p++line F[k]) (F.drop (k+1))=x:=by
 rw[List.drop_eq_getElem_cons hk,hd,if_pos h,if_neg hl] at hp
 exact hp
theorem hd_done (p x:List UInt8)(F:List (ByteArray × ByteArray))(k:Nat)(hk:F.length≤k)(hp:hd p (F.drop k)=x):x=p:=by
 rw[List.drop_eq_nil_of_le hk,hd] at hp
 exact hp.symm
theorem okF_size (f:ByteArray × ByteArray)(h:¬f.2.size≤100000):okF f=false:=by simp[okF,h]
theorem okF_name (f:ByteArray × ByteArray)(h:nameOk f.1.data.toList=false):okF f=false:=by simp[okF,h]
theorem okF_val (f:ByteArray × ByteArray)(h:val f.2.data.toList=false):okF f=false:=by simp[okF,h]
theorem okF_mk (f:ByteArray × ByteArray)(h:f.2.size≤100000)(h1:nameOk f.1.data.toList=true)(h2:val f.2.data.toList=true):okF f=true:=by simp[okF,h,h1,h2]
theorem nameOk_size (f:ByteArray)(h:nameOk f.data.toList=true):f.size≤70:=by
 simp[nameOk] at h
 exact h.2.1
theorem line_len (f:ByteArray × ByteArray):(line f).length=f.1.size+f.2.size+3:=by simp[line];omega
end Pl
open Go.RowKit Go.Lib
theorem Own.beside {B:Nat} {v:Value} {p:List UInt8} {w:World} (h:Own B v p w) {fv:Nat} {cs:Array Value} {t:TypeId} {z:Nat × Nat} (ht:t≠5)(hf:w.heap[fv]?=some (.cells cs t z)):v.ownBlock≠some fv:=by
 intro e
 rcases h.2 with ⟨rfl,-⟩|⟨g,cap,cur,rfl,-,hg,-⟩
 ·cases e
 ·cases e
  rw[hf] at hg
  simp only[Option.some.injEq,Obj.cells.injEq] at hg
  exact ht hg.2.1
theorem grown_beside {w w':World} {row:Option Nat} (hg:w.grownBy w' row) {fv:Nat} {ob:Obj} (hf:w.heap[fv]?=some ob)(hne:row≠some fv):w'.heap[fv]?=some ob:=by
 have hlt:fv<w.heap.size:=by
  by_cases h:fv<w.heap.size
  ·exact h
  ·rw[Array.getElem?_eq_none (by omega)] at hf;cases hf
 rw[← hf]
 exact hg.block fv hlt (fun e=>hne e.symm)
theorem wp_app_v {P:Program} {W w:World} {ops:Array Oper} {rest:List Oper} {o:Oper} {a:Act} {Q:Exit→Act→World→Prop} (hgd:o.guard=none)(s x:Operand)(t:TypeId)
  (ho:o.op=.call { callee:=.builtin .append,args:=#[s,x],argTypes:=#[t,t] })
  (i:TypeInfo) (ht:P.underlying t=some (.slice 5)) (hi:P.info? 5=some i) (hz:i.zero=some (.int .u8 0)) (hsize:i.size=1) (hby:i.bytes=1)
  (B:Nat) (v:Value) (p:List UInt8) (hs:a.eval s=v) (hown:Own B v p w) (cs:Array Value) (news:List UInt8) (hcs:cs.toList=byteCells news)
  (n c:Nat) (hn:n=news.length) (hx:a.eval x=.slice (some ⟨w.heap.size,0,none⟩) n c) (hlen:p.length+news.length≤140737488355328) (hB:B≤W.heap.size) (hb:Below B W w)
  (fv:Nat) (ob:Array Value) (tv:TypeId) (z:Nat × Nat) (htv:tv≠5) (hfv:w.heap[fv]?=some (.cells ob tv z))
  (h:∀v' w',Own B v' (p++news) w'→Below B W w'→w'.heap[fv]?=some (.cells ob tv z)→wpList P ops Q rest (a.put o.dst v') w'):wpList P ops Q (o::rest) a (w.alloc (.cells cs 5)):=by
 subst hn
 have hsz:=hb.size
 have hlt:fv<w.heap.size:=by
  by_cases h:fv<w.heap.size
  ·exact h
  ·rw[Array.getElem?_eq_none (by omega)] at hfv;cases hfv
 refine wpList_append_own _ hgd s x t ho B 5 i (.int .u8 0) 1 1 ht hi hz hsize hby rfl (by decide) v p.length (byteCells p) hs (hown.alloc _) ⟨w.heap.size,0,none⟩ news.length c (byteCells news) hx
  (by rw[byteCells_length,Nat.mul_one]) ?_ ?_ (by unfold maxLen;omega) (by omega) (by simp;omega) ?_
 ·intro j u hj
  have e2:cs[j]?=some u:=by rw[← Array.getElem?_toList,hcs];exact hj
  rw[add_off]
  simp[e2]
 ·intro u hu
  simp only[byteCells,List.mem_map] at hu
  obtain⟨b,-,rfl⟩:=hu
  rfl
 ·intro v' w' h1 h2 _
  refine h v' w' ?_ ?_ ?_
  ·unfold Own
   rw[byteCells_append,List.length_append]
   exact h1
  ·exact(hb.alloc (by omega) _).grown h2 (by simp;omega) (fun k hk=>(World.ownsRow.lt hown k hk).1)
  ·exact grown_beside h2 ((Below.heap_alloc w _ fv hlt).trans hfv) (hown.beside htv hfv)
theorem wp_apps_v {P:Program} {W w:World} {ops:Array Oper} {rest:List Oper} {o:Oper} {a:Act} {Q:Exit→Act→World→Prop} (hgd:o.guard=none)(s x:Operand)(t u:TypeId)
  (ho:o.op=.call { callee:=.builtin .append,args:=#[s,x],argTypes:=#[t,u] })
  (i:TypeInfo) (ht:P.underlying t=some (.slice 5)) (hu:P.underlying u=some .string) (hi:P.info? 5=some i) (hz:i.zero=some (.int .u8 0)) (hsize:i.size=1) (hby:i.bytes=1)
  (B:Nat) (v:Value) (p:List UInt8) (hs:a.eval s=v) (hown:Own B v p w) (news:ByteArray)
  (hx:a.eval x=.string news) (hlen:p.length+news.size≤140737488355328) (hB:B≤W.heap.size) (hb:Below B W w)
  (fv:Nat) (ob:Array Value) (tv:TypeId) (z:Nat × Nat) (htv:tv≠5) (hfv:w.heap[fv]?=some (.cells ob tv z))
  (h:∀v' w',Own B v' (p++news.data.toList) w'→Below B W w'→w'.heap[fv]?=some (.cells ob tv z)→wpList P ops Q rest (a.put o.dst v') w'):wpList P ops Q (o::rest) a w:=by
 have hsz:=hb.size
 refine wpList_append_own_string _ hgd s x t u ho B 5 i ht hu hi hz hsize hby v p.length (byteCells p) hs hown news hx (by unfold maxLen;omega) hlen (by omega) ?_
 intro v' w' h1 h2 _
 refine h v' w' ?_ ?_ ?_
 ·unfold Own
  rw[byteCells_append,List.length_append]
  exact h1
 ·exact hb.grown h2 (by omega) (fun k hk=>(World.ownsRow.lt hown k hk).1)
 ·exact grown_beside h2 hfv (hown.beside htv hfv)
theorem nb_cases (c:UInt8):c.toNat<33∧Pl.nb c=false∨33≤c.toNat∧126<c.toNat∧Pl.nb c=false∨33≤c.toNat∧c.toNat≤126∧((c.toNat:Int)==58)=true∧Pl.nb c=false∨33≤c.toNat∧c.toNat≤126∧((c.toNat:Int)==58)=false∧Pl.nb c=true:=by
 by_cases h1:c.toNat<33
 ·exact .inl ⟨h1,by simp[Pl.nb];omega⟩
 ·by_cases h2:126<c.toNat
  ·exact .inr (.inl ⟨by omega,h2,by simp[Pl.nb];omega⟩)
  ·cases h3:((c.toNat:Int)==58)
   ·refine .inr (.inr (.inr ⟨by omega,by omega,rfl,?_⟩))
    have:=Pl.byte_ne c 58 _ rfl h3
    simp[Pl.nb,this];omega
   ·refine .inr (.inr (.inl ⟨by omega,by omega,rfl,?_⟩))
    rw[Pl.byte_eq c 58 _ rfl h3];rfl
theorem implNameByte (c:UInt8)(w:World):Calls Tryz.prog 115 #[.int .u8 (c.toNat:Int)] w fun e w'=>e=.returned (.bool (Pl.nb c))∧w=w':=by
 have h8:c.toNat<256:=UInt8.toNat_lt _
 rcases nb_cases c with ⟨h,hb⟩|⟨h,h1,hb⟩|⟨h,h1,h2,hb⟩|⟨h,h1,h2,hb⟩<;>rw[hb]<;>clear hb
 ·go_enter Tryz.func115,Tryz.ntmps115
  go_wp2
  go_ret
  exact⟨rfl,rfl⟩
 ·go_enter Tryz.func115,Tryz.ntmps115
  go_wp2
  go_ret
  exact⟨rfl,rfl⟩
 ·have h3:((c.toNat:Int) != 58)=false:=by rw[bne,h2];rfl
  go_enter Tryz.func115,Tryz.ntmps115
  go_wp2
  go_ret
  exact⟨rfl,rfl⟩
 ·have h3:((c.toNat:Int) != 58)=true:=by rw[bne,h2];rfl
  go_enter Tryz.func115,Tryz.ntmps115
  go_wp2
  go_ret
  exact⟨rfl,rfl⟩
theorem kindName:Kind 115 Pl.nb:=⟨Go.Proofs.enters_of Tryz.func115 (by kernel_rfl) rfl,implNameByte⟩
theorem implFieldName (s:ByteArray)(w:World)(hs:s.size≤1100000) :
  Calls Tryz.prog 118 #[.string s] w fun e w'=>e=.returned (.bool (Pl.nameOk s.data.toList))∧w=w':=by
 by_cases h0:s.size=0
 ·have hE:s.toList.isEmpty=true:=by
   rw[ByteArray.toList_eq,List.isEmpty_iff]
   exact List.length_eq_zero_iff.1 (by rw[Pl.len_list];exact h0)
  rw[show Pl.nameOk s.data.toList=false from by rw[ByteArray.toList_eq] at hE;simp[Pl.nameOk,hE]]
  go_enter Tryz.func118,Tryz.ntmps118
  go_wp2
  go_ret
  exact⟨rfl,rfl⟩
 ·have hE:s.toList.isEmpty=false:=by
   rw[ByteArray.toList_eq,List.isEmpty_eq_false_iff]
   intro e
   exact h0 (by rw[← Pl.len_list,e];rfl)
  by_cases h70:s.size≤70
  ·have hc:=fun w=>implAllOf kindName s w hs
   rw[show Pl.nameOk s.data.toList=s.data.toList.all Pl.nb from by rw[ByteArray.toList_eq] at hE;simp[Pl.nameOk,hE,h70]]
   generalize s.data.toList.all Pl.nb=b at hc ⊢
   go_enter Tryz.func118,Tryz.ntmps118
   go_wp2_with fail
   refine(hc _).mono ?_
   rintro e w2 ⟨rfl,rfl⟩
   go_wp2
   go_ret
   exact⟨rfl,rfl⟩
  ·rw[show Pl.nameOk s.data.toList=false from by rw[ByteArray.toList_eq] at hE;simp[Pl.nameOk];omega]
   go_enter Tryz.func118,Tryz.ntmps118
   go_wp2
   go_ret
   exact⟨rfl,rfl⟩
theorem implFieldValue (s:ByteArray)(w:World)(hs:s.size≤1100000) :
  Calls Tryz.prog 208 #[.string s] w fun e w'=>e=.returned (.bool (Pl.val s.data.toList))∧Below w.heap.size w w':=by
 have hl:(ByteArray.mk (Pl.unf false s.data.toList).toArray).size≤1100000:=by
  have:=Pl.unf_len s.data.toList false
  rw[Pl.len_list] at this
  show(Pl.unf false s.data.toList).toArray.size≤1100000
  rw[List.size_toArray]
  omega
 have hc:=fun w=>implAllOf kindLine ⟨(Pl.unf false s.data.toList).toArray⟩ w hl
 go_enter Tryz.func208,Tryz.ntmps208
 go_wp2_with fail
 refine(implUnfolded s _ hs).mono ?_
 rintro e w2 ⟨rfl,hb⟩
 go_wp2_with fail
 refine(hc _).mono ?_
 rintro e w3 ⟨rfl,rfl⟩
 go_wp2
 go_ret
 exact⟨by simp[Pl.val],hb⟩
theorem specName (s:ByteArray)(w:World)(_hs:s.size≤1100000) :
  Calls Tryz.prog 21 #[.string s] w fun e w'=>e=.returned (.bool (Pl.nameOk s.data.toList))∧w=w':=by
 by_cases h0:s.size=0
 ·have hE:s.data.toList.isEmpty=true:=by
   rw[List.isEmpty_iff]
   exact List.length_eq_zero_iff.1 (by rw[Pl.len_list];exact h0)
  rw[show Pl.nameOk s.data.toList=false from by simp[Pl.nameOk,hE]]
  clear hE
  go_enter Tryz.func21,Tryz.ntmps21
  go_wp2
  go_ret
  exact⟨rfl,rfl⟩
 ·have hE:s.data.toList.isEmpty=false:=by
   rw[List.isEmpty_eq_false_iff]
   intro e
   exact h0 (by rw[← Pl.len_list,e];rfl)
  by_cases h70:s.size≤70
  ·rw[show Pl.nameOk s.data.toList=s.data.toList.all Pl.nb from by simp[Pl.nameOk,hE,h70]]
   clear hE
   obtain⟨A,hA⟩:∃A,s.data.toList.all Pl.nb=A:=⟨_,rfl⟩
   rw[hA]
   have HA:Hid ((s.data.toList.drop 0).all Pl.nb=A):=hA
   clear hA
   have hz:((s.size:Int)==0)=false:=by rw[Bool.eq_false_iff];intro e;have:=beq_iff_eq.1 e;omega
   have hz7:decide ((70:Int)<(s.size:Int))=false:=by simp;omega
   go_enter Tryz.func21,Tryz.ntmps21
   go_wp2
   go_loopw [3] (fun i wr=>∃ k:Nat,k≤s.size∧i=.int .i64 k∧Hid ((s.data.toList.drop k).all Pl.nb=A)∧wr=w) (fun i _=>s.size-(Lib.intOf i).toNat)
   case atStart=>exact⟨0,Nat.zero_le _,rfl,HA,rfl⟩
   case round=>
    clear HA
    obtain⟨k,hk,rfl,hp,rfl⟩:=hrel
    by_cases hlt:k<s.size
    ·have h8:s[k].toNat<256:=UInt8.toNat_lt _
     have hst:Hid ((s.data.toList.drop k).all Pl.nb=(Pl.nb s[k] && (s.data.toList.drop (k+1)).all Pl.nb)):=Pl.all_step Pl.nb s.data.toList k (by simpa using hlt)
     have bad:Pl.nb s[k]=false→Hid (A=false):=by
      intro h
      have:=hst.out
      rw[h,Bool.false_and,hp.out] at this
      exact this
     rcases nb_cases s[k] with ⟨h,hb⟩|⟨h,h1,hb⟩|⟨h,h1,h2,hb⟩|⟨h,h1,h2,hb⟩
     ·have hB:=bad hb
      clear bad hb hst hp
      go_wp2
      go_ret
      exact⟨by rw[hB.out];rfl,rfl⟩
     ·have hB:=bad hb
      clear bad hb hst hp
      go_wp2
      go_ret
      exact⟨by rw[hB.out];rfl,rfl⟩
     ·have hB:=bad hb
      clear bad hb hst hp
      go_wp2
      go_ret
      exact⟨by rw[hB.out];rfl,rfl⟩
     ·have hg:Hid ((s.data.toList.drop (k+1)).all Pl.nb=A):=show _=_ from by
       have:=hst.out
       rw[hb,Bool.true_and,hp.out] at this
       exact this.symm
      clear bad hb hst hp
      go_wp2
      go_roundw
      case rel=>exact⟨k+1,by omega,by go_num,hg,trivial⟩
      case measure=>simp[Lib.intOf];omega
    ·have H0:Hid (A=true):=show _=_ from by rw[← hp.out];exact Pl.all_done Pl.nb _ k (by simp;omega)
     clear hp
     go_wp2
     go_ret
     exact⟨by rw[H0.out];rfl,rfl⟩
  ·rw[show Pl.nameOk s.data.toList=false from by simp[Pl.nameOk];omega]
   clear hE
   go_enter Tryz.func21,Tryz.ntmps21
   go_wp2
   go_ret
   exact⟨rfl,rfl⟩
theorem specValue (s:ByteArray)(w:World)(hs:s.size≤1100000) :
  Calls Tryz.prog 22 #[.string s] w fun e w'=>e=.returned (.bool (Pl.val s.data.toList))∧w=w':=by
 go_enter Tryz.func22,Tryz.ntmps22
 go_wp2
 go_loopw [3] (fun i wr=>∃ k:Nat,k≤s.size∧i=.int .i64 k∧Hid (Pl.val (s.data.toList.drop k)=Pl.val s.data.toList)∧wr=w) (fun i _=>s.size-(Lib.intOf i).toNat)
 case atStart=>exact⟨0,Nat.zero_le _,rfl,rfl,rfl⟩
 case round=>
  obtain⟨k,hk,rfl,hp,rfl⟩:=hrel
  by_cases hlt:k<s.size
  ·have h8:s[k].toNat<256:=UInt8.toNat_lt _
   have hc:=fun w=>specFold3 s k w hs hk
   by_cases hf:Pl.fold s.data.toList k=true
   ·have h2:Hid (k+2<s.size):=show k+2<s.size from by simpa using Pl.fold_lt _ _ hf
    have Hf:Hid (Pl.val (s.data.toList.drop (k+2))=Pl.val s.data.toList):=show _=_ from (Pl.val_fold _ k hf).trans hp.out
    simp only[hf] at hc
    clear hf
    go_wp2_with (go_at_call 48;go_must (refine(hc _).mono ?_;rintro e w2 ⟨rfl,rfl⟩))
    go_roundw
    case rel=>exact⟨k+2,by have:=h2.out;omega,by go_num,Hf,trivial⟩
    case measure=>simp[Lib.intOf];omega
   ·rw[Bool.not_eq_true] at hf
    have Hst:Hid (Pl.val s.data.toList=(Pl.lb s[k] && Pl.val (s.data.toList.drop (k+1)))):=show _=_ from hp.out.symm.trans (Pl.val_other s.data.toList k (by simpa using hlt) hf)
    simp only[hf] at hc
    clear hf hp
    cases h13:((s[k].toNat:Int)==13)
    ·cases h10:((s[k].toNat:Int)==10)
     ·have hg:Hid (Pl.val (s.data.toList.drop (k+1))=Pl.val s.data.toList):=show _=_ from by
       rw[Hst.out,show Pl.lb s[k]=true from by simp[Pl.lb,Pl.byte_ne _ 13 _ rfl h13,Pl.byte_ne _ 10 _ rfl h10],Bool.true_and]
      clear Hst
      go_wp2_with (go_at_call 48;go_must (refine(hc _).mono ?_;rintro e w2 ⟨rfl,rfl⟩))
      go_roundw
      case rel=>exact⟨k+1,by omega,by go_num,hg,trivial⟩
      case measure=>simp[Lib.intOf];omega
     ·have hB:Hid (Pl.val s.data.toList=false):=show _=_ from by rw[Hst.out,Pl.byte_eq _ 10 _ rfl h10];rfl
      clear Hst
      go_wp2_with (go_at_call 48;go_must (refine(hc _).mono ?_;rintro e w2 ⟨rfl,rfl⟩))
      go_ret
      first|exact⟨by rw[hB.out];rfl,rfl⟩|exact⟨rfl,rfl⟩
    ·have hB:Hid (Pl.val s.data.toList=false):=show _=_ from by rw[Hst.out,Pl.byte_eq _ 13 _ rfl h13];rfl
     clear Hst
     go_wp2_with (go_at_call 48;go_must (refine(hc _).mono ?_;rintro e w2 ⟨rfl,rfl⟩))
     go_ret
     first|exact⟨by rw[hB.out];rfl,rfl⟩|exact⟨rfl,rfl⟩
  ·have H0:Hid (Pl.val s.data.toList=true):=show _=_ from by rw[← hp.out];exact Pl.val_done _ k (by simp;omega)
   clear hp
   go_wp2
   go_ret
   exact⟨by rw[H0.out];rfl,rfl⟩
end Go.Proofs.YtibbpmhbgbafhaaGreatDoor
namespace Go.Proofs.YtibbpmhbgbafhaaGreatDoor
namespace Pl
def find (P:Nat→Bool):Nat→Nat→Nat
 | 0,k=>k
 | f+1,k=>if P k then k else find P f (k+1)
def first (P:Nat→Bool)(n k:Nat):Nat:=find P (n-k) k
theorem first_end (P:Nat→Bool)(n k:Nat)(h:n≤k):first P n k=k:=by
 unfold first;rw[show n-k=0 by omega];rfl
theorem first_hit (P:Nat→Bool)(n k:Nat)(h:P k=true):first P n k=k:=by
 unfold first
 cases n-k with
 | zero=>rfl
 | succ f=>rw[find,if_pos h]
theorem first_miss (P:Nat→Bool)(n k:Nat)(hk:k<n)(h:P k=false):first P n (k+1)=first P n k:=by
 unfold first
 obtain⟨f,hf⟩:∃f,n-k=f+1:=⟨n-k-1,by omega⟩
 rw[hf,find,if_neg (by rw[h];simp),show n-(k+1)=f by omega]
theorem first_spec (P:Nat→Bool)(n:Nat):∀(d k:Nat),n-k=d→k≤n→k≤first P n k∧first P n k≤n∧(∀j,k≤j→j<first P n k→P j=false)∧(first P n k<n→P (first P n k)=true)
 | 0,k,hd,hk=>by
  rw[first_end P n k (by omega)]
  exact⟨Nat.le_refl _,hk,fun j h1 h2=>by omega,fun h=>by omega⟩
 | d+1,k,hd,hk=>by
  cases hp:P k
  ·obtain⟨h1,h2,h3,h4⟩:=first_spec P n d (k+1) (by omega) (by omega)
   rw[first_miss P n k (by omega) hp] at h1 h2 h3 h4
   refine⟨by omega,h2,fun j h5 h6=>?_,h4⟩
   by_cases hj:j=k
   ·rw[hj];exact hp
   ·exact h3 j (by omega) h6
  ·rw[first_hit P n k hp]
   exact⟨Nat.le_refl _,hk,fun j h1 h2=>by omega,fun _=>hp⟩
theorem first_ge (P:Nat→Bool)(n k:Nat)(h:k≤n):k≤first P n k:=(first_spec P n _ k rfl h).1
theorem first_le (P:Nat→Bool)(n k:Nat)(h:k≤n):first P n k≤n:=(first_spec P n _ k rfl h).2.1
theorem first_none (P:Nat→Bool)(n k:Nat)(h:k≤n)(j:Nat)(h1:k≤j)(h2:j<first P n k):P j=false:=(first_spec P n _ k rfl h).2.2.1 j h1 h2
theorem first_is (P:Nat→Bool)(n k:Nat)(h:k≤n)(h1:first P n k<n):P (first P n k)=true:=(first_spec P n _ k rfl h).2.2.2 h1
theorem first_eq (P:Nat→Bool)(n k m:Nat)(hk:k≤m)(hm:m≤n)(h1:∀j,k≤j→j<m→P j=false)(h2:m<n→P m=true):first P n k=m:=by
 have a:=first_ge P n k (by omega)
 have b:=first_le P n k (by omega)
 have c:=first_none P n k (by omega)
 have d:=first_is P n k (by omega)
 by_cases h:first P n k<m
 ·have:=h1 _ a h
  rw[d (by omega)] at this
  cases this
 ·by_cases h':m<first P n k
  ·have:=c m hk h'
   rw[h2 (by omega)] at this
   cases this
  ·omega
def b (l:List UInt8)(j:Nat):UInt8:=l.getD j 0
theorem b_lt (l:List UInt8)(j:Nat)(h:j<l.length):b l j=l[j]:=getD_lt l j h
def stop (K:UInt8→Bool)(l:List UInt8)(k:Nat):Nat:=first (fun j=>!K (b l j)) l.length k
def le (l:List UInt8)(k:Nat):Nat:=first (crlf l) l.length k
def fe (l:List UInt8)(k:Nat):Nat:=first (fun j=>crlf l j && !fold l j) l.length k
def colon (l:List UInt8)(e k:Nat):Nat:=first (fun j=>b l j==58) e k
def nx (l:List UInt8)(e:Nat):Nat:=if e<l.length then e+2 else l.length
def sl (l:List UInt8)(i j:Nat):List UInt8:=(l.drop i).take (j-i)
def trimR:List UInt8→List UInt8:=fun l=>(l.reverse.dropWhile blank).reverse
def vend (l:List UInt8):Nat→Nat→Nat→Nat × Nat
 | 0,cur,beg=>(cur,beg)
 | f+1,cur,beg=>if fold l (stop lb l cur) then vend l f (stop lb l cur+2) (stop lb l cur+2) else (stop lb l cur,beg)
abbrev FieldR:=Sum Nat (List UInt8 × List UInt8 × Nat)
def nameGood (l:List UInt8)(k:Nat):Bool:=nameOk (sl l k (stop nb l k)) && (decide (stop blank l (stop nb l k)<l.length) && b l (stop blank l (stop nb l k))==58)
def implF (l:List UInt8)(k:Nat):FieldR:=
 if nameGood l k then
  let from_:=stop blank l (stop nb l k)+1
  let v:=vend l (l.length+1) from_ k
  if l.length≤v.1 then .inr (sl l k (stop nb l k),sl l from_ l.length,l.length)
  else if crlf l v.1 then .inr (sl l k (stop nb l k),sl l from_ v.1,v.1+2) else .inl v.2
 else .inl k
def whr (l:List UInt8)(e beg:Nat):Nat→Nat→Nat→Nat
 | 0,_,_=>beg
 | f+1,k,from_=>
  if k<e then
   if first (fun j=>!lb (b l j)) (min (le l k) e) from_<min (le l k) e then k else whr l e beg f (nx l (le l k)) (nx l (le l k))
  else beg
def specF (l:List UInt8)(k:Nat):FieldR:=
 let e:=fe l k
 let c:=colon l e k
 if decide (le l k≤c) || !nameOk (trimR (sl l k c)) then .inl k
 else if val (sl l (c+1) e) then .inr (trimR (sl l k c),sl l (c+1) e,nx l e) else .inl (whr l e k (l.length+1) k (c+1))
end Pl
end Go.Proofs.YtibbpmhbgbafhaaGreatDoor
