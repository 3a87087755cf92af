import Derived.Test.YtacaoiedcfelcaaGreatDoorAllOf
set_option maxRecDepth 20000
set_option maxHeartbeats 1000000
namespace Go.Proofs.YtacaoiedcfelcaaGreatDoor
open Go.RowKit Go.Lib
theorem implLineEndAt (s:ByteArray)(k:Nat)(w:World)(_hs:s.size≤1100000)(hk:k≤s.size) :
  Calls Tryz.prog 145 #[.string s,.int .i64 k] w fun e w'=>e=.returned (.bool (Pl.crlf s.data.toList k))∧w=w':=by
 by_cases h:s.size<k+2
 ·rw[Pl.crlf_short _ _ (by simp;omega)]
  go_enter Tryz.func145,Tryz.ntmps145
  go_wp2
  go_ret
  exact⟨rfl,rfl⟩
 ·rw[← Pl.crlf_long]
  go_enter Tryz.func145,Tryz.ntmps145
  go_wp2
  go_ret
  exact⟨rfl,rfl⟩
theorem implFoldAt (s:ByteArray)(k:Nat)(w:World)(hs:s.size≤1100000)(hk:k≤s.size) :
  Calls Tryz.prog 169 #[.string s,.int .i64 k] w fun e w'=>e=.returned (.bool (Pl.fold s.data.toList k))∧w=w':=by
 have hc:=implLineEndAt s k w hs hk
 by_cases hcr:Pl.crlf s.data.toList k=true
 ·by_cases h2:k+2<s.size
  ·rw[hcr] at hc
   rw[show Pl.fold s.data.toList k=Pl.blank s[k+2] from by rw[Pl.fold,hcr,Pl.blankAt_lt _ _ (by simpa using h2)];rfl]
   clear hcr
   go_enter Tryz.func169,Tryz.ntmps169
   go_wp2_with (first|(go_at_call 145;go_must (refine hc.mono ?_;rintro e w2 ⟨rfl,rfl⟩))|(go_at_call 147;go_must (refine(implBlank s[k+2] _).mono ?_;rintro e w2 ⟨rfl,rfl⟩)))
   go_ret
   exact⟨rfl,rfl⟩
  ·rw[hcr] at hc
   rw[show Pl.fold s.data.toList k=false from by rw[Pl.fold,Pl.blankAt_ge _ (k+2) (by simp;omega),Bool.and_false]]
   clear hcr
   go_enter Tryz.func169,Tryz.ntmps169
   go_wp2_with (go_at_call 145;go_must (refine hc.mono ?_;rintro e w2 ⟨rfl,rfl⟩))
   go_ret
   exact⟨rfl,rfl⟩
 ·rw[Bool.not_eq_true] at hcr
  rw[hcr] at hc
  rw[show Pl.fold s.data.toList k=false from by rw[Pl.fold,hcr];rfl]
  clear hcr
  go_enter Tryz.func169,Tryz.ntmps169
  go_wp2_with (go_at_call 145;go_must (refine hc.mono ?_;rintro e w2 ⟨rfl,rfl⟩))
  go_ret
  exact⟨rfl,rfl⟩
theorem specFold3 (s:ByteArray)(k:Nat)(w:World)(_hs:s.size≤1100000)(_hk:k≤s.size) :
  Calls Tryz.prog 82 #[.string s,.int .i64 k] w fun e w'=>e=.returned (.bool (Pl.fold s.data.toList k))∧w=w':=by
 by_cases h2:k+2<s.size
 ·by_cases h0:((s[k].toNat:Int)==13)=true
  ·by_cases h1:((s[k+1].toNat:Int)==10)=true
   ·rw[show Pl.fold s.data.toList k=Pl.blank s[k+2] from by
     rw[Pl.fold,(Pl.crlf_iff _ _).2 ⟨by simp;omega,Pl.byte_eq _ 13 _ rfl h0,Pl.byte_eq _ 10 _ rfl h1⟩,Pl.blankAt_lt _ _ (by simpa using h2)];rfl]
    go_enter Tryz.func82,Tryz.ntmps82
    go_wp2_with (go_at_call 34;go_must (refine(specBlank s[k+2] _).mono ?_;rintro e w2 ⟨rfl,rfl⟩))
    go_ret
    exact⟨rfl,rfl⟩
   ·rw[Bool.not_eq_true] at h1
    rw[show Pl.fold s.data.toList k=false from by
     rw[Bool.eq_false_iff];intro e;obtain⟨h,-,e1,-⟩:=(Pl.fold_iff _ _).1 e;exact Pl.byte_ne _ 10 _ rfl h1 e1]
    go_enter Tryz.func82,Tryz.ntmps82
    go_wp2
    go_ret
    exact⟨rfl,rfl⟩
  ·rw[Bool.not_eq_true] at h0
   rw[show Pl.fold s.data.toList k=false from by
    rw[Bool.eq_false_iff];intro e;obtain⟨h,e0,-,-⟩:=(Pl.fold_iff _ _).1 e;exact Pl.byte_ne _ 13 _ rfl h0 e0]
   go_enter Tryz.func82,Tryz.ntmps82
   go_wp2
   go_ret
   exact⟨rfl,rfl⟩
 ·rw[show Pl.fold s.data.toList k=false from by rw[Pl.fold,Pl.blankAt_ge _ (k+2) (by simp;omega),Bool.and_false]]
  go_enter Tryz.func82,Tryz.ntmps82
  go_wp2
  go_ret
  exact⟨rfl,rfl⟩
theorem specUnfold (s:ByteArray)(w:World)(hs:s.size≤100000) :
  Calls Tryz.prog 115 #[.string s] w fun e w'=>e=.returned (.string ⟨(Pl.unf false s.data.toList).toArray⟩)∧Below w.heap.size w w':=by
 obtain⟨i0,hi,hz0,hz1,hz2⟩:=info_parts Tryz.info5
 have hc0:decide ((100000:Int)<(s.size:Int))=false:=by simp;omega
 go_enter Tryz.func115,Tryz.ntmps115
 go_wp2
 go_loopw [3,4] (fun v i wr=>∃ (k:Nat) (p:List UInt8),k≤s.size∧i=.int .i64 k∧p.length≤k∧Hid (p++Pl.unf false (s.data.toList.drop k)=Pl.unf false s.data.toList)∧Own w.heap.size v p wr∧Below w.heap.size w wr) (fun _ i _=>s.size-(Lib.intOf i).toNat)
 case atStart=>exact⟨0,[],Nat.zero_le _,rfl,by simp,rfl,Own.made _ _ (Nat.le_refl _),(Below.refl _ _).alloc (Nat.le_refl _) _⟩
 case round=>
  obtain⟨k,p,hk,rfl,hpl,hp,hown,hb⟩:=hrel
  by_cases hlt:k<s.size
  ·have h8:s[k].toNat<256:=UInt8.toNat_lt _
   have hc:=fun w=>specFold3 s k w (by omega) hk
   by_cases hf:Pl.fold s.data.toList k=true
   ·have h2:Hid (k+2<s.size):=show k+2<s.size from by simpa using Pl.fold_lt _ _ hf
    have Hf:Hid (Pl.fold s.data.toList k=true):=hf
    simp only[hf] at hc
    clear hf
    go_wp2_with (go_at_call 82;go_must (refine(hc _).mono ?_;rintro e w2 ⟨rfl,rfl⟩))
    go_roundw
    case rel=>exact⟨k+2,p,by have:=h2.out;omega,by go_num,by omega,Pl.unf_fold _ p _ k Hf.out hp,hown,hb⟩
    case measure=>simp[Lib.intOf];omega
   ·rw[Bool.not_eq_true] at hf
    have Hf:Hid (Pl.fold s.data.toList k=false):=hf
    simp only[hf] at hc
    clear hf
    go_wp2_with (first|(go_at_call 82;go_must (refine(hc _).mono ?_;rintro e w2 ⟨rfl,rfl⟩))|(at_builtin;go_must (refine wp_app (W:=w) rfl _ _ 22 rfl i0 Tryz.underlying22 hi hz0 hz1 hz2 w.heap.size u3 p rfl hown _ [s[k]] rfl 1 1 rfl rfl (by simp;omega) (Nat.le_refl _) hb ?_;intro v' w' hown' hb')))
    go_roundw
    case rel=>exact⟨k+1,_,by omega,by go_num,by simp;omega,Pl.unf_other _ p _ k (by simpa using hlt) Hf.out hp,hown',hb'⟩
    case measure=>simp[Lib.intOf];omega
  ·have hpn:Hid (p=Pl.unf false s.data.toList):=Pl.unf_done _ p _ k (by simp;omega) hp
   clear hp
   have hbk:=hown.back (P:=Tryz.prog) 22 9 Tryz.underlying22 Tryz.underlying5 Tryz.underlying9
   go_wp2
   go_ret
   rw[← hpn.out]
   exact⟨rfl,hb⟩
theorem implUnfolded (s:ByteArray)(w:World)(hs:s.size≤1100000) :
  Calls Tryz.prog 110 #[.string s] w fun e w'=>e=.returned (.string ⟨(Pl.unf false s.data.toList).toArray⟩)∧Below w.heap.size w w':=by
 obtain⟨i0,hi,hz0,hz1,hz2⟩:=info_parts Tryz.info5
 go_enter Tryz.func110,Tryz.ntmps110
 go_wp2
 go_loopw [3,4] (fun v i wr=>∃ (k:Nat) (p:List UInt8),k≤s.size∧i=.int .i64 k∧p.length≤k∧Hid (p++Pl.unf false (s.data.toList.drop k)=Pl.unf false s.data.toList)∧Own w.heap.size v p wr∧Below w.heap.size w wr) (fun _ i _=>s.size-(Lib.intOf i).toNat)
 case atStart=>exact⟨0,[],Nat.zero_le _,rfl,by simp,rfl,Own.nil _ _,Below.refl _ _⟩
 case round=>
  obtain⟨k,p,hk,rfl,hpl,hp,hown,hb⟩:=hrel
  by_cases hlt:k<s.size
  ·have h8:s[k].toNat<256:=UInt8.toNat_lt _
   have hc:=fun w=>implFoldAt s k w hs hk
   by_cases hf:Pl.fold s.data.toList k=true
   ·have h2:Hid (k+2<s.size):=show k+2<s.size from by simpa using Pl.fold_lt _ _ hf
    have Hf:Hid (Pl.fold s.data.toList k=true):=hf
    simp only[hf] at hc
    clear hf
    go_wp2_with (go_at_call 169;go_must (refine(hc _).mono ?_;rintro e w2 ⟨rfl,rfl⟩))
    go_roundw
    case rel=>exact⟨k+2,p,by have:=h2.out;omega,by go_num,by omega,Pl.unf_fold _ p _ k Hf.out hp,hown,hb⟩
    case measure=>simp[Lib.intOf];omega
   ·rw[Bool.not_eq_true] at hf
    have Hf:Hid (Pl.fold s.data.toList k=false):=hf
    simp only[hf] at hc
    clear hf
    go_wp2_with (first|(go_at_call 169;go_must (refine(hc _).mono ?_;rintro e w2 ⟨rfl,rfl⟩))|(at_builtin;go_must (refine wp_app (W:=w) rfl _ _ 22 rfl i0 Tryz.underlying22 hi hz0 hz1 hz2 w.heap.size u3 p rfl hown _ [s[k]] rfl 1 1 rfl rfl (by simp;omega) (Nat.le_refl _) hb ?_;intro v' w' hown' hb')))
    go_roundw
    case rel=>exact⟨k+1,_,by omega,by go_num,by simp;omega,Pl.unf_other _ p _ k (by simpa using hlt) Hf.out hp,hown',hb'⟩
    case measure=>simp[Lib.intOf];omega
  ·have hpn:Hid (p=Pl.unf false s.data.toList):=Pl.unf_done _ p _ k (by simp;omega) hp
   clear hp
   have hbk:=hown.back (P:=Tryz.prog) 22 9 Tryz.underlying22 Tryz.underlying5 Tryz.underlying9
   go_wp2
   go_ret
   rw[← hpn.out]
   exact⟨rfl,hb⟩
namespace Pl
def nb (c:UInt8):Bool:=decide (33≤c.toNat) && (decide (c.toNat≤126) && !(c==58))
def nameOk (l:List UInt8):Bool:=!l.isEmpty && (decide (l.length≤70) && l.all nb)
def okF (f:ByteArray × ByteArray):Bool:=decide (f.2.size≤100000) && (nameOk f.1.data.toList && val f.2.data.toList)
def line (f:ByteArray × ByteArray):List UInt8:=f.1.data.toList ++ [58]++f.2.data.toList ++ [13,10]
def hd:List UInt8→List (ByteArray × ByteArray)→List UInt8
 | out,[]=>out
 | out,f::r=>if okF f then (if 100000<(out++line f).length then [] else hd (out++line f) r) else []
theorem hd_bad (p x:List UInt8)(F:List (ByteArray × ByteArray))(k:Nat)(hk:k<F.length)(h:okF F[k]=false)(hp:hd p (F.drop k)=x):x=[]:=by
 rw[List.drop_eq_getElem_cons hk,hd,if_neg (by rw[h];simp)] at hp
 exact hp.symm
theorem hd_long (p x:List UInt8)(F:List (ByteArray × ByteArray))(k:Nat)(hk:k<F.length)(h:okF F[k]=true)(hl:100000<(p++line F[k]).length)(hp:hd p (F.drop k)=x):x=[]:=by
 rw[List.drop_eq_getElem_cons hk,hd,if_pos h,if_pos hl] at hp
 exact hp.symm
theorem hd_step (p x:List UInt8)(F:List (ByteArray × ByteArray))(k:Nat)(hk:k<F.length)(h:okF F[k]=true)(hl:¬100000<(p++line F[k]).length)(hp:hd p (F.drop k)=x):hd (p++line F[k]) (F.drop (k+1))=x:=by
 rw[List.drop_eq_getElem_cons hk,hd,if_pos h,if_neg hl] at hp
 exact hp
theorem hd_done (p x:List UInt8)(F:List (ByteArray × ByteArray))(k:Nat)(hk:F.length≤k)(hp:hd p (F.drop k)=x):x=p:=by
 rw[List.drop_eq_nil_of_le hk,hd] at hp
 exact hp.symm
theorem okF_size (f:ByteArray × ByteArray)(h:¬f.2.size≤100000):okF f=false:=by simp[okF,h]
theorem okF_name (f:ByteArray × ByteArray)(h:nameOk f.1.data.toList=false):okF f=false:=by simp[okF,h]
theorem okF_val (f:ByteArray × ByteArray)(h:val f.2.data.toList=false):okF f=false:=by simp[okF,h]
theorem okF_mk (f:ByteArray × ByteArray)(h:f.2.size≤100000)(h1:nameOk f.1.data.toList=true)(h2:val f.2.data.toList=true):okF f=true:=by simp[okF,h,h1,h2]
theorem nameOk_size (f:ByteArray)(h:nameOk f.data.toList=true):f.size≤70:=by
 simp[nameOk] at h
 exact h.2.1
theorem line_len (f:ByteArray × ByteArray):(line f).length=f.1.size+f.2.size+3:=by simp[line];omega
end Pl
theorem Own.beside {B:Nat} {v:Value} {p:List UInt8} {w:World} (h:Own B v p w) {fv:Nat} {cs:Array Value} {t:TypeId} {z:Nat × Nat} (ht:t≠5)(hf:w.heap[fv]?=some (.cells cs t z)):v.ownBlock≠some fv:=by
 intro e
 rcases h.2 with ⟨rfl,-⟩|⟨g,cap,cur,rfl,-,hg,-⟩
 ·cases e
 ·cases e
  rw[hf] at hg
  simp only[Option.some.injEq,Obj.cells.injEq] at hg
  exact ht hg.2.1
theorem grown_beside {w w':World} {row:Option Nat} (hg:w.grownBy w' row) {fv:Nat} {ob:Obj} (hf:w.heap[fv]?=some ob)(hne:row≠some fv):w'.heap[fv]?=some ob:=by
 have hlt:fv<w.heap.size:=by
  by_cases h:fv<w.heap.size
  ·exact h
  ·rw[Array.getElem?_eq_none (by omega)] at hf;cases hf
 rw[← hf]
 exact hg.block fv hlt (fun e=>hne e.symm)
theorem wp_app_v {P:Program} {W w:World} {ops:Array Oper} {rest:List Oper} {o:Oper} {a:Act} {Q:Exit→Act→World→Prop} (hgd:o.guard=none)(s x:Operand)(t:TypeId)
  (ho:o.op=.call { callee:=.builtin .append,args:=#[s,x],argTypes:=#[t,t] })
  (i:TypeInfo) (ht:P.underlying t=some (.slice 5)) (hi:P.info? 5=some i) (hz:i.zero=some (.int .u8 0)) (hsize:i.size=1) (hby:i.bytes=1)
  (B:Nat) (v:Value) (p:List UInt8) (hs:a.eval s=v) (hown:Own B v p w) (cs:Array Value) (news:List UInt8) (hcs:cs.toList=byteCells news)
  (n c:Nat) (hn:n=news.length) (hx:a.eval x=.slice (some ⟨w.heap.size,0,none⟩) n c) (hlen:p.length+news.length≤140737488355328) (hB:B≤W.heap.size) (hb:Below B W w)
  (fv:Nat) (ob:Array Value) (tv:TypeId) (z:Nat × Nat) (htv:tv≠5) (hfv:w.heap[fv]?=some (.cells ob tv z))
  (h:∀v' w',Own B v' (p++news) w'→Below B W w'→w'.heap[fv]?=some (.cells ob tv z)→wpList P ops Q rest (a.put o.dst v') w'):wpList P ops Q (o::rest) a (w.alloc (.cells cs 5)):=by
 subst hn
 have hsz:=hb.size
 have hlt:fv<w.heap.size:=by
  by_cases h:fv<w.heap.size
  ·exact h
  ·rw[Array.getElem?_eq_none (by omega)] at hfv;cases hfv
 refine wpList_append_own _ hgd s x t ho B 5 i (.int .u8 0) 1 1 ht hi hz hsize hby rfl (by decide) v p.length (byteCells p) hs (hown.alloc _) ⟨w.heap.size,0,none⟩ news.length c (byteCells news) hx
  (by rw[byteCells_length,Nat.mul_one]) ?_ ?_ (by unfold maxLen;omega) (by omega) (by simp;omega) ?_
 ·intro j u hj
  have e2:cs[j]?=some u:=by rw[← Array.getElem?_toList,hcs];exact hj
  rw[add_off]
  simp[e2]
 ·intro u hu
  simp only[byteCells,List.mem_map] at hu
  obtain⟨b,-,rfl⟩:=hu
  rfl
 ·intro v' w' h1 h2 _
  refine h v' w' ?_ ?_ ?_
  ·unfold Own
   rw[byteCells_append,List.length_append]
   exact h1
  ·exact(hb.alloc (by omega) _).grown h2 (by simp;omega) (fun k hk=>(World.ownsRow.lt hown k hk).1)
  ·exact grown_beside h2 ((Below.heap_alloc w _ fv hlt).trans hfv) (hown.beside htv hfv)
theorem wp_apps_v {P:Program} {W w:World} {ops:Array Oper} {rest:List Oper} {o:Oper} {a:Act} {Q:Exit→Act→World→Prop} (hgd:o.guard=none)(s x:Operand)(t u:TypeId)
  (ho:o.op=.call { callee:=.builtin .append,args:=#[s,x],argTypes:=#[t,u] })
  (i:TypeInfo) (ht:P.underlying t=some (.slice 5)) (hu:P.underlying u=some .string) (hi:P.info? 5=some i) (hz:i.zero=some (.int .u8 0)) (hsize:i.size=1) (hby:i.bytes=1)
  (B:Nat) (v:Value) (p:List UInt8) (hs:a.eval s=v) (hown:Own B v p w) (news:ByteArray)
  (hx:a.eval x=.string news) (hlen:p.length+news.size≤140737488355328) (hB:B≤W.heap.size) (hb:Below B W w)
  (fv:Nat) (ob:Array Value) (tv:TypeId) (z:Nat × Nat) (htv:tv≠5) (hfv:w.heap[fv]?=some (.cells ob tv z))
  (h:∀v' w',Own B v' (p++news.data.toList) w'→Below B W w'→w'.heap[fv]?=some (.cells ob tv z)→wpList P ops Q rest (a.put o.dst v') w'):wpList P ops Q (o::rest) a w:=by
 have hsz:=hb.size
 refine wpList_append_own_string _ hgd s x t u ho B 5 i ht hu hi hz hsize hby v p.length (byteCells p) hs hown news hx (by unfold maxLen;omega) hlen (by omega) ?_
 intro v' w' h1 h2 _
 refine h v' w' ?_ ?_ ?_
 ·unfold Own
  rw[byteCells_append,List.length_append]
  exact h1
 ·exact hb.grown h2 (by omega) (fun k hk=>(World.ownsRow.lt hown k hk).1)
 ·exact grown_beside h2 hfv (hown.beside htv hfv)
theorem nb_cases (c:UInt8):c.toNat<33∧Pl.nb c=false∨33≤c.toNat∧126<c.toNat∧Pl.nb c=false∨33≤c.toNat∧c.toNat≤126∧((c.toNat:Int)==58)=true∧Pl.nb c=false∨33≤c.toNat∧c.toNat≤126∧((c.toNat:Int)==58)=false∧Pl.nb c=true:=by
 by_cases h1:c.toNat<33
 ·exact .inl ⟨h1,by simp[Pl.nb];omega⟩
 ·by_cases h2:126<c.toNat
  ·exact .inr (.inl ⟨by omega,h2,by simp[Pl.nb];omega⟩)
  ·cases h3:((c.toNat:Int)==58)
   ·refine .inr (.inr (.inr ⟨by omega,by omega,rfl,?_⟩))
    have:=Pl.byte_ne c 58 _ rfl h3
    simp[Pl.nb,this];omega
   ·refine .inr (.inr (.inl ⟨by omega,by omega,rfl,?_⟩))
    rw[Pl.byte_eq c 58 _ rfl h3];rfl
theorem implNameByte (c:UInt8)(w:World):Calls Tryz.prog 123 #[.int .u8 (c.toNat:Int)] w fun e w'=>e=.returned (.bool (Pl.nb c))∧w=w':=by
 have h8:c.toNat<256:=UInt8.toNat_lt _
 rcases nb_cases c with ⟨h,hb⟩|⟨h,h1,hb⟩|⟨h,h1,h2,hb⟩|⟨h,h1,h2,hb⟩<;>rw[hb]<;>clear hb
 ·go_enter Tryz.func123,Tryz.ntmps123
  go_wp2
  go_ret
  exact⟨rfl,rfl⟩
 ·go_enter Tryz.func123,Tryz.ntmps123
  go_wp2
  go_ret
  exact⟨rfl,rfl⟩
 ·have h3:((c.toNat:Int) != 58)=false:=by rw[bne,h2];rfl
  go_enter Tryz.func123,Tryz.ntmps123
  go_wp2
  go_ret
  exact⟨rfl,rfl⟩
 ·have h3:((c.toNat:Int) != 58)=true:=by rw[bne,h2];rfl
  go_enter Tryz.func123,Tryz.ntmps123
  go_wp2
  go_ret
  exact⟨rfl,rfl⟩
theorem kindName:Kind 123 Pl.nb:=⟨Go.Proofs.enters_of Tryz.func123 (by kernel_rfl) rfl,implNameByte⟩
theorem implFieldName (s:ByteArray)(w:World)(hs:s.size≤1100000) :
  Calls Tryz.prog 80 #[.string s] w fun e w'=>e=.returned (.bool (Pl.nameOk s.data.toList))∧w=w':=by
 by_cases h0:s.size=0
 ·have hE:s.toList.isEmpty=true:=by
   rw[ByteArray.toList_eq,List.isEmpty_iff]
   exact List.length_eq_zero_iff.1 (by rw[Pl.len_list];exact h0)
  rw[show Pl.nameOk s.data.toList=false from by rw[ByteArray.toList_eq] at hE;simp[Pl.nameOk,hE]]
  go_enter Tryz.func80,Tryz.ntmps80
  go_wp2
  go_ret
  exact⟨rfl,rfl⟩
 ·have hE:s.toList.isEmpty=false:=by
   rw[ByteArray.toList_eq,List.isEmpty_eq_false_iff]
   intro e
   exact h0 (by rw[← Pl.len_list,e];rfl)
  by_cases h70:s.size≤70
  ·have hc:=fun w=>implAllOf kindName s w hs
   rw[show Pl.nameOk s.data.toList=s.data.toList.all Pl.nb from by rw[ByteArray.toList_eq] at hE;simp[Pl.nameOk,hE,h70]]
   generalize s.data.toList.all Pl.nb=b at hc ⊢
   go_enter Tryz.func80,Tryz.ntmps80
   go_wp2_with fail
   refine(hc _).mono ?_
   rintro e w2 ⟨rfl,rfl⟩
   go_wp2
   go_ret
   exact⟨rfl,rfl⟩
  ·rw[show Pl.nameOk s.data.toList=false from by rw[ByteArray.toList_eq] at hE;simp[Pl.nameOk];omega]
   go_enter Tryz.func80,Tryz.ntmps80
   go_wp2
   go_ret
   exact⟨rfl,rfl⟩
theorem implFieldValue (s:ByteArray)(w:World)(hs:s.size≤1100000) :
  Calls Tryz.prog 81 #[.string s] w fun e w'=>e=.returned (.bool (Pl.val s.data.toList))∧Below w.heap.size w w':=by
 have hl:(ByteArray.mk (Pl.unf false s.data.toList).toArray).size≤1100000:=by
  have:=Pl.unf_len s.data.toList false
  rw[Pl.len_list] at this
  show(Pl.unf false s.data.toList).toArray.size≤1100000
  rw[List.size_toArray]
  omega
 have hc:=fun w=>implAllOf kindLine ⟨(Pl.unf false s.data.toList).toArray⟩ w hl
 go_enter Tryz.func81,Tryz.ntmps81
 go_wp2_with fail
 refine(implUnfolded s _ hs).mono ?_
 rintro e w2 ⟨rfl,hb⟩
 go_wp2_with fail
 refine(hc _).mono ?_
 rintro e w3 ⟨rfl,rfl⟩
 go_wp2
 go_ret
 exact⟨by simp[Pl.val],hb⟩
theorem specName (s:ByteArray)(w:World)(_hs:s.size≤1100000) :
  Calls Tryz.prog 35 #[.string s] w fun e w'=>e=.returned (.bool (Pl.nameOk s.data.toList))∧w=w':=by
 by_cases h0:s.size=0
 ·have hE:s.data.toList.isEmpty=true:=by
   rw[List.isEmpty_iff]
   exact List.length_eq_zero_iff.1 (by rw[Pl.len_list];exact h0)
  rw[show Pl.nameOk s.data.toList=false from by simp[Pl.nameOk,hE]]
  clear hE
  go_enter Tryz.func35,Tryz.ntmps35
  go_wp2
  go_ret
  exact⟨rfl,rfl⟩
 ·have hE:s.data.toList.isEmpty=false:=by
   rw[List.isEmpty_eq_false_iff]
   intro e
   exact h0 (by rw[← Pl.len_list,e];rfl)
  by_cases h70:s.size≤70
  ·rw[show Pl.nameOk s.data.toList=s.data.toList.all Pl.nb from by simp[Pl.nameOk,hE,h70]]
   clear hE
   obtain⟨A,hA⟩:∃A,s.data.toList.all Pl.nb=A:=⟨_,rfl⟩
   rw[hA]
   have HA:Hid ((s.data.toList.drop 0).all Pl.nb=A):=hA
   clear hA
   have hz:((s.size:Int)==0)=false:=by rw[Bool.eq_false_iff];intro e;have:=beq_iff_eq.1 e;omega
   have hz7:decide ((70:Int)<(s.size:Int))=false:=by simp;omega
   go_enter Tryz.func35,Tryz.ntmps35
   go_wp2
   go_loopw [3] (fun i wr=>∃ k:Nat,k≤s.size∧i=.int .i64 k∧Hid ((s.data.toList.drop k).all Pl.nb=A)∧wr=w) (fun i _=>s.size-(Lib.intOf i).toNat)
   case atStart=>exact⟨0,Nat.zero_le _,rfl,HA,rfl⟩
   case round=>
    clear HA
    obtain⟨k,hk,rfl,hp,rfl⟩:=hrel
    by_cases hlt:k<s.size
    ·have h8:s[k].toNat<256:=UInt8.toNat_lt _
     have hst:Hid ((s.data.toList.drop k).all Pl.nb=(Pl.nb s[k] && (s.data.toList.drop (k+1)).all Pl.nb)):=Pl.all_step Pl.nb s.data.toList k (by simpa using hlt)
     have bad:Pl.nb s[k]=false→Hid (A=false):=by
      intro h
      have:=hst.out
      rw[h,Bool.false_and,hp.out] at this
      exact this
     rcases nb_cases s[k] with ⟨h,hb⟩|⟨h,h1,hb⟩|⟨h,h1,h2,hb⟩|⟨h,h1,h2,hb⟩
     ·have hB:=bad hb
      clear bad hb hst hp
      go_wp2
      go_ret
      exact⟨by rw[hB.out];rfl,rfl⟩
     ·have hB:=bad hb
      clear bad hb hst hp
      go_wp2
      go_ret
      exact⟨by rw[hB.out];rfl,rfl⟩
     ·have hB:=bad hb
      clear bad hb hst hp
      go_wp2
      go_ret
      exact⟨by rw[hB.out];rfl,rfl⟩
     ·have hg:Hid ((s.data.toList.drop (k+1)).all Pl.nb=A):=show _=_ from by
       have:=hst.out
       rw[hb,Bool.true_and,hp.out] at this
       exact this.symm
      clear bad hb hst hp
      go_wp2
      go_roundw
      case rel=>exact⟨k+1,by omega,by go_num,hg,trivial⟩
      case measure=>simp[Lib.intOf];omega
    ·have H0:Hid (A=true):=show _=_ from by rw[← hp.out];exact Pl.all_done Pl.nb _ k (by simp;omega)
     clear hp
     go_wp2
     go_ret
     exact⟨by rw[H0.out];rfl,rfl⟩
  ·rw[show Pl.nameOk s.data.toList=false from by simp[Pl.nameOk];omega]
   clear hE
   go_enter Tryz.func35,Tryz.ntmps35
   go_wp2
   go_ret
   exact⟨rfl,rfl⟩
theorem specValue (s:ByteArray)(w:World)(hs:s.size≤1100000) :
  Calls Tryz.prog 36 #[.string s] w fun e w'=>e=.returned (.bool (Pl.val s.data.toList))∧w=w':=by
 go_enter Tryz.func36,Tryz.ntmps36
 go_wp2
 go_loopw [3] (fun i wr=>∃ k:Nat,k≤s.size∧i=.int .i64 k∧Hid (Pl.val (s.data.toList.drop k)=Pl.val s.data.toList)∧wr=w) (fun i _=>s.size-(Lib.intOf i).toNat)
 case atStart=>exact⟨0,Nat.zero_le _,rfl,rfl,rfl⟩
 case round=>
  obtain⟨k,hk,rfl,hp,rfl⟩:=hrel
  by_cases hlt:k<s.size
  ·have h8:s[k].toNat<256:=UInt8.toNat_lt _
   have hc:=fun w=>specFold3 s k w hs hk
   by_cases hf:Pl.fold s.data.toList k=true
   ·have h2:Hid (k+2<s.size):=show k+2<s.size from by simpa using Pl.fold_lt _ _ hf
    have Hf:Hid (Pl.val (s.data.toList.drop (k+2))=Pl.val s.data.toList):=show _=_ from (Pl.val_fold _ k hf).trans hp.out
    simp only[hf] at hc
    clear hf
    go_wp2_with (go_at_call 82;go_must (refine(hc _).mono ?_;rintro e w2 ⟨rfl,rfl⟩))
    go_roundw
    case rel=>exact⟨k+2,by have:=h2.out;omega,by go_num,Hf,trivial⟩
    case measure=>simp[Lib.intOf];omega
   ·rw[Bool.not_eq_true] at hf
    have Hst:Hid (Pl.val s.data.toList=(Pl.lb s[k] && Pl.val (s.data.toList.drop (k+1)))):=show _=_ from hp.out.symm.trans (Pl.val_other s.data.toList k (by simpa using hlt) hf)
    simp only[hf] at hc
    clear hf hp
    cases h13:((s[k].toNat:Int)==13)
    ·cases h10:((s[k].toNat:Int)==10)
     ·have hg:Hid (Pl.val (s.data.toList.drop (k+1))=Pl.val s.data.toList):=show _=_ from by
       rw[Hst.out,show Pl.lb s[k]=true from by simp[Pl.lb,Pl.byte_ne _ 13 _ rfl h13,Pl.byte_ne _ 10 _ rfl h10],Bool.true_and]
      clear Hst
      go_wp2_with (go_at_call 82;go_must (refine(hc _).mono ?_;rintro e w2 ⟨rfl,rfl⟩))
      go_roundw
      case rel=>exact⟨k+1,by omega,by go_num,hg,trivial⟩
      case measure=>simp[Lib.intOf];omega
     ·have hB:Hid (Pl.val s.data.toList=false):=show _=_ from by rw[Hst.out,Pl.byte_eq _ 10 _ rfl h10];rfl
      clear Hst
      go_wp2_with (go_at_call 82;go_must (refine(hc _).mono ?_;rintro e w2 ⟨rfl,rfl⟩))
      go_ret
      first|exact⟨by rw[hB.out];rfl,rfl⟩|exact⟨rfl,rfl⟩
    ·have hB:Hid (Pl.val s.data.toList=false):=show _=_ from by rw[Hst.out,Pl.byte_eq _ 13 _ rfl h13];rfl
     clear Hst
     go_wp2_with (go_at_call 82;go_must (refine(hc _).mono ?_;rintro e w2 ⟨rfl,rfl⟩))
     go_ret
     first|exact⟨by rw[hB.out];rfl,rfl⟩|exact⟨rfl,rfl⟩
  ·have H0:Hid (Pl.val s.data.toList=true):=show _=_ from by rw[← hp.out];exact Pl.val_done _ k (by simp;omega)
   clear hp
   go_wp2
   go_ret
   exact⟨by rw[H0.out];rfl,rfl⟩
namespace Pl
def find (P:Nat→Bool):Nat→Nat→Nat
 | 0,k=>k
 | f+1,k=>if P k then k else find P f (k+1)
def first (P:Nat→Bool)(n k:Nat):Nat:=find P (n-k) k
theorem first_end (P:Nat→Bool)(n k:Nat)(h:n≤k):first P n k=k:=by
 unfold first;rw[show n-k=0 by omega];rfl
theorem first_hit (P:Nat→Bool)(n k:Nat)(h:P k=true):first P n k=k:=by
 unfold first
 cases n-k with
 | zero=>rfl
 | succ f=>rw[find,if_pos h]
theorem first_miss (P:Nat→Bool)(n k:Nat)(hk:k<n)(h:P k=false):first P n (k+1)=first P n k:=by
 unfold first
 obtain⟨f,hf⟩:∃f,n-k=f+1:=⟨n-k-1,by omega⟩
 rw[hf,find,if_neg (by rw[h];simp),show n-(k+1)=f by omega]
theorem first_spec (P:Nat→Bool)(n:Nat):∀(d k:Nat),n-k=d→k≤n→k≤first P n k∧first P n k≤n∧(∀j,k≤j→j<first P n k→P j=false)∧(first P n k<n→P (first P n k)=true)
 | 0,k,hd,hk=>by
  rw[first_end P n k (by omega)]
  exact⟨Nat.le_refl _,hk,fun j h1 h2=>by omega,fun h=>by omega⟩
 | d+1,k,hd,hk=>by
  cases hp:P k
  ·obtain⟨h1,h2,h3,h4⟩:=first_spec P n d (k+1) (by omega) (by omega)
   rw[first_miss P n k (by omega) hp] at h1 h2 h3 h4
   refine⟨by omega,h2,fun j h5 h6=>?_,h4⟩
   by_cases hj:j=k
   ·rw[hj];exact hp
   ·exact h3 j (by omega) h6
  ·rw[first_hit P n k hp]
   exact⟨Nat.le_refl _,hk,fun j h1 h2=>by omega,fun _=>hp⟩
theorem first_ge (P:Nat→Bool)(n k:Nat)(h:k≤n):k≤first P n k:=(first_spec P n _ k rfl h).1
theorem first_le (P:Nat→Bool)(n k:Nat)(h:k≤n):first P n k≤n:=(first_spec P n _ k rfl h).2.1
theorem first_none (P:Nat→Bool)(n k:Nat)(h:k≤n)(j:Nat)(h1:k≤j)(h2:j<first P n k):P j=false:=(first_spec P n _ k rfl h).2.2.1 j h1 h2
theorem first_is (P:Nat→Bool)(n k:Nat)(h:k≤n)(h1:first P n k<n):P (first P n k)=true:=(first_spec P n _ k rfl h).2.2.2 h1
theorem first_eq (P:Nat→Bool)(n k m:Nat)(hk:k≤m)(hm:m≤n)(h1:∀j,k≤j→j<m→P j=false)(h2:m<n→P m=true):first P n k=m:=by
 have a:=first_ge P n k (by omega)
 have b:=first_le P n k (by omega)
 have c:=first_none P n k (by omega)
 have d:=first_is P n k (by omega)
 by_cases h:first P n k<m
 ·have:=h1 _ a h
  rw[d (by omega)] at this
  cases this
 ·by_cases h':m<first P n k
  ·have:=c m hk h'
   rw[h2 (by omega)] at this
   cases this
  ·omega
def b (l:List UInt8)(j:Nat):UInt8:=l.getD j 0
theorem b_lt (l:List UInt8)(j:Nat)(h:j<l.length):b l j=l[j]:=getD_lt l j h
def stop (K:UInt8→Bool)(l:List UInt8)(k:Nat):Nat:=first (fun j=>!K (b l j)) l.length k
def le (l:List UInt8)(k:Nat):Nat:=first (crlf l) l.length k
def fe (l:List UInt8)(k:Nat):Nat:=first (fun j=>crlf l j && !fold l j) l.length k
def colon (l:List UInt8)(e k:Nat):Nat:=first (fun j=>b l j==58) e k
def nx (l:List UInt8)(e:Nat):Nat:=if e<l.length then e+2 else l.length
def sl (l:List UInt8)(i j:Nat):List UInt8:=(l.drop i).take (j-i)
def trimR:List UInt8→List UInt8:=fun l=>(l.reverse.dropWhile blank).reverse
def vend (l:List UInt8):Nat→Nat→Nat→Nat × Nat
 | 0,cur,beg=>(cur,beg)
 | f+1,cur,beg=>if fold l (stop lb l cur) then vend l f (stop lb l cur+2) (stop lb l cur+2) else (stop lb l cur,beg)
abbrev FieldR:=Sum Nat (List UInt8 × List UInt8 × Nat)
def nameGood (l:List UInt8)(k:Nat):Bool:=nameOk (sl l k (stop nb l k)) && (decide (stop blank l (stop nb l k)<l.length) && b l (stop blank l (stop nb l k))==58)
def implF (l:List UInt8)(k:Nat):FieldR:=
 if nameGood l k then
  let from_:=stop blank l (stop nb l k)+1
  let v:=vend l (l.length+1) from_ k
  if l.length≤v.1 then .inr (sl l k (stop nb l k),sl l from_ l.length,l.length)
  else if crlf l v.1 then .inr (sl l k (stop nb l k),sl l from_ v.1,v.1+2) else .inl v.2
 else .inl k
def whr (l:List UInt8)(e beg:Nat):Nat→Nat→Nat→Nat
 | 0,_,_=>beg
 | f+1,k,from_=>
  if k<e then
   if first (fun j=>!lb (b l j)) (min (le l k) e) from_<min (le l k) e then k else whr l e beg f (nx l (le l k)) (nx l (le l k))
  else beg
def specF (l:List UInt8)(k:Nat):FieldR:=
 let e:=fe l k
 let c:=colon l e k
 if decide (le l k≤c) || !nameOk (trimR (sl l k c)) then .inl k
 else if val (sl l (c+1) e) then .inr (trimR (sl l k c),sl l (c+1) e,nx l e) else .inl (whr l e k (l.length+1) k (c+1))
end Pl
namespace Pl
theorem stop_ge (K:UInt8→Bool)(l:List UInt8)(k:Nat)(h:k≤l.length):k≤stop K l k:=first_ge _ _ _ h
theorem stop_le (K:UInt8→Bool)(l:List UInt8)(k:Nat)(h:k≤l.length):stop K l k≤l.length:=first_le _ _ _ h
theorem stop_all (K:UInt8→Bool)(l:List UInt8)(k:Nat)(h:k≤l.length)(j:Nat)(h1:k≤j)(h2:j<stop K l k):K (b l j)=true:=by
 have:=first_none (fun j=>!K (b l j)) l.length k h j h1 h2
 simpa using this
theorem stop_not (K:UInt8→Bool)(l:List UInt8)(k:Nat)(h:k≤l.length)(h1:stop K l k<l.length):K (b l (stop K l k))=false:=by
 have:=first_is (fun j=>!K (b l j)) l.length k h h1
 change (!K (b l (stop K l k)))=true at this
 simpa using this
theorem stop_eq (K:UInt8→Bool)(l:List UInt8)(k m:Nat)(hk:k≤m)(hm:m≤l.length)(h1:∀j,k≤j→j<m→K (b l j)=true)(h2:m<l.length→K (b l m)=false):stop K l k=m:=
 first_eq _ _ _ _ hk hm (fun j a c=>by rw[h1 j a c];rfl) (fun h=>by rw[h2 h];rfl)
theorem crlf_b (l:List UInt8)(j:Nat)(h:crlf l j=true):b l j=13∧b l (j+1)=10∧j+1<l.length:=by
 obtain⟨h0,h1,h2⟩:=(crlf_iff l j).1 h
 exact⟨by rw[b_lt l j (by omega)];exact h1,by rw[b_lt l (j+1) h0];exact h2,h0⟩
theorem fold_crlf (l:List UInt8)(j:Nat)(h:fold l j=true):crlf l j=true:=by
 unfold fold at h
 rw[Bool.and_eq_true] at h
 exact h.1
theorem fold_b (l:List UInt8)(j:Nat)(h:fold l j=true):blank (b l (j+2))=true∧j+2<l.length:=by
 obtain⟨h0,-,-,h3⟩:=(fold_iff l j).1 h
 exact⟨by rw[b_lt l (j+2) h0];exact h3,h0⟩
theorem no_crlf (l:List UInt8)(j:Nat)(h:b l j≠13):crlf l j=false:=by
 rw[Bool.eq_false_iff]
 intro e
 exact h (crlf_b l j e).1
theorem lb_13 (c:UInt8)(h:lb c=true):c≠13:=by rintro rfl;cases h
theorem nb_13 (c:UInt8)(h:nb c=true):c≠13:=by rintro rfl;revert h;decide
theorem nb_58 (c:UInt8)(h:nb c=true):c≠58:=by rintro rfl;revert h;decide
theorem blank_13 (c:UInt8)(h:blank c=true):c≠13:=by rintro rfl;revert h;decide
theorem blank_58 (c:UInt8)(h:blank c=true):c≠58:=by rintro rfl;revert h;decide
theorem nb_blank (c:UInt8)(h:nb c=true):blank c=false:=by
 rw[Bool.eq_false_iff]
 intro e
 simp only[blank,Bool.or_eq_true,beq_iff_eq] at e
 rcases e with rfl|rfl<;>revert h<;>decide
theorem first_skip (P:Nat→Bool)(n k m:Nat)(hk:k≤m)(hm:m≤n)(h:∀j,k≤j→j<m→P j=false):first P n k=first P n m:=by
 refine first_eq P n k _ (Nat.le_trans hk (first_ge P n m hm)) (first_le P n m hm) (fun j h1 h2=>?_) (first_is P n m hm)
 by_cases hj:j<m
 ·exact h j h1 hj
 ·exact first_none P n m hm j (by omega) h2
theorem le_fe (l:List UInt8)(k:Nat)(h:k≤l.length):le l k≤fe l k:=by
 by_cases hc:fe l k<le l k
 ·have h1:=first_none (crlf l) l.length k h (fe l k) (first_ge _ _ _ h) hc
  have hlt:fe l k<l.length:=by have:=first_le (crlf l) l.length k h;unfold le at hc;omega
  have h2:=first_is (fun j=>crlf l j && !fold l j) l.length k h hlt
  rw[Bool.and_eq_true] at h2
  change crlf l (fe l k)=true∧_ at h2
  rw[h1] at h2
  cases h2.1
 ·omega
theorem val_run (L:List UInt8):∀(d i k:Nat),i-k=d→k≤i→i≤L.length→(∀j,k≤j→j<i→lb (b L j)=true)→val (L.drop k)=val (L.drop i)
 | 0,i,k,hd,hk,_,_=>by rw[show i=k by omega]
 | d+1,i,k,hd,hk,hi,h=>by
  have hb:=h k (Nat.le_refl _) (by omega)
  have hf:fold L k=false:=by
   rw[Bool.eq_false_iff]
   intro e
   exact lb_13 _ hb (crlf_b L k (fold_crlf L k e)).1
  rw[val_other L k (by omega) hf,← b_lt L k (by omega),hb,Bool.true_and]
  exact val_run L d i (k+1) (by omega) (by omega) hi (fun j h1 h2=>h j (by omega) h2)
theorem b_take (l:List UInt8)(e j:Nat)(h:j<e):b (l.take e) j=b l j:=by
 unfold b
 rw[List.getD_eq_getElem?_getD,List.getD_eq_getElem?_getD,List.getElem?_take_of_lt h]
theorem sl_take (l:List UInt8)(k e:Nat):sl l k e=(l.take e).drop k:=by
 unfold sl
 rw[List.drop_take]
theorem fold_take (l:List UInt8)(e j:Nat)(h:j+2<e):fold (l.take e) j=fold l j:=by
 unfold fold crlf blankAt
 rw[List.drop_take,List.take_take,List.getElem?_take_of_lt h,Nat.min_eq_left (by omega)]
theorem fold_take_of (l:List UInt8)(e j:Nat)(h:fold (l.take e) j=true):fold l j=true:=by
 have:=fold_lt _ _ h
 rw[List.length_take] at this
 rw[← fold_take l e j (by omega)]
 exact h
theorem vend_spec (l:List UInt8)(e B:Nat):∀(f g cur beg:Nat),l.length+1≤f+cur→l.length+1≤g+beg→beg≤cur→cur≤l.length→fe l cur=e→le l beg=le l cur →
  (l.length≤(vend l f cur beg).1→(vend l f cur beg).1=l.length∧e=l.length∧val (sl l cur e)=true) ∧
  ((vend l f cur beg).1<l.length→crlf l (vend l f cur beg).1=true→e=(vend l f cur beg).1∧val (sl l cur e)=true) ∧
  ((vend l f cur beg).1<l.length→crlf l (vend l f cur beg).1=false→val (sl l cur e)=false∧whr l e B g beg cur=(vend l f cur beg).2)
 | 0,_,_,_,hf,_,_,hc,_,_=>by omega
 | _,0,_,_,_,hg,hb,hc,_,_=>by omega
 | f+1,g+1,cur,beg,hf,hg,hb,hc,he,hle=>by
  have hi0:=stop_ge lb l cur hc
  have hi1:=stop_le lb l cur hc
  have hia:=stop_all lb l cur hc
  have hin:=stop_not lb l cur hc
  rw[vend]
  generalize stop lb l cur=i at hi0 hi1 hia hin ⊢
  have hnc:∀j,cur≤j→j<i→crlf l j=false:=fun j h1 h2=>no_crlf l j (lb_13 _ (hia j h1 h2))
  have hnp:∀j,cur≤j→j<i→(crlf l j && !fold l j)=false:=fun j h1 h2=>by rw[hnc j h1 h2];rfl
  have hege:cur≤e:=by rw[← he];exact first_ge _ _ _ hc
  have hele:e≤l.length:=by rw[← he];exact first_le _ _ _ hc
  have hLl:(l.take e).length=e:=by rw[List.length_take];omega
  by_cases hfold:fold l i=true
  ·rw[if_pos hfold]
   obtain⟨hbl,hi2⟩:=fold_b l i hfold
   obtain⟨hb13,hb10,-⟩:=crlf_b l i (fold_crlf l i hfold)
   have hskip:fe l cur=fe l (i+2):=by
    refine first_skip _ _ _ _ (by omega) (by omega) (fun j h1 h2=>?_)
    by_cases hj:j<i
    ·exact hnp j h1 hj
    ·by_cases hj':j=i
     ·rw[hj',hfold,Bool.not_true,Bool.and_false]
     ·rw[show j=i+1 by omega,no_crlf l (i+1) (by rw[hb10];decide)];rfl
   have hei:i+2<e:=by
    have h1:i+2≤e:=by rw[← he,hskip];exact first_ge _ _ _ (by omega)
    by_cases h2:e=i+2
    ·exfalso
     have h3:=first_is (fun j=>crlf l j && !fold l j) l.length cur hc (by show fe l cur<_;omega)
     change (crlf l (fe l cur) && !fold l (fe l cur))=true at h3
     rw[he,h2,Bool.and_eq_true] at h3
     exact blank_13 _ hbl (crlf_b l _ h3.1).1
    ·omega
   have hval:val (sl l cur e)=val (sl l (i+2) e):=by
    rw[sl_take,sl_take,val_run (l.take e) _ i cur rfl (by omega) (by omega) (fun j h1 h2=>by rw[b_take l e j (by omega)];exact hia j h1 h2)]
    exact(val_fold (l.take e) i (by rw[fold_take l e i hei];exact hfold)).symm
   have hlei:le l beg=i:=by
    rw[hle]
    exact first_eq _ _ _ _ hi0 hi1 hnc (fun _=>fold_crlf l i hfold)
   have hw:whr l e B (g+1) beg cur=whr l e B g (i+2) (i+2):=by
    rw[whr,if_pos (by omega),hlei,Nat.min_eq_left (by omega),first_eq (fun j=>!lb (b l j)) i cur i hi0 (Nat.le_refl _) (fun j h1 h2=>by rw[hia j h1 h2];rfl) (fun h=>by omega),if_neg (by omega),nx,if_pos (by omega)]
   rw[hval,hw]
   exact vend_spec l e B f g (i+2) (i+2) (by omega) (by omega) (Nat.le_refl _) (by omega) (hskip.symm.trans he) rfl
  ·rw[if_neg hfold]
   rw[Bool.not_eq_true] at hfold
   refine⟨fun h=>?_,fun h hcr=>?_,fun h hcr=>?_⟩
   ·change l.length≤i at h
    have hin':i=l.length:=by omega
    have hen:e=l.length:=by rw[← he];exact first_eq _ _ _ _ hc (Nat.le_refl _) (fun j h1 h2=>hnp j h1 (by omega)) (fun h=>by omega)
    refine⟨hin',hen,?_⟩
    rw[sl_take,val_run (l.take e) _ e cur rfl (by omega) (by omega) (fun j h1 h2=>by rw[b_take l e j (by omega)];exact hia j h1 (by omega))]
    exact val_done _ _ (by omega)
   ·change i<l.length at h
    change crlf l i=true at hcr
    have hei:e=i:=by rw[← he];exact first_eq _ _ _ _ hi0 hi1 hnp (fun _=>by rw[hcr,hfold];rfl)
    refine⟨hei,?_⟩
    rw[sl_take,val_run (l.take e) _ e cur rfl (by omega) (by omega) (fun j h1 h2=>by rw[b_take l e j (by omega)];exact hia j h1 (by omega))]
    exact val_done _ _ (by omega)
   ·change i<l.length at h
    change crlf l i=false at hcr
    have hlow:i+1≤e:=by
     rw[← he,show fe l cur=fe l (i+1) from first_skip _ _ _ _ (by omega) (by omega) (fun j h1 h2=>by
      by_cases hj:j<i
      ·exact hnp j h1 hj
      ·rw[show j=i by omega,hcr];rfl)]
     exact first_ge _ _ _ (by omega)
    have hlel:i+1≤le l beg:=by
     rw[hle,show le l cur=le l (i+1) from first_skip _ _ _ _ (by omega) (by omega) (fun j h1 h2=>by
      by_cases hj:j<i
      ·exact hnc j h1 hj
      ·rw[show j=i by omega,hcr])]
     exact first_ge _ _ _ (by omega)
    have hlbi:=hin h
    constructor
    ·rw[sl_take,val_run (l.take e) _ i cur rfl hi0 (by omega) (fun j h1 h2=>by rw[b_take l e j (by omega)];exact hia j h1 h2),
      val_other (l.take e) i (by omega) (by
       rw[Bool.eq_false_iff];intro h2
       rw[fold_take_of l e i h2] at hfold;cases hfold),
      ← b_lt (l.take e) i (by omega),b_take l e i (by omega),hlbi,Bool.false_and]
    ·have hm:i<min (le l beg) e:=by omega
     rw[whr,if_pos (by omega),first_eq (fun j=>!lb (b l j)) (min (le l beg) e) cur i hi0 (by omega) (fun j h1 h2=>by rw[hia j h1 h2];rfl) (fun _=>by rw[hlbi];rfl),if_pos hm]
theorem sl_len (l:List UInt8)(i j:Nat)(h:j≤l.length):(sl l i j).length=j-i:=by
 unfold sl;rw[List.length_take,List.length_drop];omega
theorem sl_get (l:List UInt8)(i j m:Nat)(h:j≤l.length)(hm:m<j-i):(sl l i j)[m]?=some (b l (i+m)):=by
 unfold sl b
 rw[List.getElem?_take_of_lt hm,List.getElem?_drop,List.getD_eq_getElem?_getD,List.getElem?_eq_getElem (by omega)]
 rfl
theorem sl_app (l:List UInt8)(i m j:Nat)(h1:i≤m)(h2:m≤j):sl l i j=sl l i m++sl l m j:=by
 unfold sl
 rw[show j-i=(m-i)+(j-m) by omega,List.take_add,List.drop_drop,show i+(m-i)=m by omega]
theorem all_sl (K:UInt8→Bool)(l:List UInt8)(i j:Nat)(h:j≤l.length)(hK:∀m,i≤m→m<j→K (b l m)=true):(sl l i j).all K=true:=by
 rw[List.all_eq_true]
 intro x hx
 obtain⟨m,hm,rfl⟩:=List.getElem_of_mem hx
 have hm':=hm
 rw[sl_len l i j h] at hm'
 have:=sl_get l i j m h hm'
 rw[List.getElem?_eq_getElem hm,Option.some.injEq] at this
 rw[this]
 exact hK _ (by omega) (by omega)
theorem trimR_app (p q:List UInt8)(hq:q.all blank=true)(hl:∀x ∈ p.getLast?,blank x=false):trimR (p++q)=p:=by
 unfold trimR
 rw[List.reverse_append,List.dropWhile_append_of_pos (by intro a ha;exact List.all_eq_true.1 hq a (by simpa using ha))]
 cases hr:p.reverse with
 | nil=>simp at hr;simp[hr]
 | cons x r=>
  have hx:blank x=false:=hl x (by
   have:p=r.reverse ++ [x]:=by rw[← List.reverse_reverse p,hr];simp
   rw[this];simp)
  rw[List.dropWhile_cons_of_neg (by rw[hx];simp),← hr,List.reverse_reverse]
theorem trimR_split (l:List UInt8):∃q,l=trimR l++q∧q.all blank=true:=by
 refine⟨(l.reverse.takeWhile blank).reverse,?_,?_⟩
 ·unfold trimR
  rw[← List.reverse_append,List.takeWhile_append_dropWhile,List.reverse_reverse]
 ·rw[List.all_reverse]
  exact List.all_takeWhile
theorem name_same (l:List UInt8)(k:Nat)(hk:k<l.length)(hg:nameGood l k=true) :
  colon l (fe l k) k=stop blank l (stop nb l k)∧trimR (sl l k (colon l (fe l k) k))=sl l k (stop nb l k)∧colon l (fe l k) k<le l k∧nameOk (sl l k (stop nb l k))=true:=by
 unfold nameGood at hg
 have a0:=stop_ge nb l k (by omega)
 have a1:=stop_le nb l k (by omega)
 have a2:=stop_all nb l k (by omega)
 generalize stop nb l k=n1 at *
 have c0:=stop_ge blank l n1 a1
 have c1:=stop_le blank l n1 a1
 have c2:=stop_all blank l n1 a1
 generalize stop blank l n1=n2 at *
 rw[Bool.and_eq_true,Bool.and_eq_true,decide_eq_true_eq,beq_iff_eq] at hg
 obtain⟨hn,h1,h2⟩:=hg
 have hno:∀j,k≤j→j<n2→b l j≠13∧b l j≠58:=fun j h3 h4=>by
  by_cases hj:j<n1
  ·exact⟨nb_13 _ (a2 j h3 hj),nb_58 _ (a2 j h3 hj)⟩
  ·exact⟨blank_13 _ (c2 j (by omega) h4),blank_58 _ (c2 j (by omega) h4)⟩
 have hle:n2<le l k:=by
  by_cases h:le l k≤n2
  ·exfalso
   have h3:=first_is (crlf l) l.length k (by omega) (by show le l k<_;omega)
   have h4:=(crlf_b l _ h3).1
   by_cases h5:le l k=n2
   ·change b l (le l k)=13 at h4
    rw[h5,h2] at h4
    cases h4
   ·exact(hno (le l k) (first_ge _ _ _ (by omega)) (by omega)).1 h4
  ·omega
 have hfe:=le_fe l k (by omega)
 have hc:colon l (fe l k) k=n2:=first_eq _ _ _ _ (by omega) (by omega) (fun j h3 h4=>by simpa using (hno j h3 h4).2) (fun _=>by simpa using h2)
 rw[hc]
 refine⟨rfl,?_,hle,hn⟩
 rw[sl_app l k n1 n2 a0 c0]
 refine trimR_app _ _ (all_sl blank l n1 n2 c1 c2) ?_
 intro x hx
 have hlen:=sl_len l k n1 a1
 rw[List.getLast?_eq_getElem?,hlen] at hx
 have hpos:k<n1:=by
  by_cases h:k<n1
  ·exact h
  ·rw[show sl l k n1=[] from List.length_eq_zero_iff.1 (by rw[hlen];omega)] at hn
   cases hn
 rw[sl_get l k n1 (n1-k-1) a1 (by omega)] at hx
 simp only[Option.mem_some_iff] at hx
 rw[← hx]
 exact nb_blank _ (a2 _ (by omega) (by omega))
theorem name_back (l:List UInt8)(k:Nat)(hk:k<l.length)(h1:colon l (fe l k) k<le l k)(h2:nameOk (trimR (sl l k (colon l (fe l k) k)))=true):nameGood l k=true:=by
 have hfe:=le_fe l k (by omega)
 have hfl:fe l k≤l.length:=first_le _ _ _ (by omega)
 have hkf:k≤fe l k:=first_ge _ _ _ (by omega)
 have hcg:k≤colon l (fe l k) k:=first_ge _ _ _ hkf
 have hc58:=first_is (fun j=>b l j==58) (fe l k) k hkf (by show colon l (fe l k) k<_;omega)
 change (b l (colon l (fe l k) k)==58)=true at hc58
 rw[beq_iff_eq] at hc58
 generalize colon l (fe l k) k=c at *
 obtain⟨q,hq,hqb⟩:=trimR_split (sl l k c)
 generalize trimR (sl l k c)=p at *
 have hlen:p.length+q.length=c-k:=by
  have:=congrArg List.length hq
  rw[sl_len l k c (by omega),List.length_append] at this
  omega
 have hget:∀m,m<c-k→(p++q)[m]?=some (b l (k+m)):=fun m hm=>by rw[← hq];exact sl_get l k c m (by omega) hm
 have hpall:p.all nb=true:=by
  unfold nameOk at h2
  rw[Bool.and_eq_true,Bool.and_eq_true] at h2
  exact h2.2.2
 have hn1:stop nb l k=k+p.length:=by
  refine stop_eq nb l k _ (by omega) (by omega) (fun j h3 h4=>?_) (fun _=>?_)
  ·have h5:=hget (j-k) (by omega)
   rw[List.getElem?_append_left (by omega),List.getElem?_eq_getElem (by omega),Option.some.injEq,show k+(j-k)=j by omega] at h5
   rw[← h5]
   exact List.all_eq_true.1 hpall _ (List.getElem_mem _)
  ·by_cases hqz:q.length=0
   ·rw[show k+p.length=c by omega,hc58];decide
   ·have h5:=hget p.length (by omega)
    rw[List.getElem?_append_right (by omega),Nat.sub_self,List.getElem?_eq_getElem (by omega),Option.some.injEq] at h5
    have h6:=List.all_eq_true.1 hqb _ (List.getElem_mem (by omega:0<q.length))
    rw[h5] at h6
    cases hx:nb (b l (k+p.length))
    ·rfl
    ·rw[nb_blank _ hx] at h6;cases h6
 have hn2:stop blank l (k+p.length)=c:=by
  refine stop_eq blank l _ _ (by omega) (by omega) (fun j h3 h4=>?_) (fun _=>by rw[hc58];decide)
  have h5:=hget (j-k) (by omega)
  rw[List.getElem?_append_right (by omega),List.getElem?_eq_getElem (by omega),Option.some.injEq,show k+(j-k)=j by omega] at h5
  rw[← h5]
  exact List.all_eq_true.1 hqb _ (List.getElem_mem _)
 have hslp:sl l k (k+p.length)=p:=by
  have h3:=sl_app l k (k+p.length) c (by omega) (by omega)
  have h4:(sl l k (k+p.length)).length=p.length:=by rw[sl_len _ _ _ (by omega)];omega
  exact(List.append_inj (h3.symm.trans hq) h4).1
 unfold nameGood
 rw[hn1,hn2,hslp,h2,hc58,decide_eq_true (by omega)]
 rfl
theorem field_same (l:List UInt8)(k:Nat)(hk:k<l.length):specF l k=implF l k:=by
 unfold specF implF
 dsimp only
 by_cases hg:nameGood l k=true
 ·obtain⟨h1,h2,h3,h4⟩:=name_same l k hk hg
  rw[if_pos hg,h2,if_neg (by rw[h4,decide_eq_false (by omega)];simp),h1]
  have hg':=hg
  unfold nameGood at hg'
  have a0:=stop_ge nb l k (by omega)
  have a1:=stop_le nb l k (by omega)
  have a2:=stop_all nb l k (by omega)
  have c0:=stop_ge blank l _ a1
  have c2:=stop_all blank l _ a1
  rw[h1] at h3
  generalize stop blank l (stop nb l k)=n2 at *
  rw[Bool.and_eq_true,Bool.and_eq_true,decide_eq_true_eq,beq_iff_eq] at hg'
  obtain⟨-,hn2,h58⟩:=hg'
  have hno:∀j,k≤j→j<n2+1→b l j≠13:=fun j h5 h6=>by
   by_cases hj:j<stop nb l k
   ·exact nb_13 _ (a2 j h5 hj)
   ·by_cases hj':j=n2
    ·rw[hj',h58];decide
    ·exact blank_13 _ (c2 j (by omega) (by omega))
  have hfe:fe l (n2+1)=fe l k:=(first_skip _ _ _ _ (by omega) (by omega) (fun j h5 h6=>by rw[no_crlf l j (hno j h5 h6)];rfl)).symm
  have hle:le l k=le l (n2+1):=first_skip _ _ _ _ (by omega) (by omega) (fun j h5 h6=>no_crlf l j (hno j h5 h6))
  obtain⟨v1,v2,v3⟩:=vend_spec l (fe l k) k (l.length+1) (l.length+1) (n2+1) k (by omega) (by omega) (by omega) (by omega) hfe hle
  generalize vend l (l.length+1) (n2+1) k=v at v1 v2 v3 ⊢
  by_cases hv:l.length≤v.1
  ·obtain⟨-,e1,e2⟩:=v1 hv
   rw[if_pos e2,if_pos hv,e1,nx,if_neg (by omega)]
  ·rw[if_neg hv]
   cases hcr:crlf l v.1
   ·obtain⟨e1,e2⟩:=v3 (by omega) hcr
    rw[if_neg (by rw[e1];simp),e2]
    rfl
   ·obtain⟨e1,e2⟩:=v2 (by omega) hcr
    rw[if_pos e2,e1,nx,if_pos (by omega)]
    rfl
 ·rw[if_neg hg]
  by_cases h1:le l k≤colon l (fe l k) k
  ·rw[decide_eq_true h1,Bool.true_or,if_pos rfl]
  ·cases h2:nameOk (trimR (sl l k (colon l (fe l k) k)))
   ·rw[Bool.not_false,Bool.or_true,if_pos rfl]
   ·exact absurd (name_back l k hk (by omega) h2) hg
end Pl
theorem b_at (s:ByteArray)(k:Nat)(h:k<s.size):Pl.b s.data.toList k=s[k]:=Pl.b_lt _ k (by simpa using h)
theorem specLine (s:ByteArray)(k:Nat)(w:World)(_hs:s.size≤1100000)(hk:k≤s.size) :
  Calls Tryz.prog 33 #[.string s,.int .i64 k] w fun e w'=>e=.returned (.tuple #[.int .i64 (Pl.le s.data.toList k:Nat),.int .i64 (Pl.nx s.data.toList (Pl.le s.data.toList k):Nat)])∧w=w':=by
 obtain⟨E,hE⟩:∃E,Pl.le s.data.toList k=E:=⟨_,rfl⟩
 rw[hE]
 have HE:Hid (Pl.le s.data.toList k=E):=hE
 clear hE
 go_enter Tryz.func33,Tryz.ntmps33
 go_wp2
 go_loopw [6] (fun i wr=>∃ j:Nat,j≤s.size∧i=.int .i64 j∧Hid (Pl.le s.data.toList j=E)∧wr=w) (fun i _=>s.size-(Lib.intOf i).toNat)
 case atStart=>exact⟨k,hk,rfl,HE,rfl⟩
 case round=>
  clear HE hk
  obtain⟨k,hk,rfl,hp,rfl⟩:=hrel
  by_cases hlt:k+1<s.size
  ·have h8:s[k].toNat<256:=UInt8.toNat_lt _
   have h9:s[k+1].toNat<256:=UInt8.toNat_lt _
   have hll:k<s.data.toList.length:=by simp;omega
   have miss:Pl.crlf s.data.toList k=false→Hid (Pl.le s.data.toList (k+1)=E):=fun h=>show _=_ from (Pl.first_miss _ _ _ hll h).trans hp.out
   by_cases h13:((s[k].toNat:Int)==13)=true
   ·by_cases h10:((s[k+1].toNat:Int)==10)=true
    ·have hcr:Pl.crlf s.data.toList k=true:=(Pl.crlf_iff _ _).2 ⟨by simp;omega,Pl.byte_eq _ 13 _ rfl h13,Pl.byte_eq _ 10 _ rfl h10⟩
     have hE:Hid (E=k):=show _=_ from hp.out.symm.trans (Pl.first_hit _ _ _ hcr)
     have hN:Hid (Pl.nx s.data.toList k=k+2):=show _=_ from by rw[Pl.nx,if_pos hll]
     clear hp miss hcr
     go_wp2
     refine bodyPost_ret (v:=.tuple #[.int .i64 k,.int .i64 (k+2)]) (by simp[results,Tryz.results33,go_sem]) rfl ⟨?_,rfl⟩
     rw[hE.out,hN.out]
     simp
    ·rw[Bool.not_eq_true] at h10
     have hg:=miss (by rw[Bool.eq_false_iff];intro e;obtain⟨_,-,e1⟩:=(Pl.crlf_iff _ _).1 e;exact Pl.byte_ne _ 10 _ rfl h10 e1)
     clear hp miss
     go_wp2
     go_roundw
     case rel=>exact⟨k+1,by omega,by go_num,hg,trivial⟩
     case measure=>simp[Lib.intOf];omega
   ·rw[Bool.not_eq_true] at h13
    have hg:=miss (by rw[Bool.eq_false_iff];intro e;obtain⟨_,e1,-⟩:=(Pl.crlf_iff _ _).1 e;exact Pl.byte_ne _ 13 _ rfl h13 e1)
    clear hp miss
    go_wp2
    go_roundw
    case rel=>exact⟨k+1,by omega,by go_num,hg,trivial⟩
    case measure=>simp[Lib.intOf];omega
  ·have hE:Hid (E=s.size):=show _=_ from by
    rw[← hp.out]
    exact(Pl.first_eq _ _ _ _ hk (by simp) (fun j h1 h2=>Pl.crlf_short _ _ (by simp;omega)) (fun h=>by simp at h))
   have hN:Hid (Pl.nx s.data.toList s.size=s.size):=show _=_ from by rw[Pl.nx,if_neg (by simp)];simp
   clear hp
   go_wp2
   refine bodyPost_ret (v:=.tuple #[.int .i64 s.size,.int .i64 s.size]) (by simp[results,Tryz.results33,go_sem]) rfl ⟨?_,rfl⟩
   rw[hE.out,hN.out]
end Go.Proofs.YtacaoiedcfelcaaGreatDoor
