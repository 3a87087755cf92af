import Derived.Test.YtibbpmhbgbafhaaGreatDoorFields
import Derived.Test.YtibbpmhbgbafhaaGreatDoorReadPlain
set_option maxRecDepth 20000
namespace Go.Proofs.YtibbpmhbgbafhaaGreatDoor
open Go.RowKit Go.Lib
theorem var_cells {w:World} {g:Nat} {n v:ByteArray} {t:TypeId} {z:Nat × Nat} (h:w.heap[g]?=some (.cells #[.string n,.string v] t z)) :
  w.cell? ⟨g,0,none⟩=some (.string n)∧w.cell? ⟨g,1,none⟩=some (.string v):=by
 constructor<;>simp[World.cell?,h]
theorem Own.some_len {B:Nat} {v:Value} {p:List UInt8} {w:World} (h:Own B v p w)(hp:0<p.length):∃g cap L,v=.slice (some ⟨g,0,none⟩) L cap∧L=p.length:=by
 rcases h.form with ⟨rfl,rfl⟩|⟨g,cap,rfl⟩
 ·simp at hp
 ·exact⟨g,cap,_,rfl,rfl⟩
set_option maxHeartbeats 2000000 in
set_option maxRecDepth 40000 in
theorem specWriteHead (o:Option Addr)(F:List Fd)(cap:Nat)(w:World)(hF:Fld w.heap.size w o F)(hlen:F.length≤200)(hsz:∀f ∈ F,f.1.size≤1048576∧f.2.size≤1048576) :
  Calls Tryz.prog 33 #[.slice o F.length cap] w fun e w'=>e=.returned (.string ⟨(Pl.hd [] F).toArray⟩)∧Below w.heap.size w w':=by
 obtain⟨i0,hi,hy0,hy1,hy2⟩:=info_parts Tryz.info5
 have HF:Hid (Fld w.heap.size w o F):=hF
 have Hsz:Hid (∀f ∈ F,f.1.size≤1048576∧f.2.size≤1048576):=hsz
 clear hF hsz
 go_enter Tryz.func33,Tryz.ntmps33
 go_wp2
 go_loopw [3,4,5] (fun v i _ wr=>∃ (k:Nat) (p:List UInt8),k≤F.length∧i=.int .i64 k∧p.length≤100000∧Hid (Pl.hd p (F.drop k)=Pl.hd [] F)∧Own w.heap.size v p wr∧Below w.heap.size w wr) (fun _ i _ _=>F.length-(Lib.intOf i).toNat)
 case atStart=>exact⟨0,[],Nat.zero_le _,rfl,by simp,rfl,Own.made _ _ (Nat.le_refl _),(Below.refl _ _).alloc (Nat.le_refl _) _⟩
 case round=>
  obtain⟨k,p,hk,rfl,hpl,hp,hown,hb⟩:=hrel
  by_cases hlt:k<F.length
  ·obtain⟨a,rfl,ha,hc0,hc1⟩:=(HF.out.below hb) k hlt
   obtain⟨hs0,hs1⟩:=Hsz.out F[k] (List.getElem_mem _)
   have Hbad:Hid (Pl.okF F[k]=false→Pl.hd [] F=[]):=show _→_ from fun h=>Pl.hd_bad p _ F k hlt h hp.out
   have Hlong:Hid (Pl.okF F[k]=true→100000<(p++Pl.line F[k]).length→Pl.hd [] F=[]):=show _→_→_ from fun h hl=>Pl.hd_long p _ F k hlt h hl hp.out
   have Hstep:Hid (Pl.okF F[k]=true→¬100000<(p++Pl.line F[k]).length→Pl.hd (p++Pl.line F[k]) (F.drop (k+1))=Pl.hd [] F):=show _→_→_ from fun h hl=>Pl.hd_step p _ F k hlt h hl hp.out
   clear hp
   generalize F[k]=f at hc0 hc1 hs0 hs1 Hbad Hlong Hstep
   obtain⟨n,v⟩:=f
   dsimp only at hc0 hc1 hs0 hs1
   have hcn:=fun w=>specName n w (by omega)
   have hcv:=fun w=>specValue v w (by omega)
   have hbs:=hb.size
   by_cases hA:100000<v.size
   ·have hE:Hid (Pl.hd [] F=[]):=Hbad.out (Pl.okF_size _ (by dsimp only;omega))
    clear Hbad Hlong Hstep
    go_wp2
    go_ret
    exact⟨by rw[hE.out];rfl,hb.alloc hbs _⟩
   ·cases hN:Pl.nameOk n.data.toList
    ·have hE:Hid (Pl.hd [] F=[]):=Hbad.out (Pl.okF_name _ hN)
     simp only[hN] at hcn
     clear Hbad Hlong Hstep hN
     go_wp2_with (go_at_call 21;go_must (refine(hcn _).mono ?_;rintro e w2 ⟨rfl,rfl⟩))
     go_ret
     exact⟨by rw[hE.out];rfl,hb.alloc hbs _⟩
    ·cases hV:Pl.val v.data.toList
     ·have hE:Hid (Pl.hd [] F=[]):=Hbad.out (Pl.okF_val _ hV)
      simp only[hN] at hcn
      simp only[hV] at hcv
      clear Hbad Hlong Hstep hN hV
      go_wp2_with (first|(go_at_call 21;go_must (refine(hcn _).mono ?_;rintro e w2 ⟨rfl,rfl⟩))|(go_at_call 22;go_must (refine(hcv _).mono ?_;rintro e w2 ⟨rfl,rfl⟩)))
      go_ret
      exact⟨by rw[hE.out];rfl,hb.alloc hbs _⟩
     ·have hok:Pl.okF (n,v)=true:=Pl.okF_mk _ (by dsimp only;omega) hN hV
      have hn7:=Pl.nameOk_size n hN
      simp only[hN] at hcn
      simp only[hV] at hcv
      clear hN hV Hbad
      have hownA:=hown.alloc (.cells #[.string n,.string v] 56)
      have hbA:=hb.alloc hbs (.cells #[.string n,.string v] 56)
      have hfvA:(wr.alloc (.cells #[.string n,.string v] 56)).heap[wr.heap.size]?=some (.cells #[.string n,.string v] 56 (0,0)):=heap_alloc_at _ _
      have hll:=Pl.line_len (n,v)
      dsimp only at hll
      by_cases hT:100000<p.length+n.size+v.size+3
      ·have hE:Hid (Pl.hd [] F=[]):=Hlong.out hok (by rw[List.length_append,hll];omega)
       clear Hlong Hstep hok
       go_wp2_with (first|(go_at_call 21;go_must (refine(hcn _).mono ?_;rintro e wx ⟨rfl,rfl⟩))|(go_at_call 22;go_must (refine(hcv _).mono ?_;rintro e wx ⟨rfl,rfl⟩))|(at_builtin;go_must (first|(refine wp_app_v (W:=w) rfl _ _ 22 rfl i0 Tryz.underlying22 hi hy0 hy1 hy2 w.heap.size v3 (p++n.data.toList ++ [58]++v.data.toList) rfl hown3 _ [13,10] rfl 2 2 rfl rfl (by simp;omega) (Nat.le_refl _) hb3 wr.heap.size _ 56 (0,0) (by decide) hf3 ?_;intro v4 w4 hown4 hb4 hf4;obtain⟨g4,cap4,L,rfl,hL⟩:=hown4.some_len (by simp;omega);have hLd:decide ((100000:Int)<(L:Int))=true:=(by have e:=hL;simp only[List.length_append,List.length_cons,List.length_nil,Pl.len_list] at e;first|exact decide_eq_true (by omega)|exact decide_eq_false (by omega));clear hL)|(refine wp_apps_v (W:=w) rfl _ _ 22 9 rfl i0 Tryz.underlying22 Tryz.underlying9 hi hy0 hy1 hy2 w.heap.size v2 (p++n.data.toList ++ [58]) rfl hown2 v rfl (by simp;omega) (Nat.le_refl _) hb2 wr.heap.size _ 56 (0,0) (by decide) hf2 ?_;intro v3 w3 hown3 hb3 hf3)|(refine wp_app_v (W:=w) rfl _ _ 22 rfl i0 Tryz.underlying22 hi hy0 hy1 hy2 w.heap.size v1 (p++n.data.toList) rfl hown1 _ [58] rfl 1 1 rfl rfl (by simp;omega) (Nat.le_refl _) hb1 wr.heap.size _ 56 (0,0) (by decide) hf1 ?_;intro v2 w2 hown2 hb2 hf2;obtain⟨he0,he1⟩:=var_cells hf2)|(refine wp_apps_v (W:=w) rfl _ _ 22 9 rfl i0 Tryz.underlying22 Tryz.underlying9 hi hy0 hy1 hy2 w.heap.size u3 p rfl hownA n rfl (by omega) (Nat.le_refl _) hbA wr.heap.size _ 56 (0,0) (by decide) hfvA ?_;intro v1 w1 hown1 hb1 hf1;obtain⟨hd0,hd1⟩:=var_cells hf1))))
       go_ret
       exact⟨by rw[hE.out];rfl,hb4⟩
      ·have hE:Hid (Pl.hd (p++n.data.toList ++ [58]++v.data.toList ++ [13,10]) (F.drop (k+1))=Pl.hd [] F):=show _=_ from by
        have:=Hstep.out hok (by rw[List.length_append,hll];omega)
        rw[← this]
        simp[Pl.line]
       clear Hlong Hstep hok
       go_wp2_with (first|(go_at_call 21;go_must (refine(hcn _).mono ?_;rintro e wx ⟨rfl,rfl⟩))|(go_at_call 22;go_must (refine(hcv _).mono ?_;rintro e wx ⟨rfl,rfl⟩))|(at_builtin;go_must (first|(refine wp_app_v (W:=w) rfl _ _ 22 rfl i0 Tryz.underlying22 hi hy0 hy1 hy2 w.heap.size v3 (p++n.data.toList ++ [58]++v.data.toList) rfl hown3 _ [13,10] rfl 2 2 rfl rfl (by simp;omega) (Nat.le_refl _) hb3 wr.heap.size _ 56 (0,0) (by decide) hf3 ?_;intro v4 w4 hown4 hb4 hf4;obtain⟨g4,cap4,L,rfl,hL⟩:=hown4.some_len (by simp;omega);have hLd:decide ((100000:Int)<(L:Int))=false:=(by have e:=hL;simp only[List.length_append,List.length_cons,List.length_nil,Pl.len_list] at e;first|exact decide_eq_true (by omega)|exact decide_eq_false (by omega));clear hL)|(refine wp_apps_v (W:=w) rfl _ _ 22 9 rfl i0 Tryz.underlying22 Tryz.underlying9 hi hy0 hy1 hy2 w.heap.size v2 (p++n.data.toList ++ [58]) rfl hown2 v rfl (by simp;omega) (Nat.le_refl _) hb2 wr.heap.size _ 56 (0,0) (by decide) hf2 ?_;intro v3 w3 hown3 hb3 hf3)|(refine wp_app_v (W:=w) rfl _ _ 22 rfl i0 Tryz.underlying22 hi hy0 hy1 hy2 w.heap.size v1 (p++n.data.toList) rfl hown1 _ [58] rfl 1 1 rfl rfl (by simp;omega) (Nat.le_refl _) hb1 wr.heap.size _ 56 (0,0) (by decide) hf1 ?_;intro v2 w2 hown2 hb2 hf2;obtain⟨he0,he1⟩:=var_cells hf2)|(refine wp_apps_v (W:=w) rfl _ _ 22 9 rfl i0 Tryz.underlying22 Tryz.underlying9 hi hy0 hy1 hy2 w.heap.size u3 p rfl hownA n rfl (by omega) (Nat.le_refl _) hbA wr.heap.size _ 56 (0,0) (by decide) hfvA ?_;intro v1 w1 hown1 hb1 hf1;obtain⟨hd0,hd1⟩:=var_cells hf1))))
       go_roundw
       case rel=>exact⟨k+1,_,by omega,by go_num,by simp;omega,hE,hown4,hb4⟩
       case measure=>simp[Lib.intOf];omega
  ·have hpn:Hid (Pl.hd [] F=p):=show _=_ from Pl.hd_done p _ F k (by omega) hp.out
   clear hp
   have hbk:=hown.back (P:=Tryz.prog) 22 9 Tryz.underlying22 Tryz.underlying5 Tryz.underlying9
   go_wp2
   go_ret
   rw[hpn.out]
   exact⟨rfl,hb⟩
abbrev Fl:=List UInt8 × List UInt8
def txt (l:List UInt8):Value:=.string ⟨l.toArray⟩
def cellsF (F:List Fl):List Value:=F.flatMap fun f=>[txt f.1,txt f.2]
theorem cellsF_len (F:List Fl):(cellsF F).length=F.length*2:=by
 induction F with
 | nil=>rfl
 | cons f r ih=>simp[cellsF,List.flatMap_cons] at ih ⊢;omega
theorem cellsF_app (F G:List Fl):cellsF (F++G)=cellsF F++cellsF G:=by simp[cellsF]
theorem cellsF_get (F:List Fl)(j:Nat)(h:j<F.length):(cellsF F)[j*2]?=some (txt F[j].1)∧(cellsF F)[j*2+1]?=some (txt F[j].2):=by
 induction F generalizing j with
 | nil=>simp at h
 | cons f r ih=>
  cases j with
  | zero=>simp[cellsF]
  | succ j=>
   have:=ih j (by simpa using h)
   rw[show(j+1)*2=j*2+1+1 by omega]
   simpa [cellsF] using this
def OwnF (B:Nat)(v:Value)(F:List Fl)(w:World):Prop:=w.ownsRow B 56 2 v F.length (cellsF F)
theorem OwnF.nil (B:Nat)(w:World):OwnF B (.slice none 0 0) [] w:=World.ownsRow_nil _ _ _ _
theorem OwnF.made (B:Nat)(w:World)(h:B≤w.heap.size):OwnF B (.slice (some ⟨w.heap.size,0,none⟩) 0 0) [] (w.alloc (.cells #[] 56)):=
 World.ownsRow_made w #[] 0 h (by unfold maxLen;omega) rfl
theorem OwnF.form {B:Nat} {v:Value} {F:List Fl} {w:World} (h:OwnF B v F w):(v=.slice none 0 0∧F=[])∨∃ g cap,v=.slice (some ⟨g,0,none⟩) F.length cap:=by
 rcases h.2 with ⟨rfl,h0⟩|⟨g,cap,cur,rfl,-⟩
 ·exact .inl ⟨rfl,List.length_eq_zero_iff.1 h0⟩
 ·exact .inr ⟨g,cap,rfl⟩
theorem OwnF.beside {B:Nat} {v:Value} {F:List Fl} {w:World} (h:OwnF B v F w) {fv:Nat} {cs:Array Value} {t:TypeId} {z:Nat × Nat} (ht:t≠56)(hf:w.heap[fv]?=some (.cells cs t z)):v.ownBlock≠some fv:=by
 intro e
 rcases h.2 with ⟨rfl,-⟩|⟨g,cap,cur,rfl,-,hg,-⟩
 ·cases e
 ·cases e
  rw[hf] at hg
  simp only[Option.some.injEq,Obj.cells.injEq] at hg
  exact ht hg.2.1
theorem wp_appF {P:Program} {W w:World} {ops:Array Oper} {rest:List Oper} {o:Oper} {a:Act} {Q:Exit→Act→World→Prop} (hgd:o.guard=none)(s x:Operand)(t:TypeId)
  (ho:o.op=.call { callee:=.builtin .append,args:=#[s,x],argTypes:=#[t,t] })
  (i:TypeInfo) (ht:P.underlying t=some (.slice 56)) (hi:P.info? 56=some i) (hz:i.zero=some (.agg #[.string ⟨#[]⟩,.string ⟨#[]⟩])) (hsize:i.size=2) (hby:i.bytes=32)
  (B:Nat) (v:Value) (F:List Fl) (hs:a.eval s=v) (hown:OwnF B v F w) (f:Fl) (cs:Array Value) (hcs:cs=#[txt f.1,txt f.2])
  (c:Nat) (hx:a.eval x=.slice (some ⟨w.heap.size,0,none⟩) 1 c) (hlen:F.length≤1000000) (hB:B≤W.heap.size) (hb:Below B W w)
  (fv:Nat) (ob:Array Value) (tv:TypeId) (z:Nat × Nat) (htv:tv≠56) (hfv:w.heap[fv]?=some (.cells ob tv z))
  (h:∀v' w',OwnF B v' (F ++ [f]) w'→Below B W w'→w'.heap[fv]?=some (.cells ob tv z)→wpList P ops Q rest (a.put o.dst v') w'):wpList P ops Q (o::rest) a (w.alloc (.cells cs 56)):=by
 subst hcs
 have hsz:=hb.size
 have hlt:fv<w.heap.size:=by
  by_cases h:fv<w.heap.size
  ·exact h
  ·rw[Array.getElem?_eq_none (by omega)] at hfv;cases hfv
 refine wpList_append_own _ hgd s x t ho B 56 i _ 2 32 ht hi hz hsize hby rfl (by decide) v F.length (cellsF F) hs (hown.alloc _) ⟨w.heap.size,0,none⟩ 1 c [txt f.1,txt f.2] hx
  rfl ?_ ?_ (by unfold maxLen;omega) (by omega) (by simp;omega) ?_
 ·intro j u hj
  rw[add_off]
  match j,hj with
  | 0,hj=>simp at hj;subst hj;simp
  | 1,hj=>simp at hj;subst hj;simp
 ·intro u hu
  simp at hu
  rcases hu with rfl|rfl<;>rfl
 ·intro v' w' h1 h2 _
  refine h v' w' ?_ ?_ ?_
  ·unfold OwnF
   rw[cellsF_app,List.length_append]
   exact h1
  ·exact(hb.alloc (by omega) _).grown h2 (by simp;omega) (fun k hk=>(World.ownsRow.lt hown k hk).1)
  ·exact grown_beside h2 ((Below.heap_alloc w _ fv hlt).trans hfv) (hown.beside htv hfv)
end Go.Proofs.YtibbpmhbgbafhaaGreatDoor
