import Derived.Test.YtacaoiedcfelcaaGreatDoorOwnF
import Derived.Test.YtacaoiedcfelcaaGreatDoorOneImpl
import Derived.Test.YtacaoiedcfelcaaGreatDoorCkTurn
import Derived.Lib.TrimByte
import Derived.Maps.AppendAt
import Derived.OrdersHeld
import Derived.Test.YtacaoiedcfelcaaGreatDoorTexts
import Derived.Test.YtacaoiedcfelcaaGreatDoorAnyVals
import Derived.Deep.OwnRows
import Derived.Lib.QuietBelow
import Derived.BigQuiet
set_option maxRecDepth 20000
set_option maxHeartbeats 4000000
namespace Go.Proofs.YtacaoiedcfelcaaGreatDoor
open Go.RowKit Go.Lib
theorem Own.keepb {B:Nat} {v:Value} {p:List UInt8} {w w':World} (h:Own B v p w)(hb:Below w.heap.size w w'):Own B v p w':=by
 obtain⟨h1,h2⟩:=h
 refine⟨h1,?_⟩
 rcases h2 with h2|⟨g,cap,cur,e1,e2,e3,e4⟩
 ·exact .inl h2
 ·refine .inr ⟨g,cap,cur,e1,e2,?_,e4⟩
  have hlt:g<w.heap.size:=by
   by_cases hg:g<w.heap.size
   ·exact hg
   ·rw[Array.getElem?_eq_none (by omega)] at e3;cases e3
  rw[hb.block g hlt]
  exact e3
set_option maxRecDepth 40000 in
theorem implWriteHead (o:Option Addr)(F:List Fd)(cap:Nat)(w:World)(hF:Fld w.heap.size w o F)(hlen:F.length≤200)(hsz:∀f ∈ F,f.1.size≤1048576∧f.2.size≤1048576) :
  Calls Tryz.prog 31 #[.slice o F.length cap] w fun e w'=>e=.returned (.string ⟨(Pl.hd [] F).toArray⟩)∧Below w.heap.size w w':=by
 obtain⟨i0,hi,hy0,hy1,hy2⟩:=info_parts Tryz.info5
 have HF:Hid (Fld w.heap.size w o F):=hF
 have Hsz:Hid (∀f ∈ F,f.1.size≤1048576∧f.2.size≤1048576):=hsz
 clear hF hsz
 go_enter Tryz.func31,Tryz.ntmps31
 go_wp2
 go_loopw [3,5,11] (fun v _ i wr=>∃ (k:Nat) (p:List UInt8),k≤F.length∧i=.int .i64 k∧p.length≤100000∧Hid (Pl.hd p (F.drop k)=Pl.hd [] F)∧Own w.heap.size v p wr∧Below w.heap.size w wr) (fun _ _ i _=>F.length-(Lib.intOf i).toNat)
 case atStart=>exact⟨0,[],Nat.zero_le _,rfl,by simp,rfl,Own.nil _ _,Below.refl _ _⟩
 case round=>
  obtain⟨k,p,hk,rfl,hpl,hp,hown,hb⟩:=hrel
  by_cases hlt:k<F.length
  ·obtain⟨a,rfl,ha,hc0,hc1⟩:=(HF.out.below hb) k hlt
   obtain⟨hs0,hs1⟩:=Hsz.out F[k] (List.getElem_mem _)
   have Hbad:Hid (Pl.okF F[k]=false→Pl.hd [] F=[]):=show _→_ from fun h=>Pl.hd_bad p _ F k hlt h hp.out
   have Hlong:Hid (Pl.okF F[k]=true→100000<(p++Pl.line F[k]).length→Pl.hd [] F=[]):=show _→_→_ from fun h hl=>Pl.hd_long p _ F k hlt h hl hp.out
   have Hstep:Hid (Pl.okF F[k]=true→¬100000<(p++Pl.line F[k]).length→Pl.hd (p++Pl.line F[k]) (F.drop (k+1))=Pl.hd [] F):=show _→_→_ from fun h hl=>Pl.hd_step p _ F k hlt h hl hp.out
   clear hp
   generalize F[k]=f at hc0 hc1 hs0 hs1 Hbad Hlong Hstep
   obtain⟨n,v⟩:=f
   dsimp only at hc0 hc1 hs0 hs1
   have hct:=fun w=>implTooLong v w (by omega)
   have hcn:=fun w=>implFieldName n w (by omega)
   have hcv:=fun w=>implFieldValue v w (by omega)
   have hbs:=hb.size
   by_cases hA:100000<v.size
   ·have hE:Hid (Pl.hd [] F=[]):=Hbad.out (Pl.okF_size _ (by dsimp only;omega))
    clear Hbad Hlong Hstep
    rw[decide_eq_true (show(100000:Int)<v.size by omega)] at hct
    go_wp2_with (go_at_call 49;go_must (refine(hct _).mono ?_;rintro e wx ⟨rfl,rfl⟩))
    go_ret
    exact⟨by rw[hE.out];rfl,hb.alloc hbs _⟩
   ·rw[decide_eq_false (show ¬(100000:Int)<v.size by omega)] at hct
    have hownA:=hown.alloc (.cells #[.string n,.string v] 38)
    have hbA:=hb.alloc hbs (.cells #[.string n,.string v] 38)
    have hfvA:(wr.alloc (.cells #[.string n,.string v] 38)).heap[wr.heap.size]?=some (.cells #[.string n,.string v] 38 (0,0)):=heap_alloc_at _ _
    cases hN:Pl.nameOk n.data.toList
    ·have hE:Hid (Pl.hd [] F=[]):=Hbad.out (Pl.okF_name _ hN)
     simp only[hN] at hcn
     clear Hbad Hlong Hstep hN
     go_wp2_with (first|(go_at_call 49;go_must (refine(hct _).mono ?_;rintro e wx ⟨rfl,rfl⟩))|(go_at_call 80;go_must (refine(hcn _).mono ?_;rintro e wx ⟨rfl,rfl⟩)))
     go_ret
     exact⟨by rw[hE.out];rfl,hb.alloc hbs _⟩
    ·cases hV:Pl.val v.data.toList
     ·have hE:Hid (Pl.hd [] F=[]):=Hbad.out (Pl.okF_val _ hV)
      simp only[hN] at hcn
      simp only[hV] at hcv
      clear Hbad Hlong Hstep hN hV
      go_wp2_with (first|(go_at_call 49;go_must (refine(hct _).mono ?_;rintro e wx ⟨rfl,rfl⟩))|(go_at_call 80;go_must (refine(hcn _).mono ?_;rintro e wx ⟨rfl,rfl⟩))|(go_at_call 81;go_must (refine(hcv _).mono ?_;rintro e w5 ⟨rfl,hb5⟩;have hownA5:=Own.keepb (show Own w.heap.size u3 p _ from hownA) hb5;have hbA5:=hbA.trans (hb5.mono hbA.size);have hf5:=(hb5.block wr.heap.size (by simp)).trans hfvA;obtain⟨hk0,hk1⟩:=var_cells hf5)))
      go_ret
      exact⟨by rw[hE.out];rfl,hbA5⟩
     ·have hok:Pl.okF (n,v)=true:=Pl.okF_mk _ (by dsimp only;omega) hN hV
      have hn7:=Pl.nameOk_size n hN
      simp only[hN] at hcn
      simp only[hV] at hcv
      clear hN hV Hbad
      have hll:=Pl.line_len (n,v)
      dsimp only at hll
      by_cases hT:100000<p.length+n.size+v.size+3
      ·have hE:Hid (Pl.hd [] F=[]):=Hlong.out hok (by rw[List.length_append,hll];omega)
       clear Hlong Hstep hok
       go_wp2_with (first|(go_at_call 49;go_must (refine(hct _).mono ?_;rintro e wx ⟨rfl,rfl⟩))|(go_at_call 80;go_must (refine(hcn _).mono ?_;rintro e wx ⟨rfl,rfl⟩))|(go_at_call 81;go_must (refine(hcv _).mono ?_;rintro e w5 ⟨rfl,hb5⟩;have hownA5:=Own.keepb (show Own w.heap.size u3 p _ from hownA) hb5;have hbA5:=hbA.trans (hb5.mono hbA.size);have hf5:=(hb5.block wr.heap.size (by simp)).trans hfvA;obtain⟨hk0,hk1⟩:=var_cells hf5))|(at_builtin;go_must (first|(refine wp_apps_v (W:=w) rfl _ _ 22 9 rfl i0 Tryz.underlying22 Tryz.underlying9 hi hy0 hy1 hy2 w.heap.size v3 (p++n.data.toList ++ [58]++v.data.toList) rfl hown3 ⟨#[13,10]⟩ rfl (by rw[show(ByteArray.mk #[13,10]).size=2 from rfl];simp;omega) (Nat.le_refl _) hb3 wr.heap.size _ 38 (0,0) (by decide) hf3 ?_;intro v4 w4 hown4 hb4 hf4;obtain⟨g4,cap4,L,rfl,hL⟩:=hown4.some_len (by simp;omega);have hLd:decide ((100000:Int)<(L:Int))=true:=(by have e:=hL;simp only[List.length_append,List.length_cons,List.length_nil,Pl.len_list] at e;first|exact decide_eq_true (by omega)|exact decide_eq_false (by omega));clear hL)|(refine wp_apps_v (W:=w) rfl _ _ 22 9 rfl i0 Tryz.underlying22 Tryz.underlying9 hi hy0 hy1 hy2 w.heap.size v2 (p++n.data.toList ++ [58]) rfl hown2 v rfl (by simp;omega) (Nat.le_refl _) hb2 wr.heap.size _ 38 (0,0) (by decide) hf2 ?_;intro v3 w3 hown3 hb3 hf3)|(refine wp_app_v (W:=w) rfl _ _ 22 rfl i0 Tryz.underlying22 hi hy0 hy1 hy2 w.heap.size v1 (p++n.data.toList) rfl hown1 _ [58] rfl 1 1 rfl rfl (by simp;omega) (Nat.le_refl _) hb1 wr.heap.size _ 38 (0,0) (by decide) hf1 ?_;intro v2 w2 hown2 hb2 hf2;obtain⟨he0,he1⟩:=var_cells hf2)|(refine wp_apps_v (W:=w) rfl _ _ 22 9 rfl i0 Tryz.underlying22 Tryz.underlying9 hi hy0 hy1 hy2 w.heap.size u3 p rfl hownA5 n rfl (by omega) (Nat.le_refl _) hbA5 wr.heap.size _ 38 (0,0) (by decide) hf5 ?_;intro v1 w1 hown1 hb1 hf1;obtain⟨hd0,hd1⟩:=var_cells hf1))))
       go_ret
       exact⟨by rw[hE.out];rfl,hb4⟩
      ·have hE:Hid (Pl.hd (p++n.data.toList ++ [58]++v.data.toList ++ [13,10]) (F.drop (k+1))=Pl.hd [] F):=show _=_ from by
        have:=Hstep.out hok (by rw[List.length_append,hll];omega)
        rw[← this]
        simp[Pl.line]
       clear Hlong Hstep hok
       go_wp2_with (first|(go_at_call 49;go_must (refine(hct _).mono ?_;rintro e wx ⟨rfl,rfl⟩))|(go_at_call 80;go_must (refine(hcn _).mono ?_;rintro e wx ⟨rfl,rfl⟩))|(go_at_call 81;go_must (refine(hcv _).mono ?_;rintro e w5 ⟨rfl,hb5⟩;have hownA5:=Own.keepb (show Own w.heap.size u3 p _ from hownA) hb5;have hbA5:=hbA.trans (hb5.mono hbA.size);have hf5:=(hb5.block wr.heap.size (by simp)).trans hfvA;obtain⟨hk0,hk1⟩:=var_cells hf5))|(at_builtin;go_must (first|(refine wp_apps_v (W:=w) rfl _ _ 22 9 rfl i0 Tryz.underlying22 Tryz.underlying9 hi hy0 hy1 hy2 w.heap.size v3 (p++n.data.toList ++ [58]++v.data.toList) rfl hown3 ⟨#[13,10]⟩ rfl (by rw[show(ByteArray.mk #[13,10]).size=2 from rfl];simp;omega) (Nat.le_refl _) hb3 wr.heap.size _ 38 (0,0) (by decide) hf3 ?_;intro v4 w4 hown4 hb4 hf4;obtain⟨g4,cap4,L,rfl,hL⟩:=hown4.some_len (by simp;omega);have hLd:decide ((100000:Int)<(L:Int))=false:=(by have e:=hL;simp only[List.length_append,List.length_cons,List.length_nil,Pl.len_list] at e;first|exact decide_eq_true (by omega)|exact decide_eq_false (by omega));clear hL)|(refine wp_apps_v (W:=w) rfl _ _ 22 9 rfl i0 Tryz.underlying22 Tryz.underlying9 hi hy0 hy1 hy2 w.heap.size v2 (p++n.data.toList ++ [58]) rfl hown2 v rfl (by simp;omega) (Nat.le_refl _) hb2 wr.heap.size _ 38 (0,0) (by decide) hf2 ?_;intro v3 w3 hown3 hb3 hf3)|(refine wp_app_v (W:=w) rfl _ _ 22 rfl i0 Tryz.underlying22 hi hy0 hy1 hy2 w.heap.size v1 (p++n.data.toList) rfl hown1 _ [58] rfl 1 1 rfl rfl (by simp;omega) (Nat.le_refl _) hb1 wr.heap.size _ 38 (0,0) (by decide) hf1 ?_;intro v2 w2 hown2 hb2 hf2;obtain⟨he0,he1⟩:=var_cells hf2)|(refine wp_apps_v (W:=w) rfl _ _ 22 9 rfl i0 Tryz.underlying22 Tryz.underlying9 hi hy0 hy1 hy2 w.heap.size u3 p rfl hownA5 n rfl (by omega) (Nat.le_refl _) hbA5 wr.heap.size _ 38 (0,0) (by decide) hf5 ?_;intro v1 w1 hown1 hb1 hf1;obtain⟨hd0,hd1⟩:=var_cells hf1))))
       go_roundw
       case rel=>exact⟨k+1,_,by omega,by go_num,by simp;omega,hE,hown4,hb4⟩
       case measure=>simp[Lib.intOf];omega
  ·have hpn:Hid (Pl.hd [] F=p):=show _=_ from Pl.hd_done p _ F k (by omega) hp.out
   clear hp
   have hbk:=hown.back (P:=Tryz.prog) 22 9 Tryz.underlying22 Tryz.underlying5 Tryz.underlying9
   go_wp2
   go_ret
   rw[hpn.out]
   exact⟨rfl,hb⟩
namespace Pl
def rdw (p:UInt8→Bool)(l:List UInt8):List UInt8:=(l.reverse.dropWhile p).reverse
theorem rdw_cons (p:UInt8→Bool)(c:UInt8)(r:List UInt8):rdw p (c::r)=if rdw p r=[]∧p c=true then [] else c::rdw p r:=by
 unfold rdw
 rw[List.reverse_cons,List.dropWhile_append]
 cases h:(r.reverse.dropWhile p).isEmpty
 ·rw[if_neg (by simp)]
  have hne:¬r.reverse.dropWhile p=[]:=by intro e;rw[e] at h;simp at h
  rw[if_neg (by intro e;exact hne (by simpa using e.1))]
  simp
 ·have he:r.reverse.dropWhile p=[]:=by simpa using h
  rw[if_pos rfl,he]
  cases hp:p c<;>simp[hp]
theorem dw_rdw (p:UInt8→Bool):∀l:List UInt8,(rdw p l).dropWhile p=rdw p (l.dropWhile p)
 | []=>rfl
 | c::r=>by
  have ih:=dw_rdw p r
  rw[rdw_cons,List.dropWhile_cons]
  cases hp:p c
  ·rw[if_neg (by simp),if_neg (by simp),List.dropWhile_cons,if_neg (by rw[hp];simp),rdw_cons,if_neg (by rw[hp];simp)]
  ·rw[if_pos rfl,← ih]
   by_cases h0:rdw p r=[]
   ·rw[if_pos ⟨h0,rfl⟩,h0]
   ·rw[if_neg (fun e=>h0 e.1),List.dropWhile_cons,if_pos hp]
theorem dw_congr (p q:UInt8→Bool):∀l:List UInt8,(∀c ∈ l,p c=q c)→l.dropWhile p=l.dropWhile q
 | [],_=>rfl
 | c::r,h=>by
  rw[List.dropWhile_cons,List.dropWhile_cons,h c (by simp),dw_congr p q r (fun x hx=>h x (List.mem_cons_of_mem _ hx))]
theorem rn_no9:∀(l:List UInt8)(b:Bool),∀c ∈ rn b l,blank c=(c==32)
 | [],b=>fun c h=>absurd h (by simp[rn])
 | a::r,b=>fun c h=>by
  rw[rn] at h
  cases ha:blank a
  ·rw[ha,if_neg (by simp)] at h
   rcases List.mem_cons.1 h with rfl|h
   ·rw[ha]
    unfold blank at ha
    rw[Bool.or_eq_false_iff] at ha
    exact ha.1.symm
   ·exact rn_no9 r false c h
  ·rw[ha,if_pos rfl] at h
   cases b
   ·rw[if_neg (by simp)] at h
    rcases List.mem_cons.1 h with rfl|h
    ·rfl
    ·exact rn_no9 r true c h
   ·rw[if_pos rfl] at h
    exact rn_no9 r true c h
theorem bare_mem (r:List UInt8)(c:UInt8)(h:c ∈ bareEnd r):c ∈ r:=by
 unfold bareEnd at h
 split at h
 ·exact List.dropLast_subset _ h
 ·exact h
theorem bare_rdw (r:List UInt8):rdw (· == 32) (bareEnd r)=rdw (· == 32) r:=by
 unfold bareEnd
 split
 ·rename_i hl
  unfold lastSp at hl
  rcases List.eq_nil_or_concat r with rfl|⟨p,c,rfl⟩
  ·rfl
  ·have hc:c=32:=by simpa using hl
   subst hc
   unfold rdw
   simp
 ·rfl
theorem trim_one (u:List UInt8):Lib.trimB (rn false u) 32=trimB (runs u):=by
 have h9:∀c ∈ bareEnd (rn false u),blank c=(c==32):=fun c h=>rn_no9 u false c (bare_mem _ c h)
 have h1:(runs u).dropWhile blank=(runs u).dropWhile (· == 32):=dw_congr _ _ _ h9
 have h2:∀c ∈ (runs u).dropWhile (· == 32),blank c=(c==32):=fun c h=>h9 c (List.dropWhile_subset _ h)
 unfold trimB endB
 rw[h1,dw_congr blank (· == 32) ((runs u).dropWhile (· == 32)).reverse (fun c h=>h2 c (List.mem_reverse.1 h))]
 have h3:=dw_rdw (· == 32) (runs u)
 unfold runs at h3
 rw[bare_rdw] at h3
 exact h3
end Pl
theorem implIsForm (x:Int)(w:World):Calls Tryz.prog 57 #[.int .i64 x] w fun e w'=>e=.returned (.bool (x==0 || x==1))∧w=w':=by
 cases h0:(x==0)
 ·cases h1:(x==1)
  ·go_enter Tryz.func57,Tryz.ntmps57
   go_wp2
   go_ret
   exact⟨rfl,rfl⟩
  ·go_enter Tryz.func57,Tryz.ntmps57
   go_wp2
   go_ret
   exact⟨rfl,rfl⟩
 ·go_enter Tryz.func57,Tryz.ntmps57
  go_wp2
  go_ret
  exact⟨rfl,rfl⟩
theorem hd_text (n v:ByteArray)(h:¬Pl.hd [] [(n,v)]=[]):(⟨(Pl.hd [] [(n,v)]).toArray⟩:ByteArray)=n++⟨#[58]⟩++v++⟨#[13,10]⟩:=by
 rw[Pl.hd] at h ⊢
 split at h
 ·rename_i h1
  rw[if_pos h1]
  split at h
  ·exact absurd rfl h
  ·rename_i h2
   rw[if_neg h2,Pl.hd]
   apply ByteArray.ext
   simp[Pl.line]
 ·exact absurd rfl h
theorem implCanonField (n v:ByteArray)(x:Int)(w:World)(hn:n.size≤1048576)(hv:v.size≤1048576) :
  Calls Tryz.prog 66 #[.agg #[.string n,.string v],.int .i64 x] w fun e w'=>e=.returned (.string (canonF n v x))∧Below w.heap.size w w':=by
 have hW:=implWriteHead (some ⟨w.heap.size+1,0,none⟩) [(n,v)] 1 _ (one_fld n v w) (by simp) (fun f hf=>by obtain rfl:=List.mem_singleton.1 hf;exact⟨hn,hv⟩)
 have hA:Below w.heap.size w ((w.alloc (.cells #[.string n,.string v] 38)).alloc (.cells #[.string n,.string v] 38)):=((Below.refl _ _).alloc (Nat.le_refl _) _).alloc (by simp) _
 have hk:((w.alloc (.cells #[.string n,.string v] 38)).alloc (.cells #[.string n,.string v] 38)).cell? ⟨w.heap.size,0,none⟩=some (.string n)∧((w.alloc (.cells #[.string n,.string v] 38)).alloc (.cells #[.string n,.string v] 38)).cell? ⟨w.heap.size,1,none⟩=some (.string v):=by
  constructor<;>simp[World.cell?_alloc_old]
 have HE:Hid (¬Pl.hd [] [(n,v)]=[]→(⟨(Pl.hd [] [(n,v)]).toArray⟩:ByteArray)=n++⟨#[58]⟩++v++⟨#[13,10]⟩):=show _→_ from hd_text n v
 obtain⟨T,hT⟩:∃T:ByteArray,T=⟨(Pl.hd [] [(n,v)]).toArray⟩:=⟨_,rfl⟩
 rw[← hT] at hW HE
 have HT:Hid (T.toList.isEmpty=true↔Pl.hd [] [(n,v)]=[]):=show _↔_ from by
  rw[hT,ByteArray.toList_eq]
  simp
 clear hT
 obtain⟨R,hR⟩:∃R,canonF n v x=R:=⟨_,rfl⟩
 have HR:Hid (canonF n v x=R):=hR
 rw[hR]
 clear hR
 have hF:=fun w=>implIsForm x w
 go_enter Tryz.func66,Tryz.ntmps66
 go_wp2_with fail
 refine hW.mono ?_
 rintro e w2 ⟨rfl,hb2⟩
 have Hbw:Hid (Below w.heap.size w w2):=hA.trans (hb2.mono hA.size)
 have k0:=(hb2.cell (World.block_lt_of_cell? _ _ hk.1)).trans hk.1
 have k1:=(hb2.cell (World.block_lt_of_cell? _ _ hk.2)).trans hk.2
 clear hW hA hb2 hk
 cases hTe:T.toList.isEmpty
 ·have hne:¬Pl.hd [] [(n,v)]=[]:=fun e=>by have:=HT.out.2 e;rw[hTe] at this;cases this
  have hs:=hd_one n v hne
  have Hne:Hid (¬Pl.hd [] [(n,v)]=[]):=hne
  have HTe:Hid (T=n++⟨#[58]⟩++v++⟨#[13,10]⟩):=HE.out hne
  clear hne HT HE
  by_cases h0:x=0
  ·subst h0
   go_wp2_with fail
   refine(hF _).mono ?_
   rintro e w3 ⟨rfl,rfl⟩
   go_wp2
   go_ret
   exact⟨by rw[← HR.out,canonF,if_neg Hne.out,if_pos rfl,← HTe.out];rfl,Hbw.out⟩
  ·have e0:(x==0)=false:=beq_eq_false_iff_ne.2 h0
   have H0:Hid (¬x=0):=h0
   clear h0
   rw[e0] at hF
   by_cases h1:x=1
   ·have e1:(x==1)=true:=by rw[h1];rfl
    rw[e1] at hF
    have H1:Hid (x=1):=h1
    clear h1
    have hlu:(Pl.unf false v.data.toList).length≤100000:=by
     have:=Pl.unf_len v.data.toList false
     rw[Pl.len_list] at this
     omega
    have hlr:(Pl.rn false (Pl.unf false v.data.toList)).length≤100000:=Nat.le_trans (Pl.rn_len _ _) hlu
    have hlt:(relaxV v).length≤100000:=Nat.le_trans (Pl.trimB_len _) (Nat.le_trans (Pl.runs_len _) hlu)
    have bs:∀l:List UInt8,l.length≤100000→(⟨l.toArray⟩:ByteArray).size≤100000:=fun l h=>by show l.toArray.size≤_;rw[List.size_toArray];exact h
    have hL:=fun w=>implLowered n w hs.1
    have hU:=fun w=>implUnfolded v w (by omega)
    have hN:∀w:World,Calls Tryz.prog 60 #[.string ⟨(Pl.unf false v.data.toList).toArray⟩] w fun e w'=>e=.returned (.string ⟨(Pl.rn false (Pl.unf false v.data.toList)).toArray⟩)∧Below w.heap.size w w':=fun w=>implOneSpaced ⟨(Pl.unf false v.data.toList).toArray⟩ w (bs _ hlu)
    have hM:∀w:World,Calls Tryz.prog 109 #[.string ⟨(Pl.rn false (Pl.unf false v.data.toList)).toArray⟩,.string ⟨#[32]⟩] w fun e w'=>e=.returned (.string ⟨(relaxV v).toArray⟩)∧Below w.heap.size w w':=fun w=>(Tryz.strings_Trim_one ⟨(Pl.rn false (Pl.unf false v.data.toList)).toArray⟩ 32 (by decide) w (Nat.le_trans (bs _ hlr) (by omega))).mono fun e w' ⟨he,hw⟩=>⟨by rw[he];show Ending.returned (Value.string ⟨(Lib.trimB (Pl.rn false (Pl.unf false v.data.toList)) 32).toArray⟩)=_;rw[Pl.trim_one];rfl,by rcases hw with rfl|rfl;exact Below.refl _ _;exact(Below.refl _ _).drew⟩
    have zl:(⟨(lower n.data.toList).toArray⟩:ByteArray).size≤100000:=bs _ (by unfold lower;rw[List.length_map,Pl.len_list];exact hs.1)
    have zt:(⟨(relaxV v).toArray⟩:ByteArray).size≤100000:=bs _ hlt
    have HR2:Hid ((⟨(lower n.data.toList).toArray⟩:ByteArray)++⟨#[58]⟩++⟨(relaxV v).toArray⟩++⟨#[13,10]⟩=R):=by
     show _=_
     rw[← HR.out,canonF,if_neg Hne.out,if_neg H0.out,if_pos H1.out]
    clear HR Hne H0 H1 hlu hlr hlt bs HTe
    generalize (⟨(relaxV v).toArray⟩:ByteArray)=tt at *
    generalize (⟨(Pl.rn false (Pl.unf false v.data.toList)).toArray⟩:ByteArray)=tr at *
    generalize (⟨(Pl.unf false v.data.toList).toArray⟩:ByteArray)=tu at *
    generalize (⟨(lower n.data.toList).toArray⟩:ByteArray)=tl at *
    have k0':=cell_regrown k0
    have k1':=cell_regrown k1
    have cL:∀d os,Calls Tryz.prog 77 #[.string n] (Go.Sort.grow (redrawn w2 d) os) fun e w''=>e=.returned (.string tl)∧∃p:Regrown,w''=Go.Sort.grow (redrawn w2 p.d) p.os:=fun d os=>Calls.regrown_of (hL _)
    have cU:∀d os,Calls Tryz.prog 110 #[.string v] (Go.Sort.grow (redrawn w2 d) os) fun e w''=>e=.returned (.string tu)∧∃p:Regrown,w''=Go.Sort.grow (redrawn w2 p.d) p.os:=fun d os=>Calls.regrown_of (hU _)
    have cN:∀d os,Calls Tryz.prog 60 #[.string tu] (Go.Sort.grow (redrawn w2 d) os) fun e w''=>e=.returned (.string tr)∧∃p:Regrown,w''=Go.Sort.grow (redrawn w2 p.d) p.os:=fun d os=>Calls.regrown_of (hN _)
    have cM:∀d os,Calls Tryz.prog 109 #[.string tr,.string ⟨#[32]⟩] (Go.Sort.grow (redrawn w2 d) os) fun e w''=>e=.returned (.string tt)∧∃p:Regrown,w''=Go.Sort.grow (redrawn w2 p.d) p.os:=fun d os=>Calls.regrown_of (hM _)
    have HL:=(show Hid _ from cL)
    have HU:=(show Hid _ from cU)
    have HN:=(show Hid _ from cN)
    have HM:=(show Hid _ from cM)
    clear cL cU cN cM hL hU hN hM
    have n0:¬9223372036854775807<tl.size+1:=by omega
    have n1:¬9223372036854775807<tl.size+1+tt.size:=by omega
    have n2:¬9223372036854775807<tl.size+1+tt.size+2:=by omega
    go_wp2_with fail
    refine(hF _).mono ?_
    rintro e w3 ⟨rfl,rfl⟩
    go_wp2
    refine wp_region_quiet_below (by kernel_rfl) (by kernel_rfl) ?_
    quiet_step (fail)
    quiet_step (fail)
    quiet_step (exact HL.out _ _)
    quiet_step (fail)
    quiet_step (fail)
    quiet_step (fail)
    quiet_step (exact HU.out _ _)
    quiet_step (exact HN.out _ _)
    quiet_step (exact HM.out _ _)
    repeat (quiet_step (fail))
    refine wpQuiet_nil ?_
    intro _ hw'
    obtain⟨⟨dq,osq⟩,hw''⟩:=hw'
    subst hw''
    have hbq:=Hbw.out.trans ((below_regrown w2 dq osq).mono Hbw.out.size)
    go_wp2
    go_ret
    exact⟨by rw[← HR2.out];rfl,hbq⟩
   ·have e1:(x==1)=false:=beq_eq_false_iff_ne.2 h1
    have H1:Hid (¬x=1):=h1
    rw[e1] at hF
    clear h1
    go_wp2_with fail
    refine(hF _).mono ?_
    rintro e w3 ⟨rfl,rfl⟩
    go_wp2
    go_ret
    exact⟨by rw[← HR.out,canonF,if_neg Hne.out,if_neg H0.out,if_neg H1.out];rfl,Hbw.out⟩
 ·have he:Pl.hd [] [(n,v)]=[]:=HT.out.1 hTe
  have He:Hid (Pl.hd [] [(n,v)]=[]):=he
  clear he HT
  go_wp2
  go_ret
  exact⟨by rw[← HR.out,canonF,if_pos He.out];rfl,Hbw.out⟩
open Go.RowKit Go.Lib Go.Maps
def toBA (F:List Fl):List Fd:=F.map fun f=>(⟨f.1.toArray⟩,⟨f.2.toArray⟩)
theorem toBA_len (F:List Fl):(toBA F).length=F.length:=by simp[toBA]
theorem toBA_at (F:List Fl)(k:Nat)(h:k<F.length):(toBA F)[k]?=some (⟨F[k].1.toArray⟩,⟨F[k].2.toArray⟩):=by
 unfold toBA
 rw[List.getElem?_map,List.getElem?_eq_getElem h]
 rfl
theorem toBA_erase (F:List Fl)(k:Nat):toBA (F.eraseIdx k)=(toBA F).eraseIdx k:=by
 unfold toBA
 rw[List.eraseIdx_eq_take_drop_succ,List.eraseIdx_eq_take_drop_succ,List.map_append,List.map_take,List.map_drop]
theorem OwnF.fld {B:Nat} {v:Value} {F:List Fl} {w:World} (h:OwnF B v F w):∃o cap,v=.slice o F.length cap∧Fld w.heap.size w o (toBA F):=by
 rcases h.2 with ⟨rfl,h0⟩|⟨g,cap,cur,rfl,hB,hg,hc⟩
 ·obtain rfl:F=[]:=List.length_eq_zero_iff.1 h0
  exact⟨none,0,rfl,fun i hi=>absurd hi (by simp[toBA])⟩
 ·refine⟨_,cap,rfl,?_⟩
  intro i hi
  have hi':i<F.length:=by simpa [toBA] using hi
  obtain⟨d0,d1⟩:=cellsF_get F i hi'
  have c0:=World.ownsRow.cells h (g:=g) rfl (i*2) _ d0
  have c1:=World.ownsRow.cells h (g:=g) rfl (i*2+1) _ d1
  rw[add_off] at c0 c1
  refine⟨_,rfl,(Array.getElem?_eq_some_iff.1 hg).1,?_,?_⟩
  ·rw[add_off,c0];simp[toBA,txt]
  ·rw[add_off]
   show w.cell? ⟨g,i*2+1,none⟩=_
   rw[c1];simp[toBA,txt]
theorem nm_mt (L:List Fd)(m:ByteArray):lastTo (nmAt L m) L.length=lastTo (mtAt (nmF m) L) L.length:=by
 apply lastTo_congr
 intro i hi
 unfold nmAt mtAt nmF
 rw[dif_pos hi,List.getElem?_eq_getElem hi]
 rfl
theorem own_apartF {B B':Nat} {v u:Value} {O:List UInt8} {L:List Fl} {w:World} (h:Own B v O w)(k:OwnF B' u L w):v.ownBlock=none∨v.ownBlock≠u.ownBlock:=by
 rcases h.2 with ⟨rfl,-⟩|⟨g,cap,cur,rfl,-,hg,-⟩
 ·exact .inl rfl
 ·right
  rcases k.2 with ⟨rfl,-⟩|⟨g',cap',cur',rfl,-,hg',-⟩
  ·intro e;cases e
  ·intro e
   have e2:g=g':=by simpa [Value.ownBlock] using e
   subst e2
   rw[hg] at hg'
   simp at hg'
theorem opAppS {w:World} {o:Oper} {a:Act} {K:Act→World→Prop} {Q:Exit→Act→World→Prop} (s x:Operand)(t u:TypeId)
  (ho:o.op=.call { callee:=.builtin .append,args:=#[s,x],argTypes:=#[t,u] })
  (i:TypeInfo) (ht:Tryz.prog.underlying t=some (.slice 5)) (hu:Tryz.prog.underlying u=some .string) (hi:Tryz.prog.info? 5=some i) (hz:i.zero=some (.int .u8 0)) (hsize:i.size=1) (hby:i.bytes=1)
  (B:Nat) (v:Value) (p:List UInt8) (hs:a.eval s=v) (hown:Own B v p w) (news:ByteArray) (hx:a.eval x=.string news) (hlen:p.length+news.size≤140737488355328) (hB:B≤w.heap.size)
  (h:∀v' w',Own B v' (p++news.data.toList) w'→w.grownBy w' v.ownBlock→K (a.put o.dst v') w'):o.wp Tryz.prog a w K Q:=by
 obtain⟨v',w',hr,h2,h3,h4⟩:=run_append_own_string (P:=Tryz.prog) w B t u o.type 5 i ht hu hi hz hsize hby v p.length (byteCells p) hown news (by unfold maxLen;omega) hlen hB
 unfold Oper.wp execOp
 simp only[ho,resolve,invoke,builtin,Sem.run_bind,Sem.run_pure,Result.andThen_ok,List.map_toArray,List.map_cons,List.map_nil,hs,hx,hr]
 refine h v' w' ?_ h3
 unfold Own
 rw[byteCells_append,List.length_append]
 exact h2
def Pl.added (t m:ByteArray):ByteArray:=if t.toList=[] then ⟨#[]⟩ else if 100000<t.size+m.size then ⟨#[]⟩ else t++m
theorem specAdd (m t:ByteArray)(v:Value)(w:World)(hm:m.size≤1048576)(ht:t.size≤100000)(hS:∀w1,w1=w→Calls Tryz.prog 44 #[v] w1 fun e w'=>e=.returned (.string t)∧Below w1.heap.size w1 w') :
  Calls Tryz.prog 26 #[.string m,v] w fun e w'=>e=.returned (.string (Pl.added t m))∧Below w.heap.size w w':=by
 unfold Pl.added
 split
 ·rename_i h0
  go_enter Tryz.func26,Tryz.ntmps26
  go_wp2_with fail
  refine(hS _ rfl).mono ?_
  rintro e w1 ⟨rfl,hb1⟩
  go_wp2
  go_ret
  exact⟨rfl,hb1⟩
 ·rename_i h0
  have h0':t.toList ≠ []:=h0
  split
  ·rename_i hl
   by_cases hm1:100000<m.size
   ·go_enter Tryz.func26,Tryz.ntmps26
    go_wp2_with fail
    refine(hS _ rfl).mono ?_
    rintro e w1 ⟨rfl,hb1⟩
    go_wp2
    go_ret
    exact⟨rfl,hb1⟩
   ·go_enter Tryz.func26,Tryz.ntmps26
    go_wp2_with fail
    refine(hS _ rfl).mono ?_
    rintro e w1 ⟨rfl,hb1⟩
    go_wp2
    go_ret
    exact⟨rfl,hb1⟩
  ·rename_i hl
   have hm1:¬100000<m.size:=by omega
   have h0b:t.toList.isEmpty=false:=by cases h:t.toList<;>simp_all
   go_enter Tryz.func26,Tryz.ntmps26
   go_wp2_with fail
   refine(hS _ rfl).mono ?_
   rintro e w1 ⟨rfl,hb1⟩
   go_wp2
   go_ret
   exact⟨rfl,hb1⟩
theorem implWritten (t m:ByteArray)(bk:Nat)(w:World)(hm:m.size≤1048576)(ht:t.size≤100000)(hbk:bk<w.heap.size)(h0:w.cell? ⟨bk,0,none⟩=some (.string t))(h1:w.cell? ⟨bk,1,none⟩=some (.string m)) :
  Calls Tryz.prog 32 #[.slice (some ⟨bk,0,none⟩) 2 2] w fun e w'=>e=.returned (.string (if 100000<t.size+m.size then ⟨#[]⟩ else t++m))∧Below w.heap.size w w':=by
 have hJ:=Tryz.strings_Join bk 0 2 [t,m] ⟨#[]⟩ w (by intro j x hj;match j,hj with|0,hj=>cases hj;exact h0|1,hj=>cases hj;exact h1) hbk (by simp) (by simp) (by simp[Lib.join];omega)
 have HJ:Hid (Calls Tryz.prog 62 #[.slice (some ⟨bk,0,none⟩) 2 2,.string ⟨#[]⟩] w fun e w'=>e=.returned (.string (t++m))∧Below w.heap.size w w'):=by
  refine hJ.mono ?_
  rintro e w' ⟨rfl,hb⟩
  exact⟨by simp[Lib.join];rfl,hb⟩
 clear hJ
 have hsum:∀l:Bool,decide ((100000:Int)<(t.size:Int)+(m.size:Int))=l→Calls Tryz.prog 32 #[.slice (some ⟨bk,0,none⟩) 2 2] w fun e w'=>e=.returned (.string (if l then ⟨#[]⟩ else t++m))∧Below w.heap.size w w':=by
  intro l hl
  have HL:Hid (decide ((100000:Int)<(t.size:Int)+(m.size:Int))=l):=hl
  clear hl
  go_enter Tryz.func32,Tryz.ntmps32
  go_wp2
  go_loopw [3,8] (fun s i wr=>((s=.int .i64 0∧i=.int .i64 0)∨(s=.int .i64 t.size∧i=.int .i64 1)∨(s=.int .i64 ((t.size:Int)+(m.size:Int))∧i=.int .i64 2))∧wr=w) (fun _ i _=>2-(Lib.intOf i).toNat)
  case atStart=>exact⟨.inl ⟨rfl,rfl⟩,rfl⟩
  case round=>
   obtain⟨h,rfl⟩:=hrel
   rcases h with ⟨rfl,rfl⟩|⟨rfl,rfl⟩|⟨rfl,rfl⟩
   ·go_wp2
    go_roundw
    case rel=>exact⟨.inr (.inl ⟨by go_num,by go_num⟩),trivial⟩
    case measure=>simp[Lib.intOf]
   ·go_wp2
    go_roundw
    case rel=>exact⟨.inr (.inr ⟨by go_num,by go_num⟩),trivial⟩
    case measure=>simp[Lib.intOf]
   ·cases l
    ·have hl:=HL.out
     go_wp2_with fail
     refine HJ.out.mono ?_
     rintro e w2 ⟨rfl,hb⟩
     go_wp2
     go_ret
     exact⟨rfl,hb⟩
    ·have hl:=HL.out
     go_wp2
     go_ret
     exact⟨rfl,Below.refl _ _⟩
 have:=hsum _ rfl
 split
 ·rename_i hl
  rw[decide_eq_true (show(100000:Int)<(t.size:Int)+(m.size:Int) by omega)] at this
  exact this
 ·rename_i hl
  rw[decide_eq_false (show ¬(100000:Int)<(t.size:Int)+(m.size:Int) by omega)] at this
  exact this
theorem implAdd (m t:ByteArray)(v:Value)(w:World)(hm:m.size≤1048576)(ht:t.size≤100000)(hS:∀w1,w1=w→Calls Tryz.prog 31 #[v] w1 fun e w'=>e=.returned (.string t)∧Below w1.heap.size w1 w') :
  Calls Tryz.prog 8 #[.string m,v] w fun e w'=>e=.returned (.string (Pl.added t m))∧Below w.heap.size w w':=by
 unfold Pl.added
 split
 ·rename_i h0
  go_enter Tryz.func8,Tryz.ntmps8
  go_wp2_with fail
  refine(hS _ rfl).mono ?_
  rintro e w1 ⟨rfl,hb1⟩
  go_wp2
  go_ret
  exact⟨rfl,hb1⟩
 ·rename_i h0
  have h0b:t.toList.isEmpty=false:=by cases h:t.toList<;>simp_all
  have hI:=fun bk w hbk h0 h1=>implWritten t m bk w hm ht hbk h0 h1
  generalize (if 100000<t.size+m.size then (⟨#[]⟩:ByteArray) else t++m)=r at hI ⊢
  go_enter Tryz.func8,Tryz.ntmps8
  go_wp2_with fail
  refine(hS _ rfl).mono ?_
  rintro e w1 ⟨rfl,hb1⟩
  have hbA:=hb1.alloc hb1.size (.cells #[.string t,.string m] 9)
  go_wp2_with fail
  refine(hI w1.heap.size _ (by simp) (by simp) (by simp)).mono ?_
  rintro e w2 ⟨rfl,hb2⟩
  have hb3:=hbA.trans (hb2.mono hbA.size)
  go_wp2
  go_ret
  exact⟨rfl,hb3⟩
theorem fsum_toBA (F:List Fl):fsum (toBA F)=flsum F:=by
 unfold fsum toBA flsum fsz
 rw[List.map_map]
 congr 1
theorem fl_size (F:List Fl)(n:Nat)(h:flsum F≤n):∀f ∈ F,f.1.length+3≤n∧f.2.length+3≤n:=by
 intro f hf
 have:f.1.length+f.2.length+3≤flsum F:=by
  unfold flsum
  clear h
  induction F with
  | nil=>cases hf
  | cons a r ih=>
   rw[List.map_cons,List.sum_cons]
   rcases List.mem_cons.1 hf with rfl|hf
   ·omega
   ·have:=ih hf
    omega
 omega
theorem sm_lt (A x:Nat):∀(l:List UInt8),x<2147483647→Ps.sm A x l<2147483647:=by
 intro l hx
 exact Ps.sm_lt A l x hx
def sgText (M:List ByteArray)(h:Int)(L:List Fd)(v:ByteArray):ByteArray:=⟨(tkL h M L).toArray⟩++ownB v h
def sgBody (msg:ByteArray)(b:Int):ByteArray:=canonAny (msg.extract (RH msg).body msg.size) b
def sgFront (msg d s:ByteArray)(A B:Nat)(M:List ByteArray)(h b:Int):ByteArray:=frontT d s M h b (Ps.sm A 1 (sgBody msg b).data.toList) (Ps.sm B 1 (sgBody msg b).data.toList)
def sgHead (msg d s:ByteArray)(A B:Nat)(M:List ByteArray)(h b:Int):ByteArray:=sgText M h (toBA (RH msg).fields) (sgFront msg d s A B M h b)
def sgValue (msg d s:ByteArray)(A B:Nat)(M:List ByteArray)(h b:Int):ByteArray:=sgFront msg d s A B M h b++sumT (Ps.sm A 1 (sgHead msg d s A B M h b).data.toList) (Ps.sm B 1 (sgHead msg d s A B M h b).data.toList)
def plSign (msg d s:ByteArray)(A B:Int)(M:List ByteArray)(h b:Int):ByteArray:=
 if signerOk d s A B M h b=true∧(RH msg).code=0∧¬(RH msg).fields.length=200 then Pl.added ⟨(Pl.hd [] [(sgName,sgValue msg d s A.toNat B.toNat M h b)]).toArray⟩ msg else ⟨#[]⟩
set_option maxRecDepth 10000 in
theorem specSame (n m:ByteArray)(w:World)(hn:n.size≤100000)(hm:m.size≤100000) :
  Calls Tryz.prog 74 #[.string n,.string m] w fun e w'=>e=.returned (.bool (namedB n m))∧Below w.heap.size w w':=by
 have hA:=fun w=>specLower n w hn
 have hB:=fun w=>specLower m w hm
 have HE:Hid (namedB n m=((⟨(lower n.data.toList).toArray⟩:ByteArray).data.toList==(⟨(lower m.data.toList).toArray⟩:ByteArray).data.toList)):=rfl
 generalize (⟨(lower n.data.toList).toArray⟩:ByteArray)=ta at *
 generalize (⟨(lower m.data.toList).toArray⟩:ByteArray)=tb at *
 have HA:=(show Hid _ from hA)
 have HB:=(show Hid _ from hB)
 clear hA hB
 go_enter Tryz.func74,Tryz.ntmps74
 go_wp2_with fail
 refine(HA.out _).mono ?_
 rintro e w1 ⟨rfl,hb1⟩
 go_wp2_with fail
 refine(HB.out _).mono ?_
 rintro e w2 ⟨rfl,hb2⟩
 have hbq:=hb1.trans (hb2.mono hb1.size)
 go_wp2
 go_ret
 rw[HE.out,← ByteArray.toList_eq,← ByteArray.toList_eq]
 exact⟨rfl,hbq⟩
theorem rowIs_keepS {g n:Nat} {t:TypeId} {f:Nat→Value} {w w':World} (h:w.rowIs g t n f)(hb:Below w.heap.size w w'):w'.rowIs g t n f:=h.of_block (hb.block g h.lt)
theorem Tryz.infoBl:(Tryz.prog.info? 4).map (fun i=>(i.zero,i.size,i.bytes))=some (some (.bool false),1,1):=by kernel_rfl
def mkAt (Z:List (Fd × Bool))(j:Nat):Bool:=(Z[j]?.map (·.2)).getD false
theorem named_size (n m:ByteArray)(h:¬n.size=m.size):namedB n m=false:=by
 unfold namedB
 rw[beq_eq_false_iff_ne]
 intro e
 have:=congrArg List.length e
 simp[lower] at this
 exact h this
theorem un_at (p:Fd→Bool)(Z:List (Fd × Bool))(k:Nat)(hk:k<Z.length):unAt p Z k=(!mkAt Z k && p Z[k].1):=by
 unfold unAt mkAt
 rw[List.getElem?_eq_getElem hk]
 rfl
theorem mk_set (Z:List (Fd × Bool))(k:Nat)(hk:k<Z.length)(f:Fd)(j:Nat):mkAt (Z.set k (f,true)) j=if j=k then true else mkAt Z j:=by
 unfold mkAt
 rw[List.getElem?_set]
 by_cases e:k=j
 ·subst e;simp[hk]
 ·rw[if_neg e,if_neg (fun h=>e h.symm)]
theorem fst_set (Z:List (Fd × Bool))(F:List Fd)(k:Nat)(hk:k<Z.length)(h:Z.map (·.1)=F):(Z.set k (Z[k].1,true)).map (·.1)=F:=by
 subst h
 apply List.ext_getElem
 ·simp
 ·intro j h1 h2
  simp only[List.getElem_map,List.getElem_set]
  split
  ·rename_i e;subst e;rfl
  ·rfl
abbrev bxSg (d s:ByteArray)(A B:Int)(v:Value)(h b:Int):Obj:=.cells #[.string d,.string s,.int .i64 A,.int .i64 B,v,.int .i64 h,.int .i64 b] 27
theorem specText (d s:ByteArray)(A B h b:Int)(on:Option Addr)(M:List ByteArray)(capn:Nat)(fo:Option Addr)(F:List Fd)(capf:Nat)(v p:ByteArray)(w:World)
  (hM:Tx w.heap.size w on M) (hml:M.length≤30) (hmz:∀t ∈ M,t.size≤70) (hF:Fld w.heap.size w fo F) (hfl:F.length≤200) (hfz:∀f ∈ F,f.1.size≤100000∧f.2.size≤100000)
  (hfs:fsum F≤100002) (hv:v.size≤4000) (hp:canonF sgName v h=p++⟨#[13,10]⟩) (hps:p.size≤5000) :
  Calls Tryz.prog 25 #[sgV d s A B (.slice on M.length capn) h b,.slice fo F.length capf,.string v] w fun e w'=>e=.returned (.string (⟨(tkL h M F).toArray⟩++p))∧Below w.heap.size w w':=by
 obtain⟨R,hR⟩:∃R,tkL h M F=R:=⟨_,rfl⟩
 have hRl:R.length≤100002:=by rw[← hR];exact Nat.le_trans (tkL_len h M F) hfs
 have HR0:Hid ([]++tkZ h (M.drop 0) (F.map fun f=>(f,false))=R):=by
  show _=_
  rw[List.nil_append,List.drop_zero,tk_eq,keep_new]
  exact hR
 have cO:=mkHid (fun w'=>specCanonField sgName v h w' (by show 9≤1048576;omega) (by omega))
 rw[hp] at cO
 rw[hR]
 have HRl:=mkHid hRl
 have hpz:(p++(⟨#[13,10]⟩:ByteArray)).size=p.size+2:=by rw[ByteArray.size_append];rfl
 have hpx:(p++(⟨#[13,10]⟩:ByteArray)).extract 0 p.size=p:=by
  have:=own_cut p
  rw[hpz] at this
  simpa using this
 have HM:=mkHid hM
 have HF:=mkHid hF
 have Hmz:=mkHid hmz
 have Hfz:=mkHid hfz
 clear hR hRl hp hM hF hmz hfz hfs
 have hmk:=run_make_row' (P:=Tryz.prog) 99 4 (.bool false) 1 Tryz.underlying99 Tryz.infoBl rfl .i64 .i64 F.length (by omega) (by omega)
 obtain⟨w1,hw1⟩:∃w1,w1=w.alloc (bxSg d s A B (.slice on M.length capn) h b):=⟨_,rfl⟩
 have hs1:w1.heap.size=w.heap.size+1:=by rw[hw1];simp
 have hbw1:Below w.heap.size w w1:=by rw[hw1];exact(Below.refl _ _).alloc (Nat.le_refl _) _
 have e4:w1.cell? ⟨w.heap.size,4,none⟩=some (.slice on M.length capn):=by rw[hw1];simp
 have e5:w1.cell? ⟨w.heap.size,5,none⟩=some (.int .i64 h):=by rw[hw1];simp
 have HW1:=mkHid hw1
 clear hw1
 go_enter Tryz.func25,Tryz.ntmps25
 go_wp2
 clear hmk
 generalize hg:w.heap.size=g at *
 have Hg:=mkHid hg
 clear hg
 have hbw1H:=mkHid hbw1
 clear hbw1
 go_loopw [8,9] (fun ov iv wr=>∃ (i:Nat) (O:ByteArray) (Z:List (Fd × Bool)),i≤M.length∧ov=.string O∧iv=.int .i64 i∧Hid (Z.map (·.1)=F)∧Hid (O.data.toList++tkZ h (M.drop i) Z=R)∧Hid (wr.rowIs (g+1) 4 F.length (fun j=>.bool (mkAt Z j)))∧Hid (Below (g+1) w1 wr)) (fun _ iv _=>M.length-(Lib.intOf iv).toNat)
 case atStart=>
  refine⟨0,⟨#[]⟩,F.map fun f=>(f,false),Nat.zero_le _,rfl,rfl,?_,HR0,?_,?_⟩
  ·show List.map _ (List.map _ F)=F
   rw[List.map_map]
   exact(List.map_congr_left fun _ _=>rfl).trans (List.map_id F)
  ·have:=World.rowIs_made w1 (.bool false) F.length 4
   rw[hs1,HW1.out] at this
   refine World.rowIs.congr this fun j hj=>?_
   unfold mkAt
   simp[hj]
  ·have:=(Below.refl (g+1) w1).alloc (Nat.le_of_eq hs1.symm) (.cells (madeCells #[.bool false] F.length) 4)
   rw[HW1.out] at this ⊢
   exact this
 case round=>
  clear HR0
  obtain⟨i,O,Z,hi,rfl,rfl,hZ,hp,hrow,hB⟩:=hrel
  have c4:=(hB.out.cell (p:=⟨g,4,none⟩) (Nat.lt_succ_self g)).trans e4
  have c5:=(hB.out.cell (p:=⟨g,5,none⟩) (Nat.lt_succ_self g)).trans e5
  have hZl:Hid (Z.length=F.length):=by show _=_;rw[← hZ.out,List.length_map]
  have hOl:O.size≤100002:=by
   have:=congrArg List.length hp.out
   rw[List.length_append] at this
   have e:O.data.toList.length=O.size:=by simp
   have:=HRl.out
   omega
  by_cases hlt:i<M.length
  ·obtain⟨a,rfl,ha,hn0⟩:=HM.out i hlt
   obtain⟨m,hm⟩:∃m,M[i]=m:=⟨_,rfl⟩
   have hms:m.size≤70:=hm ▸ Hmz.out _ (List.getElem_mem hlt)
   have hpm:Hid (O.data.toList++tkZ h (m::M.drop (i+1)) Z=R):=by
    show _=_
    rw[← hp.out,List.drop_eq_getElem_cons hlt,hm]
   rw[hm] at hn0
   have Hn0:=mkHid hn0
   have hbr0:=mkHid (hbw1H.out.trans (hB.out.mono (Nat.le_succ g)))
   clear hm hp hn0
   go_wp2
   go_loopw [8,10] (fun ov kv wq=>∃ k:Nat,k≤F.length∧ov=.string O∧kv=.int .i64 ((k:Int)-1)∧Hid (lastTo (unAt (nmF m) Z) k=lastTo (unAt (nmF m) Z) Z.length)∧Hid (wq.rowIs (g+1) 4 F.length (fun j=>.bool (mkAt Z j)))∧Hid (Below (g+1) w1 wq)) (fun _ kv _=>(Lib.intOf kv+1).toNat)
   case atStart=>
    refine⟨F.length,Nat.le_refl _,rfl,by go_num,?_,hrow,hB⟩
    show _=_
    rw[hZl.out]
   case round=>
    clear hrow hB c4 c5 hbr0
    obtain⟨k,hk,rfl,rfl,hq,hrow,hB⟩:=hrel
    cases k with
    | zero=>
     have hnx:Hid (O.data.toList++tkZ h (M.drop (i+1)) Z=R):=by
      show _=_
      rw[← hpm.out,tkZ_none _ _ _ _ hq.out.symm]
     clear hq hpm
     go_wp2
     go_roundw
     case rel=>exact⟨i+1,O,Z,by omega,rfl,by go_num,hZ,hnx,hrow,hB⟩
     case measure=>simp[Lib.intOf];omega
    | succ k=>
     have hkF:k<F.length:=by omega
     have hkZ:k<Z.length:=by rw[hZl.out];exact hkF
     have hfk:Hid (Z[k].1=F[k]):=by
      show _=_
      have:=hZ.out
      subst this
      simp
     have hbq:=hbw1H.out.trans (hB.out.mono (Nat.le_succ g))
     obtain⟨af,rfl,haf,p0,p1⟩:=(HF.out.below hbq) k hkF
     have q4:=(hB.out.cell (p:=⟨g,4,none⟩) (Nat.lt_succ_self g)).trans e4
     have q5:=(hB.out.cell (p:=⟨g,5,none⟩) (Nat.lt_succ_self g)).trans e5
     have qn:=(hbq.cell (p:=a.add i) (by rw[add_block];exact ha)).trans Hn0.out
     have q7:=hrow.out.cell hkF
     have hfs:=Hfz.out F[k] (List.getElem_mem hkF)
     have hstep:Hid (lastTo (unAt (nmF m) Z) (k+1)=if (!mkAt Z k && namedB F[k].1 m) then some k else lastTo (unAt (nmF m) Z) k):=by
      show _=_
      rw[lastTo,un_at _ _ _ hkZ,hfk.out]
      rfl
     have k0:=cell_regrown p0
     have k4:=cell_regrown q4
     have kn:=cell_regrown qn
     have k7:=cell_regrown q7
     have e1:((k+1:Nat):Int)-1=(k:Int):=by omega
     rw[e1]
     obtain⟨fn,hfn⟩:∃fn,F[k].1=fn:=⟨_,rfl⟩
     obtain⟨fv,hfv⟩:∃fv,F[k].2=fv:=⟨_,rfl⟩
     rw[hfn] at k0 hfs hstep p0
     rw[hfv] at hfs p1
     have hsz1:=hfs.1
     have hsz2:=hfs.2
     clear hfs
     have Hbq:=mkHid hbq
     have Hp0:=mkHid p0
     have Hp1:=mkHid p1
     have Hq5:=mkHid q5
     clear hbq p0 p1 q4 q5 qn q7
     have cS:Hid (∀d os,Calls Tryz.prog 74 #[.string fn,.string m] (Go.Sort.grow (redrawn wr d) os) fun e w''=>e=.returned (.bool (namedB fn m))∧∃p:Regrown,w''=Go.Sort.grow (redrawn wr p.d) p.os):=fun d os=>Calls.regrown_of (specSame fn m _ hsz1 (by omega))
     cases ht:mkAt Z k with
     | true=>
      rw[ht] at k7
      have hq2:Hid (lastTo (unAt (nmF m) Z) k=lastTo (unAt (nmF m) Z) Z.length):=by
       show _=_
       rw[← hq.out,hstep.out,ht,Bool.not_true,Bool.false_and]
       rfl
      clear hq hstep
      go_wp2
      refine wp_region_quiet_below (by kernel_rfl) (by kernel_rfl) ?_
      repeat (go_big_quiet_step (exact cS.out _ _))
      refine wpQuiet_nil ?_
      intro _ hw'
      obtain⟨⟨dq,osq⟩,hw''⟩:=hw'
      subst hw''
      have hbx:=below_regrown wr dq osq
      have hrow2:=mkHid (rowIs_keepS hrow.out hbx)
      have hB2:=mkHid (hB.out.trans (hbx.mono (by have:=hrow.out.lt;omega)))
      clear hbx k0 k4 kn k7 cS hrow hB
      go_wp2
      go_roundw
      case rel=>exact⟨k,by omega,rfl,by go_num,hq2,hrow2,hB2⟩
      case measure=>simp[Lib.intOf]
     | false=>
      rw[ht] at k7
      by_cases hsz:fn.size=m.size
      rotate_left
      ·have hx:((fn.size:Int)==(m.size:Int))=false:=by rw[beq_eq_false_iff_ne];omega
       have hnm:=named_size fn m hsz
       have hq2:Hid (lastTo (unAt (nmF m) Z) k=lastTo (unAt (nmF m) Z) Z.length):=by
        show _=_
        rw[← hq.out,hstep.out,hnm,Bool.and_false]
        rfl
       clear hq hstep
       go_wp2
       refine wp_region_quiet_below (by kernel_rfl) (by kernel_rfl) ?_
       repeat (go_big_quiet_step (exact cS.out _ _))
       refine wpQuiet_nil ?_
       intro _ hw'
       obtain⟨⟨dq,osq⟩,hw''⟩:=hw'
       subst hw''
       have hbx:=below_regrown wr dq osq
       have hrow2:=mkHid (rowIs_keepS hrow.out hbx)
       have hB2:=mkHid (hB.out.trans (hbx.mono (by have:=hrow.out.lt;omega)))
       clear hbx k0 k4 kn k7 cS hrow hB
       go_wp2
       go_roundw
       case rel=>exact⟨k,by omega,rfl,by go_num,hq2,hrow2,hB2⟩
       case measure=>simp[Lib.intOf]
      have hx:((fn.size:Int)==(m.size:Int))=true:=by rw[beq_iff_eq];omega
      have Hsz:=mkHid hsz
      clear hsz
      cases hnm:namedB fn m with
      | false=>
       rw[hnm] at cS
       have hq2:Hid (lastTo (unAt (nmF m) Z) k=lastTo (unAt (nmF m) Z) Z.length):=by
        show _=_
        rw[← hq.out,hstep.out,hnm,Bool.and_false]
        rfl
       clear hq hstep
       go_wp2
       refine wp_region_quiet_below (by kernel_rfl) (by kernel_rfl) ?_
       repeat (go_big_quiet_step (exact cS.out _ _))
       refine wpQuiet_nil ?_
       intro _ hw'
       obtain⟨⟨dq,osq⟩,hw''⟩:=hw'
       subst hw''
       have hbx:=below_regrown wr dq osq
       have hrow2:=mkHid (rowIs_keepS hrow.out hbx)
       have hB2:=mkHid (hB.out.trans (hbx.mono (by have:=hrow.out.lt;omega)))
       clear hbx k0 k4 kn k7 cS hrow hB
       go_wp2
       go_roundw
       case rel=>exact⟨k,by omega,rfl,by go_num,hq2,hrow2,hB2⟩
       case measure=>simp[Lib.intOf]
      | true=>
       rw[hnm] at cS
       have hfound:Hid (lastTo (unAt (nmF m) Z) Z.length=some k):=by
        show _=_
        rw[← hq.out,hstep.out,ht,hnm]
        rfl
       clear hq hstep hnm
       go_wp2
       refine wp_region_quiet_below (by kernel_rfl) (by kernel_rfl) ?_
       repeat (go_big_quiet_step (exact cS.out _ _))
       refine wpQuiet_nil ?_
       intro _ hw'
       obtain⟨⟨dq,osq⟩,hw''⟩:=hw'
       have hbx:=below_regrown wr dq osq
       rw[← hw''] at hbx
       clear hw''
       rename_i V
       have hgs:=hrow.out.lt
       have hrowV:=rowIs_keepS hrow.out hbx
       have hBV:=hB.out.trans (hbx.mono (Nat.le_of_lt hgs))
       have fz:=hrowV.frozen k
       have qc:=hrowV.cell hkF
       rw[ht] at qc
       have hrow2:=mkHid (hrowV.set k (.bool true))
       have hB2:=mkHid (hBV.setCell (p:=⟨g+1,k,none⟩) (Nat.le_refl _) (.bool true))
       have haf2:(af.add (k*2)).block<g+1:=by rw[add_block];omega
       have P0:=(hB.out.cell (p:=af.add (k*2)) haf2).symm.trans Hp0.out
       have P1:=(hB.out.cell (p:=⟨(af.add (k*2)).block,(af.add (k*2)).off+1,none⟩) haf2).symm.trans Hp1.out
       obtain⟨V2,hV2⟩:∃V2,V2=V.setCell ⟨g+1,k,none⟩ (.bool true):=⟨_,rfl⟩
       rw[← hV2] at hrow2 hB2
       have r0:=cell_regrown ((hB2.out.cell (p:=af.add (k*2)) haf2).trans P0)
       have r1:=cell_regrown ((hB2.out.cell (p:=⟨(af.add (k*2)).block,(af.add (k*2)).off+1,none⟩) haf2).trans P1)
       have r5:=cell_regrown ((hB2.out.cell (p:=⟨g,5,none⟩) (Nat.lt_succ_self g)).trans e5)
       have cC:Hid (∀d os,Calls Tryz.prog 75 #[.agg #[.string fn,.string fv],.int .i64 h] (Go.Sort.grow (redrawn V2 d) os) fun e w''=>e=.returned (.string (canonF fn fv h))∧∃p:Regrown,w''=Go.Sort.grow (redrawn V2 p.d) p.os):=fun d os=>Calls.regrown_of (specCanonField fn fv h _ (by omega) (by omega))
       have hZk:Hid (Z[k]?=some ((fn,fv),false)):=by
        show _=_
        have e2:mkAt Z k=Z[k].2:=by unfold mkAt;rw[List.getElem?_eq_getElem hkZ];rfl
        rw[List.getElem?_eq_getElem hkZ]
        refine congrArg some (Prod.ext ?_ ?_)
        ·show Z[k].1=(fn,fv)
         rw[hfk.out,← hfn,← hfv]
        ·exact e2.symm.trans ht
       have hnx:Hid ((O++canonF fn fv h).data.toList++tkZ h (M.drop (i+1)) (Z.set k ((fn,fv),true))=R):=by
        show _=_
        rw[← hpm.out,tkZ_some _ _ _ _ _ _ hfound.out hZk.out,ByteArray.data_append,Array.toList_append,List.append_assoc]
       have hZ2:Hid ((Z.set k ((fn,fv),true)).map (·.1)=F):=by
        have:=fst_set Z F k hkZ hZ.out
        rw[hfk.out] at this
        show _=_
        rw[← this,← hfn,← hfv]
       have hrow3:Hid (V2.rowIs (g+1) 4 F.length (fun j=>.bool (mkAt (Z.set k ((fn,fv),true)) j))):=World.rowIs.congr hrow2.out fun j _=>by
        rw[mk_set Z k hkZ]
        split<;>rfl
       have hcs:=canonF_size fn fv h
       unfold fsz at hcs
       simp only at hcs
       have HV2:=mkHid hV2
       obtain⟨cf,hcf⟩:∃cf,canonF fn fv h=cf:=⟨_,rfl⟩
       rw[hcf] at cC hnx hcs
       have hpn:¬(9223372036854775807<O.size+cf.size):=by omega
       have Hfn:=mkHid hfn
       have Hfv:=mkHid hfv
       clear hbx k0 k4 kn k7 cS hrow hB hrowV hBV ht hgs hV2 P0 P1 hrow2 hfn hfv hcf
       go_wp2
       rw[← HV2.out]
       refine wp_region_quiet_below (by kernel_rfl) (by kernel_rfl) ?_
       repeat (go_big_quiet_step (exact cC.out _ _))
       refine wpQuiet_nil ?_
       intro _ hw'
       obtain⟨⟨dq,osq⟩,hw''⟩:=hw'
       subst hw''
       have hbx:=below_regrown V2 dq osq
       have hrow4:=mkHid (rowIs_keepS hrow3.out hbx)
       have hB4:=mkHid (hB2.out.trans (hbx.mono (by have:=hrow3.out.lt;omega)))
       clear hbx r0 r1 r5 cC hrow3 hB2 fz qc HV2
       go_wp2
       go_roundw
       case rel=>exact⟨i+1,O++cf,Z.set k ((fn,fv),true),by omega,rfl,by go_num,hZ2,hnx,hrow4,hB4⟩
       case measure=>simp[Lib.intOf];omega
  ·go_wp2_with fail
   refine(cO.out wr).mono ?_
   rintro e w2 ⟨rfl,hb2⟩
   have hre:Hid (R=O.data.toList):=by
    show _=_
    rw[← hp.out,List.drop_eq_nil_of_le (by omega)]
    simp[tkZ]
   have hpn:¬(9223372036854775807<O.size+p.size):=by omega
   have hend:=mkHid (hbw1H.out.trans ((hB.out.trans (hb2.mono (by have:=hrow.out.lt;omega))).mono (Nat.le_succ g)))
   clear hb2 hB hrow c4 c5 cO hp
   go_wp2
   go_ret
   refine⟨?_,by rw[Hg.out];exact hend.out⟩
   rw[hre.out]
   exact congrArg (fun x=>Ending.returned (.string (x++p))) (show O=⟨O.data.toList.toArray⟩ from by simp)
end Go.Proofs.YtacaoiedcfelcaaGreatDoor
