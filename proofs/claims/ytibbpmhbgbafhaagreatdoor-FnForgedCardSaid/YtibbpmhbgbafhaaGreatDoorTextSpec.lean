import Derived.Test.YtibbpmhbgbafhaaGreatDoorOwnF
import Derived.Test.YtibbpmhbgbafhaaGreatDoorOneImpl
import Derived.Test.YtibbpmhbgbafhaaGreatDoorCanonFieldSpec
import Derived.Lib.TrimByte
import Derived.Maps.AppendAt
import Derived.OrdersHeld
import Derived.Test.YtibbpmhbgbafhaaGreatDoorSumSpec
import Derived.Test.YtibbpmhbgbafhaaGreatDoorSgPlain
import Derived.Test.YtibbpmhbgbafhaaGreatDoorFrontImpl
set_option maxRecDepth 20000
set_option maxHeartbeats 2000000
namespace Go.Proofs.YtibbpmhbgbafhaaGreatDoor
open Go.RowKit Go.Lib
theorem Own.keepb {B:Nat} {v:Value} {p:List UInt8} {w w':World} (h:Own B v p w)(hb:Below w.heap.size w w'):Own B v p w':=by
 obtain⟨h1,h2⟩:=h
 refine⟨h1,?_⟩
 rcases h2 with h2|⟨g,cap,cur,e1,e2,e3,e4⟩
 ·exact .inl h2
 ·refine .inr ⟨g,cap,cur,e1,e2,?_,e4⟩
  have hlt:g<w.heap.size:=by
   by_cases hg:g<w.heap.size
   ·exact hg
   ·rw[Array.getElem?_eq_none (by omega)] at e3;cases e3
  rw[hb.block g hlt]
  exact e3
set_option maxRecDepth 40000 in
theorem implWriteHead (o:Option Addr)(F:List Fd)(cap:Nat)(w:World)(hF:Fld w.heap.size w o F)(hlen:F.length≤200)(hsz:∀f ∈ F,f.1.size≤1048576∧f.2.size≤1048576) :
  Calls Tryz.prog 179 #[.slice o F.length cap] w fun e w'=>e=.returned (.string ⟨(Pl.hd [] F).toArray⟩)∧Below w.heap.size w w':=by
 obtain⟨i0,hi,hy0,hy1,hy2⟩:=info_parts Tryz.info5
 have HF:Hid (Fld w.heap.size w o F):=hF
 have Hsz:Hid (∀f ∈ F,f.1.size≤1048576∧f.2.size≤1048576):=hsz
 clear hF hsz
 go_enter Tryz.func179,Tryz.ntmps179
 go_wp2
 go_loopw [3,5,11] (fun v _ i wr=>∃ (k:Nat) (p:List UInt8),k≤F.length∧i=.int .i64 k∧p.length≤100000∧Hid (Pl.hd p (F.drop k)=Pl.hd [] F)∧Own w.heap.size v p wr∧Below w.heap.size w wr) (fun _ _ i _=>F.length-(Lib.intOf i).toNat)
 case atStart=>exact⟨0,[],Nat.zero_le _,rfl,by simp,rfl,Own.nil _ _,Below.refl _ _⟩
 case round=>
  obtain⟨k,p,hk,rfl,hpl,hp,hown,hb⟩:=hrel
  by_cases hlt:k<F.length
  ·obtain⟨a,rfl,ha,hc0,hc1⟩:=(HF.out.below hb) k hlt
   obtain⟨hs0,hs1⟩:=Hsz.out F[k] (List.getElem_mem _)
   have Hbad:Hid (Pl.okF F[k]=false→Pl.hd [] F=[]):=show _→_ from fun h=>Pl.hd_bad p _ F k hlt h hp.out
   have Hlong:Hid (Pl.okF F[k]=true→100000<(p++Pl.line F[k]).length→Pl.hd [] F=[]):=show _→_→_ from fun h hl=>Pl.hd_long p _ F k hlt h hl hp.out
   have Hstep:Hid (Pl.okF F[k]=true→¬100000<(p++Pl.line F[k]).length→Pl.hd (p++Pl.line F[k]) (F.drop (k+1))=Pl.hd [] F):=show _→_→_ from fun h hl=>Pl.hd_step p _ F k hlt h hl hp.out
   clear hp
   generalize F[k]=f at hc0 hc1 hs0 hs1 Hbad Hlong Hstep
   obtain⟨n,v⟩:=f
   dsimp only at hc0 hc1 hs0 hs1
   have hct:=fun w=>implTooLong v w (by omega)
   have hcn:=fun w=>implFieldName n w (by omega)
   have hcv:=fun w=>implFieldValue v w (by omega)
   have hbs:=hb.size
   by_cases hA:100000<v.size
   ·have hE:Hid (Pl.hd [] F=[]):=Hbad.out (Pl.okF_size _ (by dsimp only;omega))
    clear Hbad Hlong Hstep
    rw[decide_eq_true (show(100000:Int)<v.size by omega)] at hct
    go_wp2_with (go_at_call 49;go_must (refine(hct _).mono ?_;rintro e wx ⟨rfl,rfl⟩))
    go_ret
    exact⟨by rw[hE.out];rfl,hb.alloc hbs _⟩
   ·rw[decide_eq_false (show ¬(100000:Int)<v.size by omega)] at hct
    have hownA:=hown.alloc (.cells #[.string n,.string v] 56)
    have hbA:=hb.alloc hbs (.cells #[.string n,.string v] 56)
    have hfvA:(wr.alloc (.cells #[.string n,.string v] 56)).heap[wr.heap.size]?=some (.cells #[.string n,.string v] 56 (0,0)):=heap_alloc_at _ _
    cases hN:Pl.nameOk n.data.toList
    ·have hE:Hid (Pl.hd [] F=[]):=Hbad.out (Pl.okF_name _ hN)
     simp only[hN] at hcn
     clear Hbad Hlong Hstep hN
     go_wp2_with (first|(go_at_call 49;go_must (refine(hct _).mono ?_;rintro e wx ⟨rfl,rfl⟩))|(go_at_call 118;go_must (refine(hcn _).mono ?_;rintro e wx ⟨rfl,rfl⟩)))
     go_ret
     exact⟨by rw[hE.out];rfl,hb.alloc hbs _⟩
    ·cases hV:Pl.val v.data.toList
     ·have hE:Hid (Pl.hd [] F=[]):=Hbad.out (Pl.okF_val _ hV)
      simp only[hN] at hcn
      simp only[hV] at hcv
      clear Hbad Hlong Hstep hN hV
      go_wp2_with (first|(go_at_call 49;go_must (refine(hct _).mono ?_;rintro e wx ⟨rfl,rfl⟩))|(go_at_call 118;go_must (refine(hcn _).mono ?_;rintro e wx ⟨rfl,rfl⟩))|(go_at_call 208;go_must (refine(hcv _).mono ?_;rintro e w5 ⟨rfl,hb5⟩;have hownA5:=Own.keepb (show Own w.heap.size u3 p _ from hownA) hb5;have hbA5:=hbA.trans (hb5.mono hbA.size);have hf5:=(hb5.block wr.heap.size (by simp)).trans hfvA;obtain⟨hk0,hk1⟩:=var_cells hf5)))
      go_ret
      exact⟨by rw[hE.out];rfl,hbA5⟩
     ·have hok:Pl.okF (n,v)=true:=Pl.okF_mk _ (by dsimp only;omega) hN hV
      have hn7:=Pl.nameOk_size n hN
      simp only[hN] at hcn
      simp only[hV] at hcv
      clear hN hV Hbad
      have hll:=Pl.line_len (n,v)
      dsimp only at hll
      by_cases hT:100000<p.length+n.size+v.size+3
      ·have hE:Hid (Pl.hd [] F=[]):=Hlong.out hok (by rw[List.length_append,hll];omega)
       clear Hlong Hstep hok
       go_wp2_with (first|(go_at_call 49;go_must (refine(hct _).mono ?_;rintro e wx ⟨rfl,rfl⟩))|(go_at_call 118;go_must (refine(hcn _).mono ?_;rintro e wx ⟨rfl,rfl⟩))|(go_at_call 208;go_must (refine(hcv _).mono ?_;rintro e w5 ⟨rfl,hb5⟩;have hownA5:=Own.keepb (show Own w.heap.size u3 p _ from hownA) hb5;have hbA5:=hbA.trans (hb5.mono hbA.size);have hf5:=(hb5.block wr.heap.size (by simp)).trans hfvA;obtain⟨hk0,hk1⟩:=var_cells hf5))|(at_builtin;go_must (first|(refine wp_apps_v (W:=w) rfl _ _ 22 9 rfl i0 Tryz.underlying22 Tryz.underlying9 hi hy0 hy1 hy2 w.heap.size v3 (p++n.data.toList ++ [58]++v.data.toList) rfl hown3 ⟨#[13,10]⟩ rfl (by rw[show(ByteArray.mk #[13,10]).size=2 from rfl];simp;omega) (Nat.le_refl _) hb3 wr.heap.size _ 56 (0,0) (by decide) hf3 ?_;intro v4 w4 hown4 hb4 hf4;obtain⟨g4,cap4,L,rfl,hL⟩:=hown4.some_len (by simp;omega);have hLd:decide ((100000:Int)<(L:Int))=true:=(by have e:=hL;simp only[List.length_append,List.length_cons,List.length_nil,Pl.len_list] at e;first|exact decide_eq_true (by omega)|exact decide_eq_false (by omega));clear hL)|(refine wp_apps_v (W:=w) rfl _ _ 22 9 rfl i0 Tryz.underlying22 Tryz.underlying9 hi hy0 hy1 hy2 w.heap.size v2 (p++n.data.toList ++ [58]) rfl hown2 v rfl (by simp;omega) (Nat.le_refl _) hb2 wr.heap.size _ 56 (0,0) (by decide) hf2 ?_;intro v3 w3 hown3 hb3 hf3)|(refine wp_app_v (W:=w) rfl _ _ 22 rfl i0 Tryz.underlying22 hi hy0 hy1 hy2 w.heap.size v1 (p++n.data.toList) rfl hown1 _ [58] rfl 1 1 rfl rfl (by simp;omega) (Nat.le_refl _) hb1 wr.heap.size _ 56 (0,0) (by decide) hf1 ?_;intro v2 w2 hown2 hb2 hf2;obtain⟨he0,he1⟩:=var_cells hf2)|(refine wp_apps_v (W:=w) rfl _ _ 22 9 rfl i0 Tryz.underlying22 Tryz.underlying9 hi hy0 hy1 hy2 w.heap.size u3 p rfl hownA5 n rfl (by omega) (Nat.le_refl _) hbA5 wr.heap.size _ 56 (0,0) (by decide) hf5 ?_;intro v1 w1 hown1 hb1 hf1;obtain⟨hd0,hd1⟩:=var_cells hf1))))
       go_ret
       exact⟨by rw[hE.out];rfl,hb4⟩
      ·have hE:Hid (Pl.hd (p++n.data.toList ++ [58]++v.data.toList ++ [13,10]) (F.drop (k+1))=Pl.hd [] F):=show _=_ from by
        have:=Hstep.out hok (by rw[List.length_append,hll];omega)
        rw[← this]
        simp[Pl.line]
       clear Hlong Hstep hok
       go_wp2_with (first|(go_at_call 49;go_must (refine(hct _).mono ?_;rintro e wx ⟨rfl,rfl⟩))|(go_at_call 118;go_must (refine(hcn _).mono ?_;rintro e wx ⟨rfl,rfl⟩))|(go_at_call 208;go_must (refine(hcv _).mono ?_;rintro e w5 ⟨rfl,hb5⟩;have hownA5:=Own.keepb (show Own w.heap.size u3 p _ from hownA) hb5;have hbA5:=hbA.trans (hb5.mono hbA.size);have hf5:=(hb5.block wr.heap.size (by simp)).trans hfvA;obtain⟨hk0,hk1⟩:=var_cells hf5))|(at_builtin;go_must (first|(refine wp_apps_v (W:=w) rfl _ _ 22 9 rfl i0 Tryz.underlying22 Tryz.underlying9 hi hy0 hy1 hy2 w.heap.size v3 (p++n.data.toList ++ [58]++v.data.toList) rfl hown3 ⟨#[13,10]⟩ rfl (by rw[show(ByteArray.mk #[13,10]).size=2 from rfl];simp;omega) (Nat.le_refl _) hb3 wr.heap.size _ 56 (0,0) (by decide) hf3 ?_;intro v4 w4 hown4 hb4 hf4;obtain⟨g4,cap4,L,rfl,hL⟩:=hown4.some_len (by simp;omega);have hLd:decide ((100000:Int)<(L:Int))=false:=(by have e:=hL;simp only[List.length_append,List.length_cons,List.length_nil,Pl.len_list] at e;first|exact decide_eq_true (by omega)|exact decide_eq_false (by omega));clear hL)|(refine wp_apps_v (W:=w) rfl _ _ 22 9 rfl i0 Tryz.underlying22 Tryz.underlying9 hi hy0 hy1 hy2 w.heap.size v2 (p++n.data.toList ++ [58]) rfl hown2 v rfl (by simp;omega) (Nat.le_refl _) hb2 wr.heap.size _ 56 (0,0) (by decide) hf2 ?_;intro v3 w3 hown3 hb3 hf3)|(refine wp_app_v (W:=w) rfl _ _ 22 rfl i0 Tryz.underlying22 hi hy0 hy1 hy2 w.heap.size v1 (p++n.data.toList) rfl hown1 _ [58] rfl 1 1 rfl rfl (by simp;omega) (Nat.le_refl _) hb1 wr.heap.size _ 56 (0,0) (by decide) hf1 ?_;intro v2 w2 hown2 hb2 hf2;obtain⟨he0,he1⟩:=var_cells hf2)|(refine wp_apps_v (W:=w) rfl _ _ 22 9 rfl i0 Tryz.underlying22 Tryz.underlying9 hi hy0 hy1 hy2 w.heap.size u3 p rfl hownA5 n rfl (by omega) (Nat.le_refl _) hbA5 wr.heap.size _ 56 (0,0) (by decide) hf5 ?_;intro v1 w1 hown1 hb1 hf1;obtain⟨hd0,hd1⟩:=var_cells hf1))))
       go_roundw
       case rel=>exact⟨k+1,_,by omega,by go_num,by simp;omega,hE,hown4,hb4⟩
       case measure=>simp[Lib.intOf];omega
  ·have hpn:Hid (Pl.hd [] F=p):=show _=_ from Pl.hd_done p _ F k (by omega) hp.out
   clear hp
   have hbk:=hown.back (P:=Tryz.prog) 22 9 Tryz.underlying22 Tryz.underlying5 Tryz.underlying9
   go_wp2
   go_ret
   rw[hpn.out]
   exact⟨rfl,hb⟩
namespace Pl
def rdw (p:UInt8→Bool)(l:List UInt8):List UInt8:=(l.reverse.dropWhile p).reverse
theorem rdw_cons (p:UInt8→Bool)(c:UInt8)(r:List UInt8):rdw p (c::r)=if rdw p r=[]∧p c=true then [] else c::rdw p r:=by
 unfold rdw
 rw[List.reverse_cons,List.dropWhile_append]
 cases h:(r.reverse.dropWhile p).isEmpty
 ·rw[if_neg (by simp)]
  have hne:¬r.reverse.dropWhile p=[]:=by intro e;rw[e] at h;simp at h
  rw[if_neg (by intro e;exact hne (by simpa using e.1))]
  simp
 ·have he:r.reverse.dropWhile p=[]:=by simpa using h
  rw[if_pos rfl,he]
  cases hp:p c<;>simp[hp]
theorem dw_rdw (p:UInt8→Bool):∀l:List UInt8,(rdw p l).dropWhile p=rdw p (l.dropWhile p)
 | []=>rfl
 | c::r=>by
  have ih:=dw_rdw p r
  rw[rdw_cons,List.dropWhile_cons]
  cases hp:p c
  ·rw[if_neg (by simp),if_neg (by simp),List.dropWhile_cons,if_neg (by rw[hp];simp),rdw_cons,if_neg (by rw[hp];simp)]
  ·rw[if_pos rfl,← ih]
   by_cases h0:rdw p r=[]
   ·rw[if_pos ⟨h0,rfl⟩,h0]
   ·rw[if_neg (fun e=>h0 e.1),List.dropWhile_cons,if_pos hp]
theorem dw_congr (p q:UInt8→Bool):∀l:List UInt8,(∀c ∈ l,p c=q c)→l.dropWhile p=l.dropWhile q
 | [],_=>rfl
 | c::r,h=>by
  rw[List.dropWhile_cons,List.dropWhile_cons,h c (by simp),dw_congr p q r (fun x hx=>h x (List.mem_cons_of_mem _ hx))]
theorem rn_no9:∀(l:List UInt8)(b:Bool),∀c ∈ rn b l,blank c=(c==32)
 | [],b=>fun c h=>absurd h (by simp[rn])
 | a::r,b=>fun c h=>by
  rw[rn] at h
  cases ha:blank a
  ·rw[ha,if_neg (by simp)] at h
   rcases List.mem_cons.1 h with rfl|h
   ·rw[ha]
    unfold blank at ha
    rw[Bool.or_eq_false_iff] at ha
    exact ha.1.symm
   ·exact rn_no9 r false c h
  ·rw[ha,if_pos rfl] at h
   cases b
   ·rw[if_neg (by simp)] at h
    rcases List.mem_cons.1 h with rfl|h
    ·rfl
    ·exact rn_no9 r true c h
   ·rw[if_pos rfl] at h
    exact rn_no9 r true c h
theorem bare_mem (r:List UInt8)(c:UInt8)(h:c ∈ bareEnd r):c ∈ r:=by
 unfold bareEnd at h
 split at h
 ·exact List.dropLast_subset _ h
 ·exact h
theorem bare_rdw (r:List UInt8):rdw (· == 32) (bareEnd r)=rdw (· == 32) r:=by
 unfold bareEnd
 split
 ·rename_i hl
  unfold lastSp at hl
  rcases List.eq_nil_or_concat r with rfl|⟨p,c,rfl⟩
  ·rfl
  ·have hc:c=32:=by simpa using hl
   subst hc
   unfold rdw
   simp
 ·rfl
theorem trim_one (u:List UInt8):Lib.trimB (rn false u) 32=trimB (runs u):=by
 have h9:∀c ∈ bareEnd (rn false u),blank c=(c==32):=fun c h=>rn_no9 u false c (bare_mem _ c h)
 have h1:(runs u).dropWhile blank=(runs u).dropWhile (· == 32):=dw_congr _ _ _ h9
 have h2:∀c ∈ (runs u).dropWhile (· == 32),blank c=(c==32):=fun c h=>h9 c (List.dropWhile_subset _ h)
 unfold trimB endB
 rw[h1,dw_congr blank (· == 32) ((runs u).dropWhile (· == 32)).reverse (fun c h=>h2 c (List.mem_reverse.1 h))]
 have h3:=dw_rdw (· == 32) (runs u)
 unfold runs at h3
 rw[bare_rdw] at h3
 exact h3
end Pl
theorem implIsForm (x:Int)(w:World):Calls Tryz.prog 129 #[.int .i64 x] w fun e w'=>e=.returned (.bool (x==0 || x==1))∧w=w':=by
 cases h0:(x==0)
 ·cases h1:(x==1)
  ·go_enter Tryz.func129,Tryz.ntmps129
   go_wp2
   go_ret
   exact⟨rfl,rfl⟩
  ·go_enter Tryz.func129,Tryz.ntmps129
   go_wp2
   go_ret
   exact⟨rfl,rfl⟩
 ·go_enter Tryz.func129,Tryz.ntmps129
  go_wp2
  go_ret
  exact⟨rfl,rfl⟩
theorem hd_text (n v:ByteArray)(h:¬Pl.hd [] [(n,v)]=[]):(⟨(Pl.hd [] [(n,v)]).toArray⟩:ByteArray)=n++⟨#[58]⟩++v++⟨#[13,10]⟩:=by
 rw[Pl.hd] at h ⊢
 split at h
 ·rename_i h1
  rw[if_pos h1]
  split at h
  ·exact absurd rfl h
  ·rename_i h2
   rw[if_neg h2,Pl.hd]
   apply ByteArray.ext
   simp[Pl.line]
 ·exact absurd rfl h
theorem implCanonField (n v:ByteArray)(x:Int)(w:World)(hn:n.size≤1048576)(hv:v.size≤1048576) :
  Calls Tryz.prog 142 #[.agg #[.string n,.string v],.int .i64 x] w fun e w'=>e=.returned (.string (canonF n v x))∧Below w.heap.size w w':=by
 have hW:=implWriteHead (some ⟨w.heap.size+1,0,none⟩) [(n,v)] 1 _ (one_fld n v w) (by simp) (fun f hf=>by obtain rfl:=List.mem_singleton.1 hf;exact⟨hn,hv⟩)
 have hA:Below w.heap.size w ((w.alloc (.cells #[.string n,.string v] 56)).alloc (.cells #[.string n,.string v] 56)):=((Below.refl _ _).alloc (Nat.le_refl _) _).alloc (by simp) _
 have hk:((w.alloc (.cells #[.string n,.string v] 56)).alloc (.cells #[.string n,.string v] 56)).cell? ⟨w.heap.size,0,none⟩=some (.string n)∧((w.alloc (.cells #[.string n,.string v] 56)).alloc (.cells #[.string n,.string v] 56)).cell? ⟨w.heap.size,1,none⟩=some (.string v):=by
  constructor<;>simp[World.cell?_alloc_old]
 have HE:Hid (¬Pl.hd [] [(n,v)]=[]→(⟨(Pl.hd [] [(n,v)]).toArray⟩:ByteArray)=n++⟨#[58]⟩++v++⟨#[13,10]⟩):=show _→_ from hd_text n v
 obtain⟨T,hT⟩:∃T:ByteArray,T=⟨(Pl.hd [] [(n,v)]).toArray⟩:=⟨_,rfl⟩
 rw[← hT] at hW HE
 have HT:Hid (T.toList.isEmpty=true↔Pl.hd [] [(n,v)]=[]):=show _↔_ from by
  rw[hT,ByteArray.toList_eq]
  simp
 clear hT
 obtain⟨R,hR⟩:∃R,canonF n v x=R:=⟨_,rfl⟩
 have HR:Hid (canonF n v x=R):=hR
 rw[hR]
 clear hR
 have hF:=fun w=>implIsForm x w
 go_enter Tryz.func142,Tryz.ntmps142
 go_wp2_with fail
 refine hW.mono ?_
 rintro e w2 ⟨rfl,hb2⟩
 have Hbw:Hid (Below w.heap.size w w2):=hA.trans (hb2.mono hA.size)
 have k0:=(hb2.cell (World.block_lt_of_cell? _ _ hk.1)).trans hk.1
 have k1:=(hb2.cell (World.block_lt_of_cell? _ _ hk.2)).trans hk.2
 clear hW hA hb2 hk
 cases hTe:T.toList.isEmpty
 ·have hne:¬Pl.hd [] [(n,v)]=[]:=fun e=>by have:=HT.out.2 e;rw[hTe] at this;cases this
  have hs:=hd_one n v hne
  have Hne:Hid (¬Pl.hd [] [(n,v)]=[]):=hne
  have HTe:Hid (T=n++⟨#[58]⟩++v++⟨#[13,10]⟩):=HE.out hne
  clear hne HT HE
  by_cases h0:x=0
  ·subst h0
   go_wp2_with fail
   refine(hF _).mono ?_
   rintro e w3 ⟨rfl,rfl⟩
   go_wp2
   go_ret
   exact⟨by rw[← HR.out,canonF,if_neg Hne.out,if_pos rfl,← HTe.out];rfl,Hbw.out⟩
  ·have e0:(x==0)=false:=beq_eq_false_iff_ne.2 h0
   have H0:Hid (¬x=0):=h0
   clear h0
   rw[e0] at hF
   by_cases h1:x=1
   ·have e1:(x==1)=true:=by rw[h1];rfl
    rw[e1] at hF
    have H1:Hid (x=1):=h1
    clear h1
    have hlu:(Pl.unf false v.data.toList).length≤100000:=by
     have:=Pl.unf_len v.data.toList false
     rw[Pl.len_list] at this
     omega
    have hlr:(Pl.rn false (Pl.unf false v.data.toList)).length≤100000:=Nat.le_trans (Pl.rn_len _ _) hlu
    have hlt:(relaxV v).length≤100000:=Nat.le_trans (Pl.trimB_len _) (Nat.le_trans (Pl.runs_len _) hlu)
    have bs:∀l:List UInt8,l.length≤100000→(⟨l.toArray⟩:ByteArray).size≤100000:=fun l h=>by show l.toArray.size≤_;rw[List.size_toArray];exact h
    have hL:=fun w=>implLowered n w hs.1
    have hU:=fun w=>implUnfolded v w (by omega)
    have hN:∀w:World,Calls Tryz.prog 137 #[.string ⟨(Pl.unf false v.data.toList).toArray⟩] w fun e w'=>e=.returned (.string ⟨(Pl.rn false (Pl.unf false v.data.toList)).toArray⟩)∧Below w.heap.size w w':=fun w=>implOneSpaced ⟨(Pl.unf false v.data.toList).toArray⟩ w (bs _ hlu)
    have hM:∀w:World,Calls Tryz.prog 180 #[.string ⟨(Pl.rn false (Pl.unf false v.data.toList)).toArray⟩,.string ⟨#[32]⟩] w fun e w'=>e=.returned (.string ⟨(relaxV v).toArray⟩)∧Below w.heap.size w w':=fun w=>(Tryz.strings_Trim_one ⟨(Pl.rn false (Pl.unf false v.data.toList)).toArray⟩ 32 (by decide) w (Nat.le_trans (bs _ hlr) (by omega))).mono fun e w' ⟨he,hw⟩=>⟨by rw[he];show Ending.returned (Value.string ⟨(Lib.trimB (Pl.rn false (Pl.unf false v.data.toList)) 32).toArray⟩)=_;rw[Pl.trim_one];rfl,by rcases hw with rfl|rfl;exact Below.refl _ _;exact(Below.refl _ _).drew⟩
    have zl:(⟨(lower n.data.toList).toArray⟩:ByteArray).size≤100000:=bs _ (by unfold lower;rw[List.length_map,Pl.len_list];exact hs.1)
    have zt:(⟨(relaxV v).toArray⟩:ByteArray).size≤100000:=bs _ hlt
    have HR2:Hid ((⟨(lower n.data.toList).toArray⟩:ByteArray)++⟨#[58]⟩++⟨(relaxV v).toArray⟩++⟨#[13,10]⟩=R):=by
     show _=_
     rw[← HR.out,canonF,if_neg Hne.out,if_neg H0.out,if_pos H1.out]
    clear HR Hne H0 H1 hlu hlr hlt bs HTe
    generalize (⟨(relaxV v).toArray⟩:ByteArray)=tt at *
    generalize (⟨(Pl.rn false (Pl.unf false v.data.toList)).toArray⟩:ByteArray)=tr at *
    generalize (⟨(Pl.unf false v.data.toList).toArray⟩:ByteArray)=tu at *
    generalize (⟨(lower n.data.toList).toArray⟩:ByteArray)=tl at *
    have k0':=cell_regrown k0
    have k1':=cell_regrown k1
    have cL:∀d os,Calls Tryz.prog 54 #[.string n] (Go.Sort.grow (redrawn w2 d) os) fun e w''=>e=.returned (.string tl)∧∃p:Regrown,w''=Go.Sort.grow (redrawn w2 p.d) p.os:=fun d os=>Calls.regrown_of (hL _)
    have cU:∀d os,Calls Tryz.prog 181 #[.string v] (Go.Sort.grow (redrawn w2 d) os) fun e w''=>e=.returned (.string tu)∧∃p:Regrown,w''=Go.Sort.grow (redrawn w2 p.d) p.os:=fun d os=>Calls.regrown_of (hU _)
    have cN:∀d os,Calls Tryz.prog 137 #[.string tu] (Go.Sort.grow (redrawn w2 d) os) fun e w''=>e=.returned (.string tr)∧∃p:Regrown,w''=Go.Sort.grow (redrawn w2 p.d) p.os:=fun d os=>Calls.regrown_of (hN _)
    have cM:∀d os,Calls Tryz.prog 180 #[.string tr,.string ⟨#[32]⟩] (Go.Sort.grow (redrawn w2 d) os) fun e w''=>e=.returned (.string tt)∧∃p:Regrown,w''=Go.Sort.grow (redrawn w2 p.d) p.os:=fun d os=>Calls.regrown_of (hM _)
    have HL:=(show Hid _ from cL)
    have HU:=(show Hid _ from cU)
    have HN:=(show Hid _ from cN)
    have HM:=(show Hid _ from cM)
    clear cL cU cN cM hL hU hN hM
    have n0:¬9223372036854775807<tl.size+1:=by omega
    have n1:¬9223372036854775807<tl.size+1+tt.size:=by omega
    have n2:¬9223372036854775807<tl.size+1+tt.size+2:=by omega
    go_wp2_with fail
    refine(hF _).mono ?_
    rintro e w3 ⟨rfl,rfl⟩
    go_wp2
    refine wp_region_quiet_below (by kernel_rfl) (by kernel_rfl) ?_
    quiet_step (fail)
    quiet_step (fail)
    quiet_step (exact HL.out _ _)
    quiet_step (fail)
    quiet_step (fail)
    quiet_step (fail)
    quiet_step (exact HU.out _ _)
    quiet_step (exact HN.out _ _)
    quiet_step (exact HM.out _ _)
    repeat (quiet_step (fail))
    refine wpQuiet_nil ?_
    intro _ hw'
    obtain⟨⟨dq,osq⟩,hw''⟩:=hw'
    subst hw''
    have hbq:=Hbw.out.trans ((below_regrown w2 dq osq).mono Hbw.out.size)
    go_wp2
    go_ret
    exact⟨by rw[← HR2.out];rfl,hbq⟩
   ·have e1:(x==1)=false:=beq_eq_false_iff_ne.2 h1
    have H1:Hid (¬x=1):=h1
    rw[e1] at hF
    clear h1
    go_wp2_with fail
    refine(hF _).mono ?_
    rintro e w3 ⟨rfl,rfl⟩
    go_wp2
    go_ret
    exact⟨by rw[← HR.out,canonF,if_neg Hne.out,if_neg H0.out,if_neg H1.out];rfl,Hbw.out⟩
 ·have he:Pl.hd [] [(n,v)]=[]:=HT.out.1 hTe
  have He:Hid (Pl.hd [] [(n,v)]=[]):=he
  clear he HT
  go_wp2
  go_ret
  exact⟨by rw[← HR.out,canonF,if_pos He.out];rfl,Hbw.out⟩
end Go.Proofs.YtibbpmhbgbafhaaGreatDoor
namespace Go.Proofs.YtibbpmhbgbafhaaGreatDoor
open Go.RowKit Go.Lib Go.Maps
def toBA (F:List Fl):List Fd:=F.map fun f=>(⟨f.1.toArray⟩,⟨f.2.toArray⟩)
theorem toBA_len (F:List Fl):(toBA F).length=F.length:=by simp[toBA]
theorem toBA_at (F:List Fl)(k:Nat)(h:k<F.length):(toBA F)[k]?=some (⟨F[k].1.toArray⟩,⟨F[k].2.toArray⟩):=by
 unfold toBA
 rw[List.getElem?_map,List.getElem?_eq_getElem h]
 rfl
theorem toBA_erase (F:List Fl)(k:Nat):toBA (F.eraseIdx k)=(toBA F).eraseIdx k:=by
 unfold toBA
 rw[List.eraseIdx_eq_take_drop_succ,List.eraseIdx_eq_take_drop_succ,List.map_append,List.map_take,List.map_drop]
theorem OwnF.fld {B:Nat} {v:Value} {F:List Fl} {w:World} (h:OwnF B v F w):∃o cap,v=.slice o F.length cap∧Fld w.heap.size w o (toBA F):=by
 rcases h.2 with ⟨rfl,h0⟩|⟨g,cap,cur,rfl,hB,hg,hc⟩
 ·obtain rfl:F=[]:=List.length_eq_zero_iff.1 h0
  exact⟨none,0,rfl,fun i hi=>absurd hi (by simp[toBA])⟩
 ·refine⟨_,cap,rfl,?_⟩
  intro i hi
  have hi':i<F.length:=by simpa [toBA] using hi
  obtain⟨d0,d1⟩:=cellsF_get F i hi'
  have c0:=World.ownsRow.cells h (g:=g) rfl (i*2) _ d0
  have c1:=World.ownsRow.cells h (g:=g) rfl (i*2+1) _ d1
  rw[add_off] at c0 c1
  refine⟨_,rfl,(Array.getElem?_eq_some_iff.1 hg).1,?_,?_⟩
  ·rw[add_off,c0];simp[toBA,txt]
  ·rw[add_off]
   show w.cell? ⟨g,i*2+1,none⟩=_
   rw[c1];simp[toBA,txt]
theorem nm_mt (L:List Fd)(m:ByteArray):lastTo (nmAt L m) L.length=lastTo (mtAt (nmF m) L) L.length:=by
 apply lastTo_congr
 intro i hi
 unfold nmAt mtAt nmF
 rw[dif_pos hi,List.getElem?_eq_getElem hi]
 rfl
theorem own_apartF {B B':Nat} {v u:Value} {O:List UInt8} {L:List Fl} {w:World} (h:Own B v O w)(k:OwnF B' u L w):v.ownBlock=none∨v.ownBlock≠u.ownBlock:=by
 rcases h.2 with ⟨rfl,-⟩|⟨g,cap,cur,rfl,-,hg,-⟩
 ·exact .inl rfl
 ·right
  rcases k.2 with ⟨rfl,-⟩|⟨g',cap',cur',rfl,-,hg',-⟩
  ·intro e;cases e
  ·intro e
   have e2:g=g':=by simpa [Value.ownBlock] using e
   subst e2
   rw[hg] at hg'
   simp at hg'
theorem opAppS {w:World} {o:Oper} {a:Act} {K:Act→World→Prop} {Q:Exit→Act→World→Prop} (s x:Operand)(t u:TypeId)
  (ho:o.op=.call { callee:=.builtin .append,args:=#[s,x],argTypes:=#[t,u] })
  (i:TypeInfo) (ht:Tryz.prog.underlying t=some (.slice 5)) (hu:Tryz.prog.underlying u=some .string) (hi:Tryz.prog.info? 5=some i) (hz:i.zero=some (.int .u8 0)) (hsize:i.size=1) (hby:i.bytes=1)
  (B:Nat) (v:Value) (p:List UInt8) (hs:a.eval s=v) (hown:Own B v p w) (news:ByteArray) (hx:a.eval x=.string news) (hlen:p.length+news.size≤140737488355328) (hB:B≤w.heap.size)
  (h:∀v' w',Own B v' (p++news.data.toList) w'→w.grownBy w' v.ownBlock→K (a.put o.dst v') w'):o.wp Tryz.prog a w K Q:=by
 obtain⟨v',w',hr,h2,h3,h4⟩:=run_append_own_string (P:=Tryz.prog) w B t u o.type 5 i ht hu hi hz hsize hby v p.length (byteCells p) hown news (by unfold maxLen;omega) hlen hB
 unfold Oper.wp execOp
 simp only[ho,resolve,invoke,builtin,Sem.run_bind,Sem.run_pure,Result.andThen_ok,List.map_toArray,List.map_cons,List.map_nil,hs,hx,hr]
 refine h v' w' ?_ h3
 unfold Own
 rw[byteCells_append,List.length_append]
 exact h2
end Go.Proofs.YtibbpmhbgbafhaaGreatDoor
namespace Go.Proofs.YtibbpmhbgbafhaaGreatDoor
open Go.RowKit Go.Lib
def Pl.added (t m:ByteArray):ByteArray:=if t.toList=[] then ⟨#[]⟩ else if 100000<t.size+m.size then ⟨#[]⟩ else t++m
theorem specAdd (m t:ByteArray)(v:Value)(w:World)(hm:m.size≤1048576)(ht:t.size≤100000)(hS:∀w1,w1=w→Calls Tryz.prog 33 #[v] w1 fun e w'=>e=.returned (.string t)∧Below w1.heap.size w1 w') :
  Calls Tryz.prog 18 #[.string m,v] w fun e w'=>e=.returned (.string (Pl.added t m))∧Below w.heap.size w w':=by
 unfold Pl.added
 split
 ·rename_i h0
  go_enter Tryz.func18,Tryz.ntmps18
  go_wp2_with fail
  refine(hS _ rfl).mono ?_
  rintro e w1 ⟨rfl,hb1⟩
  go_wp2
  go_ret
  exact⟨rfl,hb1⟩
 ·rename_i h0
  have h0':t.toList ≠ []:=h0
  split
  ·rename_i hl
   by_cases hm1:100000<m.size
   ·go_enter Tryz.func18,Tryz.ntmps18
    go_wp2_with fail
    refine(hS _ rfl).mono ?_
    rintro e w1 ⟨rfl,hb1⟩
    go_wp2
    go_ret
    exact⟨rfl,hb1⟩
   ·go_enter Tryz.func18,Tryz.ntmps18
    go_wp2_with fail
    refine(hS _ rfl).mono ?_
    rintro e w1 ⟨rfl,hb1⟩
    go_wp2
    go_ret
    exact⟨rfl,hb1⟩
  ·rename_i hl
   have hm1:¬100000<m.size:=by omega
   have h0b:t.toList.isEmpty=false:=by cases h:t.toList<;>simp_all
   go_enter Tryz.func18,Tryz.ntmps18
   go_wp2_with fail
   refine(hS _ rfl).mono ?_
   rintro e w1 ⟨rfl,hb1⟩
   go_wp2
   go_ret
   exact⟨rfl,hb1⟩
end Go.Proofs.YtibbpmhbgbafhaaGreatDoor
namespace Go.Proofs.YtibbpmhbgbafhaaGreatDoor
open Go.RowKit Go.Lib Go.Maps
theorem fsum_toBA (F:List Fl):fsum (toBA F)=flsum F:=by
 unfold fsum toBA flsum fsz
 rw[List.map_map]
 congr 1
theorem fl_size (F:List Fl)(n:Nat)(h:flsum F≤n):∀f ∈ F,f.1.length+3≤n∧f.2.length+3≤n:=by
 intro f hf
 have:f.1.length+f.2.length+3≤flsum F:=by
  unfold flsum
  clear h
  induction F with
  | nil=>cases hf
  | cons a r ih=>
   rw[List.map_cons,List.sum_cons]
   rcases List.mem_cons.1 hf with rfl|hf
   ·omega
   ·have:=ih hf
    omega
 omega
theorem sm_lt (A x:Nat):∀(l:List UInt8),x<2147483647→Ps.sm A x l<2147483647:=by
 intro l hx
 exact Ps.sm_lt A l x hx
def sgText (M:List ByteArray)(h:Int)(L:List Fd)(v:ByteArray):ByteArray:=⟨(tkL h M L).toArray⟩++ownB v h
def sgBody (msg:ByteArray)(b:Int):ByteArray:=canonAny (msg.extract (RH msg).body msg.size) b
def sgFront (msg d s:ByteArray)(A B:Nat)(M:List ByteArray)(h b:Int):ByteArray:=frontT d s M h b (Ps.sm A 1 (sgBody msg b).data.toList) (Ps.sm B 1 (sgBody msg b).data.toList)
def sgHead (msg d s:ByteArray)(A B:Nat)(M:List ByteArray)(h b:Int):ByteArray:=sgText M h (toBA (RH msg).fields) (sgFront msg d s A B M h b)
def sgValue (msg d s:ByteArray)(A B:Nat)(M:List ByteArray)(h b:Int):ByteArray:=sgFront msg d s A B M h b++sumT (Ps.sm A 1 (sgHead msg d s A B M h b).data.toList) (Ps.sm B 1 (sgHead msg d s A B M h b).data.toList)
def plSign (msg d s:ByteArray)(A B:Int)(M:List ByteArray)(h b:Int):ByteArray:=
 if signerOk d s A B M h b=true∧(RH msg).code=0∧¬(RH msg).fields.length=200 then Pl.added ⟨(Pl.hd [] [(sgName,sgValue msg d s A.toNat B.toNat M h b)]).toArray⟩ msg else ⟨#[]⟩
end Go.Proofs.YtibbpmhbgbafhaaGreatDoor
namespace Go.Proofs.YtibbpmhbgbafhaaGreatDoor
open Go.RowKit Go.Lib
set_option maxRecDepth 10000 in
theorem specSame (n m:ByteArray)(w:World)(hn:n.size≤100000)(hm:m.size≤100000) :
  Calls Tryz.prog 46 #[.string n,.string m] w fun e w'=>e=.returned (.bool (namedB n m))∧Below w.heap.size w w':=by
 have hA:=fun w=>specLower n w hn
 have hB:=fun w=>specLower m w hm
 have HE:Hid (namedB n m=((⟨(lower n.data.toList).toArray⟩:ByteArray).data.toList==(⟨(lower m.data.toList).toArray⟩:ByteArray).data.toList)):=rfl
 generalize (⟨(lower n.data.toList).toArray⟩:ByteArray)=ta at *
 generalize (⟨(lower m.data.toList).toArray⟩:ByteArray)=tb at *
 have HA:=(show Hid _ from hA)
 have HB:=(show Hid _ from hB)
 clear hA hB
 go_enter Tryz.func46,Tryz.ntmps46
 go_wp2_with fail
 refine(HA.out _).mono ?_
 rintro e w1 ⟨rfl,hb1⟩
 go_wp2_with fail
 refine(HB.out _).mono ?_
 rintro e w2 ⟨rfl,hb2⟩
 have hbq:=hb1.trans (hb2.mono hb1.size)
 go_wp2
 go_ret
 rw[HE.out,← ByteArray.toList_eq,← ByteArray.toList_eq]
 exact⟨rfl,hbq⟩
end Go.Proofs.YtibbpmhbgbafhaaGreatDoor
