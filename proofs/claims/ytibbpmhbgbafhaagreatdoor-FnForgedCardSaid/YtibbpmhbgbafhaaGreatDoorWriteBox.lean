import Derived.Test.YtibbpmhbgbafhaaGreatDoorBmCode
import Derived.Test.YtibbpmhbgbafhaaGreatDoorDrawOpC
import Derived.Test.YtibbpmhbgbafhaaGreatDoorAppG
import Derived.Test.YtibbpmhbgbafhaaGreatDoorDrawOpA
import Derived.Test.YtibbpmhbgbafhaaGreatDoorSumSpec
import Derived.Deep.QuietTactic
import Derived.Test.YtibbpmhbgbafhaaGreatDoorCanonFieldSpec
import Derived.BigQuiet
import Derived.Deep.RegionWith
set_option maxRecDepth 20000
set_option maxHeartbeats 8000000
namespace Go.Proofs.YtibbpmhbgbafhaaGreatDoor
open Go.RowKit Go.Lib Go.Maps
namespace Bm
def DecOutW (w:World)(e:Ending)(w':World):Prop:=∃(b:Bool)(x y:Value),e=.returned (.agg #[.bool b,x,y])∧Below w.heap.size w w'
def EncOutW (w:World)(e:Ending)(w':World):Prop:=∃(b:Bool)(t:ByteArray),e=.returned (.agg #[.bool b,.string t])∧t.size≤800∧Below w.heap.size w w'
theorem wName4 (w:World):Calls Tryz.prog 217 #[.int .i64 4] w fun e w'=>e=.returned (.string ⟨#[117,116,102,45,56]⟩)∧w=w':=by
 go_enter Tryz.func217,Tryz.ntmps217
 go_wp2
 go_ret
 exact⟨rfl,rfl⟩
theorem retP (w wr:World)(tmps:Array Value)(b:Bool)(x y:Value)(p0:Nat)(hp0:Tryz.f216.results=#[.cell p0 199])(hp:tmps.getD p0 undef=.pointer (some ⟨w.heap.size,0,none⟩)) {old:Array Value} (hres:wr.heap[w.heap.size]?=some (.cells old 199 (0,0)))(hb:Below w.heap.size w wr) :
  bodyPost Tryz.prog Tryz.f216 (DecOutW w) Exit.ret { tmps:=tmps,defers:=[] } (wr.setRow w.heap.size #[.bool b,x,y]):=by
 refine bodyPost_ret (v:=.agg #[.bool b,x,y]) (results_cell_row hp0 _ _ w.heap.size 199 _ (0,0) _ hp (setRow_heap _ _ _ _ _ _ hres) Tryz.underlying199 rfl ?_) rfl ⟨b,x,y,rfl,hb.grown (grown_setRow _ _ _) hb.size (fun j hj=>by cases hj;exact Nat.le_refl _)⟩
 kernel_rfl
theorem wDecode (s:ByteArray)(w:World)(hs:s.size≤100000) :
  Calls Tryz.prog 216 #[.int .i64 4,.string s] w (DecOutW w):=by
 have hres0:(w.alloc (.cells #[.bool false,.int .i64 0,.slice none 0 0] 199)).heap[w.heap.size]?=some (.cells #[.bool false,.int .i64 0,.slice none 0 0] 199 (0,0)):=heap_alloc_at _ _
 have hbel0:Below w.heap.size w (w.alloc (.cells #[.bool false,.int .i64 0,.slice none 0 0] 199)):=(Below.refl _ _).alloc (Nat.le_refl _) _
 have hsz0:(w.alloc (.cells #[.bool false,.int .i64 0,.slice none 0 0] 199)).heap.size=w.heap.size+1:=by simp
 go_enter Tryz.func216,Tryz.ntmps216
 go_wp2_with fail
 refine(wName4 _).mono ?_
 rintro e w2 ⟨rfl,rfl⟩
 go_wp2
 obtain⟨W,hW⟩:∃W,W=w.alloc (.cells #[.bool false,.int .i64 0,.slice none 0 0] 199):=⟨_,rfl⟩
 rw[← hW] at hres0 hbel0 hsz0 ⊢
 have hown0:=OwnN.made W.heap.size W (Nat.le_refl _)
 rw[show(⟨W.heap.size,0,none⟩:Addr)=⟨w.heap.size+1,0,none⟩ by rw[hsz0]] at hown0
 have hbW0:Below W.heap.size W (W.alloc (.cells #[] 2)):=(Below.refl _ _).alloc (Nat.le_refl _) _
 go_loopw [5,6] (fun out at' wr=>∃ (k:Nat) (P:List Int),k≤s.size∧P.length≤k∧at'=.int .i64 k∧OwnN W.heap.size out P wr∧Below W.heap.size W wr) (fun _ i _=>s.size-(Lib.intOf i).toNat)
 case atStart=>exact⟨0,[],Nat.zero_le _,Nat.le_refl _,rfl,hown0,hbW0⟩
 case round=>
  obtain⟨k,P,hk,hPk,rfl,hown,hb⟩:=hrel
  have hres:=(hb.block w.heap.size (by omega)).trans hres0
  have hbw:=hbel0.trans (hb.mono hbel0.size)
  by_cases hlt:k<s.size
  ·have cT:=mkHid (wTake s k wr hlt hs)
   go_wp2_with fail
   refine cT.out.mono ?_
   rintro e w3 ⟨p,n,rfl,hn,hb3⟩
   clear cT
   have hbW3:=hb.trans (hb3.mono hb.size)
   have hown3:=hown.below hb3
   have hres3:=(hbW3.block w.heap.size (by omega)).trans hres0
   have hbw3:=hbel0.trans (hbW3.mono hbel0.size)
   by_cases h0:n=0
   ·have e0:((n:Int)==0)=true:=by rw[h0];rfl
    clear hown hown3
    go_wp2_with (first|(refine wpL_store_row rfl 199 _ _ rfl w.heap.size #[.bool false,.int .i64 k,.slice none 0 0] rfl rfl 199 _ hres3 (by kernel_rfl) rfl (by simp[Value.oneCell']) ?_)|go_in)
    exact retP _ _ _ _ _ _ 4 Tryz.results216 rfl hres3 hbw3
   ·have e0:((n:Int)==0)=false:=beq_eq_false_iff_ne.2 (by omega)
    have hPl:P.length≤1000000:=by omega
    have hszW:W.heap.size≤w3.heap.size:=hbW3.size
    have hblk:∀q,u5.ownBlock=some q→W.heap.size≤q:=fun q hq=>(World.ownsRow.lt hown3 q hq).1
    clear hown
    go_wp2_with (at_builtin;go_must (refine wp_appN (w:=w3) rfl _ _ rfl W.heap.size u5 P rfl hown3 p 1 rfl hPl hszW ?_;intro v' w' hO' hG';refine Hid.out ?_))
    have hB:=mkHid ((hbW3.alloc hszW (.cells #[.int .i64 p] 2)).grown hG' (by simp;omega) hblk)
    have HO:=mkHid hO'
    have hP2:(P ++ [p]).length≤k+n:=by simp;omega
    clear hO' hG' hown3 hb hb3 hbW3 hres hres3 hbw hbw3
    generalize P ++ [p]=P2 at *
    refine mkHid ?_
    go_wp2
    go_roundw
    case rel=>exact⟨k+n,P2,by omega,hP2,by go_num,HO.out,hB.out⟩
    case measure=>simp[Lib.intOf];omega
  ·obtain⟨o,c,rfl⟩:=hown.shape
   clear hown
   go_wp2_with (first|(refine wpL_store_row rfl 199 _ _ rfl w.heap.size #[.bool true,.int .i64 0,.slice o P.length c] rfl rfl 199 _ hres (by kernel_rfl) rfl (by simp[Value.oneCell']) ?_)|go_in)
   exact retP _ _ _ _ _ _ 4 Tryz.results216 rfl hres hbw
theorem fieldP (b:Bool)(x y:Value)(w:World):Sem.run Tryz.prog (Instr.field 199 (.agg #[.bool b,x,y]) 0) w=.ok (.bool b) w:=by kernel_rfl
theorem wGood (s:ByteArray)(w:World):Calls Tryz.prog 183 #[.string s] w (BoolOut w):=by
 by_cases h1:s.size≤1000
 ·have cD:=wDecode s w (by omega)
  have h2:(s.size:Int)≤1000:=by omega
  go_enter Tryz.func183,Tryz.ntmps183
  go_wp2_with fail
  refine cD.mono ?_
  rintro e w2 ⟨b,x,y,rfl,hb⟩
  go_wp2_with fail
  rw[fieldP]
  go_wp2
  go_ret
  exact⟨_,rfl,hb⟩
 ·have h2:¬(s.size:Int)≤1000:=by omega
  go_enter Tryz.func183,Tryz.ntmps183
  go_wp2
  go_ret
  exact⟨_,rfl,Below.refl _ _⟩
theorem wp_appo {P:Program} {W w:World} {ops:Array Oper} {rest:List Oper} {o:Oper} {a:Act} {Q:Exit→Act→World→Prop} (hgd:o.guard=none)(s x:Operand)(t:TypeId)
  (ho:o.op=.call { callee:=.builtin .append,args:=#[s,x],argTypes:=#[t,t] })
  (i:TypeInfo) (ht:P.underlying t=some (.slice 5)) (hi:P.info? 5=some i) (hz:i.zero=some (.int .u8 0)) (hsize:i.size=1) (hby:i.bytes=1)
  (B:Nat) (v:Value) (p:List UInt8) (hs:a.eval s=v) (hown:Own B v p w) (B2:Nat) (v2:Value) (news:List UInt8) (hx:a.eval x=v2) (hown2:Own B2 v2 news w) (hne:news ≠ [])
  (hlen:p.length+news.length≤140737488355328) (hB:B≤W.heap.size) (hb:Below B W w)
  (h:∀v' w',Own B v' (p++news) w'→Below B W w'→wpList P ops Q rest (a.put o.dst v') w'):wpList P ops Q (o::rest) a w:=by
 have hsz:=hb.size
 rcases hown2.form with ⟨-,h0⟩|⟨g,cap,rfl⟩
 ·exact absurd h0 hne
 refine wpList_append_own _ hgd s x t ho B 5 i (.int .u8 0) 1 1 ht hi hz hsize hby rfl (by decide) v p.length (byteCells p) hs hown ⟨g,0,none⟩ news.length cap (byteCells news) hx
  (by rw[byteCells_length,Nat.mul_one]) ?_ ?_ (by unfold maxLen;omega) (by omega) (by omega) ?_
 ·intro j u hj
  have hj2:j<news.length:=by
   have:=(List.getElem?_eq_some_iff.1 hj).1
   simpa [byteCells_length] using this
  rw[add_off,hown2.cell j hj2]
  simpa [byteCells,hj2] using hj
 ·intro u hu
  simp only[byteCells,List.mem_map] at hu
  obtain⟨b,-,rfl⟩:=hu
  rfl
 ·intro v' w' h1 h2 _
  refine h v' w' ?_ ?_
  ·unfold Own
   rw[byteCells_append,List.length_append]
   exact h1
  ·exact hb.grown h2 (by omega) (fun k hk=>(World.ownsRow.lt hown k hk).1)
theorem nAt {B:Nat} {o:Option Addr} {P:List Int} {cap:Nat} {w:World} (h:OwnN B (.slice o P.length cap) P w)(i:Nat)(hi:i<P.length):∃a:Addr,o=some a∧a.block<w.heap.size∧w.cell? (a.add i)=some (.int .i64 P[i]):=by
 obtain⟨a,h1,-,h2,h3⟩:=h.inL i hi
 exact⟨a,h1,h2,h3⟩
theorem retE (w wr:World)(tmps:Array Value)(b:Bool)(t:ByteArray)(ht:t.size≤800)(p0:Nat)(hp0:Tryz.f189.results=#[.cell p0 130])(hp:tmps.getD p0 undef=.pointer (some ⟨w.heap.size,0,none⟩)) {old:Array Value} (hres:wr.heap[w.heap.size]?=some (.cells old 130 (0,0)))(hb:Below w.heap.size w wr) :
  bodyPost Tryz.prog Tryz.f189 (EncOutW w) Exit.ret { tmps:=tmps,defers:=[] } (wr.setRow w.heap.size #[.bool b,.string t]):=by
 refine bodyPost_ret (v:=.agg #[.bool b,.string t]) (results_cell_row hp0 _ _ w.heap.size 130 _ (0,0) _ hp (setRow_heap _ _ _ _ _ _ hres) Tryz.underlying130 rfl ?_) rfl ⟨b,t,rfl,ht,hb.grown (grown_setRow _ _ _) hb.size (fun j hj=>by cases hj;exact Nat.le_refl _)⟩
 kernel_rfl
theorem wEncode (B:Nat)(v:Value)(P:List Int)(w:World)(hP:OwnN B v P w)(hl:P.length≤200):Calls Tryz.prog 189 #[.int .i64 4,v] w (EncOutW w):=by
 obtain⟨o,cap,rfl⟩:=hP.shape
 have hres0:(w.alloc (.cells #[.bool false,.string ⟨#[]⟩] 130)).heap[w.heap.size]?=some (.cells #[.bool false,.string ⟨#[]⟩] 130 (0,0)):=heap_alloc_at _ _
 have hbel0:Below w.heap.size w (w.alloc (.cells #[.bool false,.string ⟨#[]⟩] 130)):=(Below.refl _ _).alloc (Nat.le_refl _) _
 have hsz0:(w.alloc (.cells #[.bool false,.string ⟨#[]⟩] 130)).heap.size=w.heap.size+1:=by simp
 have HW:=mkHid (hP.below hbel0)
 obtain⟨i0,hi,hy0,hy1,hy2⟩:=info_parts Tryz.info5
 clear hP
 go_enter Tryz.func189,Tryz.ntmps189
 go_wp2_with fail
 refine(wName4 _).mono ?_
 rintro e w2 ⟨rfl,rfl⟩
 go_wp2
 obtain⟨W,hW⟩:∃W,W=w.alloc (.cells #[.bool false,.string ⟨#[]⟩] 130):=⟨_,rfl⟩
 rw[← hW] at hres0 hbel0 hsz0 HW ⊢
 have hown0:=Own.made W.heap.size W (Nat.le_refl _)
 rw[show(⟨W.heap.size,0,none⟩:Addr)=⟨w.heap.size+1,0,none⟩ by rw[hsz0]] at hown0
 have hbW0:Below W.heap.size W (W.alloc (.cells #[] 5)):=(Below.refl _ _).alloc (Nat.le_refl _) _
 go_loopw [5,6] (fun v i wr=>∃ (k:Nat) (p:List UInt8),k≤P.length∧i=.int .i64 k∧p.length≤4*k∧Own W.heap.size v p wr∧Below W.heap.size W wr) (fun _ i _=>P.length-(Lib.intOf i).toNat)
 case atStart=>exact⟨0,[],Nat.zero_le _,rfl,by simp,hown0,hbW0⟩
 case round=>
  obtain⟨k,p,hk,rfl,hpl,hown,hb⟩:=hrel
  have hres:=(hb.block w.heap.size (by omega)).trans hres0
  have hbw:=hbel0.trans (hb.mono hbel0.size)
  by_cases hlt:k<P.length
  ·obtain⟨a,rfl,ha,hc0⟩:=nAt (HW.out.below hb) k hlt
   generalize P[k]=pt at hc0
   have hfo:=mkHid (wForm pt wr)
   go_wp2_with fail
   refine hfo.out.mono ?_
   rintro e w3 ⟨v3,F,rfl,hF,hown3,hb3⟩
   clear hfo
   have hbW3:=hb.trans (hb3.mono hb.size)
   have hown':=hown.belowG hb3
   have hres3:=(hbW3.block w.heap.size (by omega)).trans hres0
   have hbw3:=hbel0.trans (hbW3.mono hbel0.size)
   have Hown3:=mkHid hown3
   obtain⟨o3,c3,rfl⟩:=oflat hown3
   by_cases hnil:F=[]
   ·subst hnil
    clear hown hown' hown3 Hown3
    go_wp2_with (first|(refine wpL_store_row rfl 130 _ _ rfl w.heap.size #[.bool false,.string ⟨#[]⟩] rfl rfl 130 _ hres3 (by kernel_rfl) rfl (by simp[Value.oneCell']) ?_)|go_in)
    exact retE _ _ _ _ _ (by decide) 4 Tryz.results189 rfl hres3 hbw3
   ·have hl1:0<F.length:=List.length_pos_iff.2 hnil
    have hne:¬((F.length:Int)=0):=by omega
    clear hown3 hown
    go_wp2_with (at_builtin;go_must (refine wp_appo (W:=W) rfl _ _ 22 rfl i0 Tryz.underlying22 hi hy0 hy1 hy2 W.heap.size _ p rfl hown' wr.heap.size _ F rfl Hown3.out hnil (by omega) (Nat.le_refl _) hbW3 ?_;intro v4 w4 hown4 hb4))
    go_roundw
    case rel=>exact⟨k+1,_,by omega,by go_num,by rw[List.length_append];omega,hown4,hb4⟩
    case measure=>simp[Lib.intOf];omega
  ·have hbk:=hown.back (P:=Tryz.prog) 22 9 Tryz.underlying22 Tryz.underlying5 Tryz.underlying9
   have hpz:(⟨p.toArray⟩:ByteArray).size≤800:=by show p.toArray.size≤_;simp;omega
   go_wp2_with (first|(refine wpL_store_row rfl 130 _ _ rfl w.heap.size #[.bool true,.string ⟨p.toArray⟩] rfl rfl 130 _ hres (by kernel_rfl) rfl (by simp[Value.oneCell']) ?_)|go_in)
   exact retE _ _ _ _ _ hpz 4 Tryz.results189 rfl hres hbw
end Bm
namespace Bm
theorem fieldE (b:Bool)(x:Value)(w:World):Sem.run Tryz.prog (Instr.field 130 (.agg #[.bool b,x]) 1) w=.ok x w:=by kernel_rfl
theorem wp_appN2 {w:World} {ops:Array Oper} {rest:List Oper} {o:Oper} {a:Act} {Q:Exit→Act→World→Prop} (hgd:o.guard=none)(s x:Operand)
  (ho:o.op=.call { callee:=.builtin .append,args:=#[s,x],argTypes:=#[106,106] })
  (B:Nat) (v:Value) (C:List Int) (hs:a.eval s=v) (hown:OwnN B v C w) (u t:Int)
  (c:Nat) (hx:a.eval x=.slice (some ⟨w.heap.size,0,none⟩) 2 c) (hlen:C.length≤1000000) (hB:B≤w.heap.size)
  (h:∀v' w',OwnN B v' (C ++ [u,t]) w'→(w.alloc (.cells #[.int .i64 u,.int .i64 t] 2)).grownBy w' v.ownBlock→wpList Tryz.prog ops Q rest (a.put o.dst v') w'):wpList Tryz.prog ops Q (o::rest) a (w.alloc (.cells #[.int .i64 u,.int .i64 t] 2)):=by
 obtain⟨i0,hi0,hz0,hz1,hz2⟩:=info_parts Tryz.info2
 unfold OwnN at hown
 refine wpList_append_own _ hgd s x 106 ho B 2 i0 (.int .i64 0) 1 8 Tryz.underlying106 hi0 hz0 hz1 hz2 rfl (by decide) v C.length (numCells C) hs (World.ownsRow.alloc hown _) ⟨w.heap.size,0,none⟩ 2 c [.int .i64 u,.int .i64 t] hx
  rfl ?_ ?_ (by unfold maxLen;omega) (by omega) (by simp;omega) ?_
 ·intro j y hj
  rw[add_off]
  match j,hj with
  | 0,hj=>simp at hj;subst hj;simp
  | 1,hj=>simp at hj;subst hj;simp
 ·intro y hy
  simp at hy
  rcases hy with rfl|rfl<;>rfl
 ·intro v' w' h1 h2 _
  refine h v' w' ?_ h2
  unfold OwnN numCells
  rw[List.map_append,List.length_append]
  exact h1
theorem wEnc (B:Nat)(v:Value)(P:List Int)(w:World)(hP:OwnN B v P w)(hl:P.length≤200):Calls Tryz.prog 189 #[.int .i64 4,v] w (EncOutW w):=wEncode B v P w hP hl
set_option maxRecDepth 40000 in
theorem srcValueP (g:Nat)(o:Option Addr)(c:List UInt8)(cp a z:Nat)(w:World)(h:Src w g o c.length cp a z)(hc:Code g w o c)(ha:a≤700000000000)(hl:c.length≤1048576) :
  Calls Tryz.prog 153 #[.pointer (some ⟨g,0,none⟩)] w fun e w'=>∃ (t:ByteArray) (a':Nat),e=.returned (.string t)∧t.size≤1000∧a'≤a+200∧Src w' g o c.length cp a' z∧w.grownBy w' (some g):=by
 have HC:Hid (Code g w o c):=hc
 have hgl:=h.lt
 have Hs:=mkHid h
 have Hg:Hid (w.grownBy w (some g)):=gr_refl _ _
 clear h hc
 go_enter Tryz.func153,Tryz.ntmps153
 have hN7:=srcN g o c cp a z 6 w Hs.out (HC.out.grown Hg.out (Nat.le_refl _)) (by omega) hl (by omega) (by omega)
 go_wp2_with fail
 refine hN7.mono ?_
 rintro e w2 ⟨v1,rfl,hv1,hs5,hg6⟩
 have Hs3:=mkHid hs5
 have Hg4:=mkHid (gr_trans Hg.out hg6)
 clear hN7 hs5 hg6 Hs Hg
 rcases (show v1=0∨v1=1∨v1=2∨v1=3∨4≤v1 by omega) with hv|hv|hv|hv|hv
 ·have b0:((v1:Int)==0)=true:=by rw[hv];rfl
  clear hv
  have hb14:∀cs,Below w2.heap.size w2 (w2.alloc (.cells cs 9)):=fun cs=>(Below.refl _ _).alloc (Nat.le_refl _) _
  have hN13:=fun cs=>srcN g o c cp (a+1) z 9 (w2.alloc (.cells cs 9)) (Hs3.out.below (hb14 cs)) (HC.out.grown (gr_trans Hg4.out (gr_below (hb14 cs))) (Nat.le_refl _)) (by omega) hl (by omega) (by omega)
  have hl17:g<w2.heap.size:=Hs3.out.lt
  go_wp2_with fail
  refine(hN13 _).mono ?_
  rintro e w8 ⟨v11,rfl,hv11,hs15,hg16⟩
  obtain⟨t12,hct12,hzt12⟩:=table_at (M:=20) hg16 hl17 (show v11<9 by omega) (by decide)
  have hlv11:v11<9:=by omega
  have hgg18:=gr_trans (gr_below (hb14 _)) hg16
  have Hs9:=mkHid hs15
  have Hg10:=mkHid (gr_trans Hg4.out hgg18)
  clear hN13 hs15 hg16 hb14 hl17 hgg18 Hs3 Hg4
  go_wp2
  go_ret
  exact⟨_,((a+1)+1),rfl,by omega,by omega,Hs9.out,Hg10.out⟩
 ·have b0:((v1:Int)==0)=false:=beq_eq_false_iff_ne.2 (by omega)
  have b1:((v1:Int)==1)=true:=by rw[hv];rfl
  clear hv
  have hN14:=srcN g o c cp (a+1) z 40 w2 Hs3.out (HC.out.grown Hg4.out (Nat.le_refl _)) (by omega) hl (by omega) (by omega)
  go_wp2_with fail
  refine hN14.mono ?_
  rintro e w9 ⟨v8,rfl,hv8,hs12,hg13⟩
  have Hs10:=mkHid hs12
  have Hg11:=mkHid (gr_trans Hg4.out hg13)
  clear hN14 hs12 hg13 Hs3 Hg4
  have hP:=srcPoints g o c cp ((a+1)+1) z v8 w9 Hs10.out (HC.out.grown Hg11.out (Nat.le_refl _)) (by omega) hl (by omega)
  go_wp2_with fail
  refine hP.mono ?_
  rintro e wP ⟨vP,P,aP,rfl,hPl,hPo,haP,hsP,hgP⟩
  have HsP:=mkHid hsP
  have HgP:=mkHid (gr_trans Hg11.out hgP)
  have HP:=mkHid hPo
  clear hP hsP hgP hPo Hs10 Hg11
  have hE:=wEnc _ _ _ _ HP.out (by omega)
  go_wp2_with fail
  refine hE.mono ?_
  rintro e wE ⟨bE,tE,rfl,hzE,hbE⟩
  have HsE:=mkHid (HsP.out.below hbE)
  have HgE:=mkHid (gr_trans HgP.out (gr_below hbE))
  clear hE hbE HsP HgP
  go_wp2_with fail
  try (rw[fieldE];go_wp2)
  go_ret
  exact⟨_,aP,rfl,by omega,by omega,HsE.out,HgE.out⟩
 ·have b0:((v1:Int)==0)=false:=beq_eq_false_iff_ne.2 (by omega)
  have b1:((v1:Int)==1)=false:=beq_eq_false_iff_ne.2 (by omega)
  have b2:((v1:Int)==2)=true:=by rw[hv];rfl
  clear hv
  have hN14:=srcN g o c cp (a+1) z 8 w2 Hs3.out (HC.out.grown Hg4.out (Nat.le_refl _)) (by omega) hl (by omega) (by omega)
  go_wp2_with fail
  refine hN14.mono ?_
  rintro e w9 ⟨v8,rfl,hv8,hs12,hg13⟩
  have Hs10:=mkHid hs12
  have Hg11:=mkHid (gr_trans Hg4.out hg13)
  clear hN14 hs12 hg13 Hs3 Hg4
  have hP:=srcPoints g o c cp ((a+1)+1) z v8 w9 Hs10.out (HC.out.grown Hg11.out (Nat.le_refl _)) (by omega) hl (by omega)
  go_wp2_with fail
  refine hP.mono ?_
  rintro e wP ⟨vP,P,aP,rfl,hPl,hPo,haP,hsP,hgP⟩
  have HsP:=mkHid hsP
  have HgP:=mkHid (gr_trans Hg11.out hgP)
  have HP:=mkHid hPo
  have hszQ:=hgP.size
  have hglQ:g<w9.heap.size:=Hs10.out.lt
  have hszw:w.heap.size≤w9.heap.size:=Hg11.out.size
  clear hP hsP hgP hPo Hs10 Hg11
  have hszP:w9.heap.size≤wP.heap.size:=hszQ
  go_wp2_with (at_builtin;go_must (refine wp_appN2 (w:=wP) rfl _ _ rfl w9.heap.size vP P rfl HP.out 233 10 2 rfl (by omega) hszP ?_;intro v' w' hO' hG';refine Hid.out ?_))
  have hblk:∀q,vP.ownBlock=some q→w9.heap.size≤q:=fun q hq=>(World.ownsRow.lt HP.out q hq).1
  have bA:Below wP.heap.size wP (wP.alloc (.cells #[.int .i64 233,.int .i64 10] 2)):=(Below.refl _ _).alloc (Nat.le_refl _) _
  have HsN:=mkHid ((HsP.out.below bA).row hG' (fun q hq=>by have:=hblk q hq;omega))
  have HgN:=mkHid (gr_row (gr_trans HgP.out (gr_below bA)) hG' (fun q hq=>by have:=hblk q hq;omega))
  have HON:=mkHid hO'
  have hPl2:(P ++ [233,10]:List Int).length≤200:=by simp;omega
  clear hO' hG' bA HP HsP HgP
  generalize P ++ [233,10]=P2 at *
  refine mkHid ?_
  have hE:=wEnc _ _ _ _ HON.out hPl2
  go_wp2_with fail
  refine hE.mono ?_
  rintro e wE ⟨bE,tE,rfl,hzE,hbE⟩
  have HsE:=mkHid (HsN.out.below hbE)
  have HgE:=mkHid (gr_trans HgN.out (gr_below hbE))
  clear hE hbE HsN HgN
  go_wp2_with fail
  try (rw[fieldE];go_wp2)
  go_ret
  exact⟨_,aP,rfl,by omega,by omega,HsE.out,HgE.out⟩
 ·have b0:((v1:Int)==0)=false:=beq_eq_false_iff_ne.2 (by omega)
  have b1:((v1:Int)==1)=false:=beq_eq_false_iff_ne.2 (by omega)
  have b2:((v1:Int)==2)=false:=beq_eq_false_iff_ne.2 (by omega)
  have b3:((v1:Int)==3)=true:=by rw[hv];rfl
  clear hv
  have hN15:=srcWord g o c cp (a+1) z w2 Hs3.out (HC.out.grown Hg4.out (Nat.le_refl _)) (by omega) hl
  go_wp2_with fail
  refine hN15.mono ?_
  rintro e w10 ⟨t8,a9,rfl,hzt8,ha9,hs13,hg14⟩
  have Hs11:=mkHid hs13
  have Hg12:=mkHid (gr_trans Hg4.out hg14)
  clear hN15 hs13 hg14 Hs3 Hg4
  have n1:¬9223372036854775807<48+t8.size:=by omega
  have hN23:=srcWord g o c cp a9 z w10 Hs11.out (HC.out.grown Hg12.out (Nat.le_refl _)) (by omega) hl
  go_wp2_with fail
  refine hN23.mono ?_
  rintro e w18 ⟨t16,a17,rfl,hzt16,ha17,hs21,hg22⟩
  have Hs19:=mkHid hs21
  have Hg20:=mkHid (gr_trans Hg12.out hg22)
  clear hN23 hs21 hg22 Hs11 Hg12
  have hN31:=srcWord g o c cp a17 z w18 Hs19.out (HC.out.grown Hg20.out (Nat.le_refl _)) (by omega) hl
  go_wp2_with fail
  refine hN31.mono ?_
  rintro e w26 ⟨t24,a25,rfl,hzt24,ha25,hs29,hg30⟩
  have Hs27:=mkHid hs29
  have Hg28:=mkHid (gr_trans Hg20.out hg30)
  clear hN31 hs29 hg30 Hs19 Hg20
  have n1:¬9223372036854775807<48+t8.size:=by omega
  have n2:¬9223372036854775807<48+t8.size+t16.size:=by omega
  have n3:¬9223372036854775807<48+t8.size+t16.size+t24.size:=by omega
  have n4:¬9223372036854775807<48+t8.size+t16.size+t24.size+8:=by omega
  go_wp2
  go_ret
  exact⟨_,a25,rfl,by simp only[ByteArray.size_append];show 48+t8.size+t16.size+t24.size+8≤_;omega,by omega,Hs27.out,Hg28.out⟩
 ·have b0:((v1:Int)==0)=false:=beq_eq_false_iff_ne.2 (by omega)
  have b1:((v1:Int)==1)=false:=beq_eq_false_iff_ne.2 (by omega)
  have b2:((v1:Int)==2)=false:=beq_eq_false_iff_ne.2 (by omega)
  have b3:((v1:Int)==3)=false:=beq_eq_false_iff_ne.2 (by omega)
  clear hv
  have hN15:=srcWord g o c cp (a+1) z w2 Hs3.out (HC.out.grown Hg4.out (Nat.le_refl _)) (by omega) hl
  go_wp2_with fail
  refine hN15.mono ?_
  rintro e w10 ⟨t8,a9,rfl,hzt8,ha9,hs13,hg14⟩
  have Hs11:=mkHid hs13
  have Hg12:=mkHid (gr_trans Hg4.out hg14)
  clear hN15 hs13 hg14 Hs3 Hg4
  go_wp2
  go_ret
  exact⟨_,a9,rfl,by omega,by omega,Hs11.out,Hg12.out⟩
end Bm
end Go.Proofs.YtibbpmhbgbafhaaGreatDoor
namespace Go.Proofs.YtibbpmhbgbafhaaGreatDoor
open Go.RowKit Go.Lib
abbrev box3 (n l d:ByteArray):Value:=.agg #[.string n,.string l,.string d]
def addrOk (n l d:ByteArray):Bool:=decide (1≤l.size) && (decide (l.size≤64) && (l.data.toList.all Pl.tb && (decide (n.size≤200) && (n.data.toList.all Pl.tb && Pl.domI d.data.toList))))
theorem specIsName (s:ByteArray)(w:World)(hs:s.size≤1100000) :
  Calls Tryz.prog 100 #[.string s] w fun e w'=>e=.returned (.bool (decide (s.size≤200) && s.data.toList.all Pl.tb))∧w=w':=by
 by_cases hn:s.size≤200
 ·have ha:=specClean s w hs
  rw[decide_eq_true hn,Bool.true_and]
  generalize s.data.toList.all Pl.tb=b at *
  go_enter Tryz.func100,Tryz.ntmps100
  go_wp2_with (go_at_call 148;go_must (refine ha.mono ?_;rintro e w2 ⟨rfl,rfl⟩))
  go_ret
  exact⟨rfl,rfl⟩
 ·rw[decide_eq_false hn,Bool.false_and]
  go_enter Tryz.func100,Tryz.ntmps100
  go_wp2
  go_ret
  exact⟨rfl,rfl⟩
theorem isEmpty_of (q:ByteArray)(h0:q.size=0):q.toList.isEmpty=true:=by
 rw[ByteArray.toList_eq,List.isEmpty_iff]
 exact List.length_eq_zero_iff.1 (by rw[Pl.len_list];exact h0)
theorem isEmpty_ne (q:ByteArray)(h0:¬q.size=0):q.toList.isEmpty=false:=by
 rw[ByteArray.toList_eq,List.isEmpty_eq_false_iff]
 intro e
 exact h0 (by rw[← Pl.len_list,e];rfl)
theorem specAddress (n l d:ByteArray)(w:World)(hn:n.size≤1100000)(hl:l.size≤1100000)(hd:d.size≤1100000) :
  Calls Tryz.prog 97 #[box3 n l d] w fun e w'=>e=.returned (.int .i64 (dcode (addrOk n l d)))∧Below w.heap.size w w':=by
 have hN:=fun w=>specIsName n w hn
 have hA:=fun w=>specClean l w hl
 have hD:=fun w=>specDomain d w hd
 have hbA:∀b,Below w.heap.size w (w.alloc b):=fun b=>(Below.refl _ _).alloc (Nat.le_refl _) _
 unfold addrOk
 generalize Pl.domI d.data.toList=b3 at *
 by_cases h0:l.size=0
 ·rw[decide_eq_false (by omega),Bool.false_and]
  go_enter Tryz.func97,Tryz.ntmps97
  go_wp2
  go_ret
  exact⟨rfl,hbA _⟩
 rw[decide_eq_true (by omega),Bool.true_and]
 by_cases h1:64<l.size
 ·rw[decide_eq_false (by omega),Bool.false_and]
  go_enter Tryz.func97,Tryz.ntmps97
  go_wp2
  go_ret
  exact⟨rfl,hbA _⟩
 rw[decide_eq_true (by omega),Bool.true_and]
 generalize l.data.toList.all Pl.tb=b1 at *
 rw[← Bool.and_assoc (decide (n.size≤200))]
 generalize (decide (n.size≤200) && n.data.toList.all Pl.tb)=b2 at *
 cases b1
 ·go_enter Tryz.func97,Tryz.ntmps97
  go_wp2_with (go_at_call 148;go_must (refine(hA _).mono ?_;rintro e w2 ⟨rfl,rfl⟩))
  go_ret
  exact⟨rfl,hbA _⟩
 have hcell:∀(b:TypeId) (w3:World),Below (w.alloc (.cells #[.string n,.string l,.string d] b)).heap.size (w.alloc (.cells #[.string n,.string l,.string d] b)) w3→w3.cell? ⟨w.heap.size,0,none⟩=some (.string n):=by
  intro b w3 hb
  refine(hb.cell (p:=⟨w.heap.size,0,none⟩) (by simp)).trans ?_
  simp
 cases b3
 all_goals
  cases b2
  all_goals
   go_enter Tryz.func97,Tryz.ntmps97
   go_wp2_with first|(go_at_call 148;go_must (refine(hA _).mono ?_;rintro e w2 ⟨rfl,rfl⟩))|(go_at_call 66;go_must (refine(hD _).mono ?_;rintro e w3 ⟨rfl,hb3⟩;have hc3:=hcell _ _ hb3;simp only[dcode]))|(go_at_call 100;go_must (refine(hN _).mono ?_;rintro e w4 ⟨rfl,rfl⟩))
   go_ret
   exact⟨rfl,(hbA _).trans (hb3.mono (hbA _).size)⟩
theorem addrOk_sizes (n l d:ByteArray)(h:addrOk n l d=true):n.size≤200∧l.size≤64∧d.size≤255:=by
 simp only[addrOk,Bool.and_eq_true,decide_eq_true_eq,Pl.domI] at h
 obtain⟨_,h1,_,h2,_,h3,_⟩:=h
 exact⟨h2,h1,by simpa using h3⟩
abbrev bx (n l d:ByteArray):Obj:=.cells #[.string n,.string l,.string d] 134
theorem box_cells (n l d:ByteArray)(w w2:World)(hb:Below (w.alloc (bx n l d)).heap.size (w.alloc (bx n l d)) w2) :
  w2.cell? ⟨w.heap.size,0,none⟩=some (.string n)∧w2.cell? ⟨w.heap.size,1,none⟩=some (.string l)∧w2.cell? ⟨w.heap.size,2,none⟩=some (.string d):=by
 refine⟨(hb.cell (p:=⟨w.heap.size,0,none⟩) (by simp)).trans ?_,(hb.cell (p:=⟨w.heap.size,1,none⟩) (by simp)).trans ?_,(hb.cell (p:=⟨w.heap.size,2,none⟩) (by simp)).trans ?_⟩<;>simp
theorem qs_len:∀l:List UInt8,(Pl.qs l).length≤2*l.length
 | []=>by simp[Pl.qs]
 | c::r=>by
  have:=qs_len r
  rw[Pl.qs]
  split<;>simp<;>omega
def quo (l:ByteArray):ByteArray:=⟨(34::Pl.qs l.data.toList ++ [34]).toArray⟩
theorem quo_size (l:ByteArray):(quo l).size≤2*l.size+2:=by
 have:=qs_len l.data.toList
 show(34::Pl.qs l.data.toList ++ [34]).toArray.size≤_
 simp at this ⊢
 exact this
def phr (l:ByteArray):ByteArray:=⟨(Pl.phrase l.data.toList).toArray⟩
theorem phr_size (l:ByteArray):(phr l).size≤2*l.size+2:=by
 have:=qs_len l.data.toList
 show(Pl.phrase l.data.toList).toArray.size≤_
 unfold Pl.phrase
 split
 ·split
  ·simp;omega
  ·simp at this ⊢;exact this
 ·simp
def addrT (l d:ByteArray):ByteArray:=(if Pl.scan 46 false l.data.toList then l else quo l)++⟨#[64]⟩++d
def boxT (n l d:ByteArray):ByteArray:=if addrOk n l d then (if n.size=0 then addrT l d else phr n++⟨#[32,60]⟩++addrT l d++⟨#[62]⟩) else ⟨#[]⟩
theorem specBox (n l d:ByteArray)(w:World)(hn:n.size≤1100000)(hl:l.size≤1100000)(hd:d.size≤1100000) :
  Calls Tryz.prog 98 #[box3 n l d] w fun e w'=>e=.returned (.string (boxT n l d))∧Below w.heap.size w w':=by
 have hA:=specAddress n l d (w.alloc (bx n l d)) hn hl hd
 have hbA:Below w.heap.size w (w.alloc (bx n l d)):=(Below.refl _ _).alloc (Nat.le_refl _) _
 cases hok:addrOk n l d
 ·rw[boxT,hok]
  rw[hok] at hA
  go_enter Tryz.func98,Tryz.ntmps98
  go_wp2_with (go_at_call 97;go_must (refine hA.mono ?_;rintro e w2 ⟨rfl,hb2⟩;simp only[dcode]))
  go_ret
  exact⟨rfl,hbA.trans (hb2.mono hbA.size)⟩
 ·obtain⟨s0,s1,s2⟩:=addrOk_sizes n l d hok
  rw[boxT,hok,if_pos rfl,addrT]
  rw[hok] at hA
  have HT:=(show Hid _ from fun (w:World)=>specAtoms 46 46 rfl l w (by omega))
  have HQ:=(show Hid (∀w,Calls Tryz.prog 149 #[.string l] w fun e w'=>e=.returned (.string (quo l))∧Below w.heap.size w w') from fun (w:World)=>specQuote l w (by omega))
  have HP:=(show Hid (∀w,Calls Tryz.prog 101 #[.string n] w fun e w'=>e=.returned (.string (phr n))∧Below w.heap.size w w') from fun (w:World)=>specPhrase n w (by omega))
  have zq:=quo_size l
  have zp:=phr_size n
  have Hb:=(show Hid _ from box_cells n l d w)
  generalize quo l=ql at *
  generalize phr n=pn at *
  clear hok hn hl hd
  cases hat:Pl.scan 46 false l.data.toList<;>simp only[hat] at HT
  ·simp only[Bool.false_eq_true,if_false]
   clear hat
   by_cases h0:n.size=0
   ·have hE:=isEmpty_of n h0
    rw[if_pos h0]
    go_enter Tryz.func98,Tryz.ntmps98
    go_wp2_with fail
    refine hA.mono ?_
    rintro e w2 ⟨rfl,hb2⟩
    simp only[dcode]
    obtain⟨c0,c1,c2⟩:=Hb.out _ hb2
    go_wp2_with fail
    refine(HT.out _).mono ?_
    rintro e w3 ⟨rfl,hb3⟩
    clear c0 c1 c2
    go_wp2_with fail
    refine(HQ.out _).mono ?_
    rintro e w4 ⟨rfl,hb4⟩
    have b4:=hb2.trans ((hb3.trans (hb4.mono hb3.size)).mono hb2.size)
    obtain⟨c0,c1,c2⟩:=Hb.out _ b4
    go_wp2
    go_ret
    exact⟨rfl,hbA.trans (b4.mono hbA.size)⟩
   ·have hE:=isEmpty_ne n h0
    rw[if_neg h0]
    go_enter Tryz.func98,Tryz.ntmps98
    go_wp2_with fail
    refine hA.mono ?_
    rintro e w2 ⟨rfl,hb2⟩
    simp only[dcode]
    obtain⟨c0,c1,c2⟩:=Hb.out _ hb2
    go_wp2_with fail
    refine(HT.out _).mono ?_
    rintro e w3 ⟨rfl,hb3⟩
    clear c0 c1 c2
    go_wp2_with fail
    refine(HQ.out _).mono ?_
    rintro e w4 ⟨rfl,hb4⟩
    have b4:=hb2.trans ((hb3.trans (hb4.mono hb3.size)).mono hb2.size)
    obtain⟨c0,c1,c2⟩:=Hb.out _ b4
    have Hc:=(show Hid (∀w9,Below w4.heap.size w4 w9→w9.cell? ⟨w.heap.size,2,none⟩=some (.string d)) from fun w9 h=>(Hb.out _ (b4.trans (h.mono b4.size))).2.2)
    go_wp2
    go_region_with (go_at_call 101;(refine(HP.out _).mono ?_;rintro e w5 ⟨rfl,hb5⟩;have c5:=Hc.out w5 (((Below.refl w4.heap.size w4).drew).trans hb5)))
    all_goals
     go_wp2
     go_ret
     refine⟨?_,hbA.trans ((b4.trans ((((Below.refl w4.heap.size w4).drew).trans hb5).mono b4.size)).mono hbA.size)⟩
     simp only[ByteArray.append_assoc]
     rfl
  ·simp only[if_true]
   clear hat
   by_cases h0:n.size=0
   ·have hE:=isEmpty_of n h0
    rw[if_pos h0]
    go_enter Tryz.func98,Tryz.ntmps98
    go_wp2_with fail
    refine hA.mono ?_
    rintro e w2 ⟨rfl,hb2⟩
    simp only[dcode]
    obtain⟨c0,c1,c2⟩:=Hb.out _ hb2
    go_wp2_with fail
    refine(HT.out _).mono ?_
    rintro e w3 ⟨rfl,hb3⟩
    have b4:=hb2.trans (hb3.mono hb2.size)
    clear c0 c1 c2
    obtain⟨c0,c1,c2⟩:=Hb.out _ b4
    go_wp2
    go_ret
    exact⟨rfl,hbA.trans (b4.mono hbA.size)⟩
   ·have hE:=isEmpty_ne n h0
    rw[if_neg h0]
    go_enter Tryz.func98,Tryz.ntmps98
    go_wp2_with fail
    refine hA.mono ?_
    rintro e w2 ⟨rfl,hb2⟩
    simp only[dcode]
    obtain⟨c0,c1,c2⟩:=Hb.out _ hb2
    go_wp2_with fail
    refine(HT.out _).mono ?_
    rintro e w3 ⟨rfl,hb3⟩
    have b4:=hb2.trans (hb3.mono hb2.size)
    clear c0 c1 c2
    obtain⟨c0,c1,c2⟩:=Hb.out _ b4
    have Hc:=(show Hid (∀w9,Below w3.heap.size w3 w9→w9.cell? ⟨w.heap.size,2,none⟩=some (.string d)) from fun w9 h=>(Hb.out _ (b4.trans (h.mono b4.size))).2.2)
    go_wp2
    go_region_with (go_at_call 101;(refine(HP.out _).mono ?_;rintro e w5 ⟨rfl,hb5⟩;have c5:=Hc.out w5 (((Below.refl w3.heap.size w3).drew).trans hb5)))
    all_goals
     go_wp2
     go_ret
     refine⟨?_,hbA.trans ((b4.trans ((((Below.refl w3.heap.size w3).drew).trans hb5).mono b4.size)).mono hbA.size)⟩
     simp only[ByteArray.append_assoc]
     rfl
end Go.Proofs.YtibbpmhbgbafhaaGreatDoor
