import Derived.Test.YtacaoiedcfelcaaGreatDoorAnyVals
import Derived.Test.YtacaoiedcfelcaaGreatDoorDrawOpA
import Derived.Test.YtacaoiedcfelcaaGreatDoorCkSgd
import Derived.Lib.QuietBelow
import Derived.OrdersHeld
import Derived.Test.YtacaoiedcfelcaaGreatDoorCells
import Derived.Test.YtacaoiedcfelcaaGreatDoorOwnF
set_option maxRecDepth 20000
set_option maxHeartbeats 8000000
namespace Go.Proofs.YtacaoiedcfelcaaGreatDoor
open Go.RowKit Go.Lib Go.Maps
namespace Bm
theorem ownLit (w:World)(p:List UInt8)(cs:Array Value)(h:cs.toList=byteCells p)(hm:p.length≤1000):Own w.heap.size (.slice (some ⟨w.heap.size,0,none⟩) p.length p.length) p (w.alloc (.cells cs 5)):=by
 have:=World.ownsRow_lit (base:=w.heap.size) (e:=5) (size:=1) w cs p.length (Nat.le_refl _) (by unfold maxLen;omega) (by have:=congrArg List.length h;simp[byteCells_length] at this;omega)
 rw[h] at this
 exact this
def isPt (p:Int):Bool:=decide (0≤p) && (decide (p≤1114111) && !(decide (55296≤p) && decide (p≤57343)))
theorem wPoint (p:Int)(w:World):Calls Tryz.prog 243 #[.int .i64 p] w fun e w'=>e=.returned (.bool (isPt p))∧w'=w:=by
 unfold isPt
 by_cases h1:0≤p<;>by_cases h2:p≤1114111<;>by_cases h3:55296≤p<;>by_cases h4:p≤57343
 all_goals
  go_enter Tryz.func243,Tryz.ntmps243
  go_wp2
  go_ret
  exact⟨congrArg (fun b=>Ending.returned (.bool b)) (by first|(simp[h1,h2,h3,h4];done)|(simp;omega)),rfl⟩
theorem wForm (p:Int)(w:World):Calls Tryz.prog 241 #[.int .i64 4,.int .i64 p] w fun e w'=>∃ (v:Value)(F:List UInt8),e=.returned v∧F.length≤4∧Own w.heap.size v F w'∧Below w.heap.size w w':=by
 have hP:=wPoint p w
 cases h:isPt p
 ·rw[h] at hP
  go_enter Tryz.func241,Tryz.ntmps241
  go_wp2_with fail
  refine hP.mono ?_
  rintro e w2 ⟨rfl,rfl⟩
  go_wp2
  go_ret
  exact⟨_,[],rfl,by simp,Own.made _ _ (Nat.le_refl _),(Below.refl _ _).alloc (Nat.le_refl _) _⟩
 ·rw[h] at hP
  have hr:0≤p∧p≤1114111:=by
   unfold isPt at h
   simp only[Bool.and_eq_true,decide_eq_true_eq] at h
   exact⟨h.1,h.2.1⟩
  clear h
  rcases (show p<128∨(128≤p∧p<2048)∨(2048≤p∧p<65536)∨65536≤p by omega) with h1|h1|h1|h1
  ·go_enter Tryz.func241,Tryz.ntmps241
   go_wp2_with fail
   refine hP.mono ?_
   rintro e w2 ⟨rfl,rfl⟩
   go_wp2
   go_ret
   exact⟨_,[Pl.by8 p],rfl,by simp,ownLit w2 [Pl.by8 p] _ (by simp[byteCells,by8_val p (by omega) (by omega)]) (by simp),(Below.refl _ _).alloc (Nat.le_refl _) _⟩
  ·go_enter Tryz.func241,Tryz.ntmps241
   go_wp2_with fail
   refine hP.mono ?_
   rintro e w2 ⟨rfl,rfl⟩
   go_wp2
   go_ret
   exact⟨_,[Pl.by8 (192+p / 64),Pl.by8 (128+p % 64)],rfl,by simp,ownLit w2 [Pl.by8 (192+p / 64),Pl.by8 (128+p % 64)] _ (by simp only[byteCells,List.map,by8_val (192+p / 64) (by omega) (by omega),by8_val (128+p % 64) (by omega) (by omega)]) (by simp),(Below.refl _ _).alloc (Nat.le_refl _) _⟩
  ·go_enter Tryz.func241,Tryz.ntmps241
   go_wp2_with fail
   refine hP.mono ?_
   rintro e w2 ⟨rfl,rfl⟩
   go_wp2
   go_ret
   exact⟨_,[Pl.by8 (224+p / 4096),Pl.by8 (128+p / 64 % 64),Pl.by8 (128+p % 64)],rfl,by simp,ownLit w2 [Pl.by8 (224+p / 4096),Pl.by8 (128+p / 64 % 64),Pl.by8 (128+p % 64)] _ (by simp only[byteCells,List.map,by8_val (224+p / 4096) (by omega) (by omega),by8_val (128+p / 64 % 64) (by omega) (by omega),by8_val (128+p % 64) (by omega) (by omega)]) (by simp),(Below.refl _ _).alloc (Nat.le_refl _) _⟩
  ·go_enter Tryz.func241,Tryz.ntmps241
   go_wp2_with fail
   refine hP.mono ?_
   rintro e w2 ⟨rfl,rfl⟩
   go_wp2
   go_ret
   exact⟨_,[Pl.by8 (240+p / 262144),Pl.by8 (128+p / 4096 % 64),Pl.by8 (128+p / 64 % 64),Pl.by8 (128+p % 64)],rfl,by simp,ownLit w2 [Pl.by8 (240+p / 262144),Pl.by8 (128+p / 4096 % 64),Pl.by8 (128+p / 64 % 64),Pl.by8 (128+p % 64)] _ (by simp only[byteCells,List.map,by8_val (240+p / 262144) (by omega) (by omega),by8_val (128+p / 4096 % 64) (by omega) (by omega),by8_val (128+p / 64 % 64) (by omega) (by omega),by8_val (128+p % 64) (by omega) (by omega)]) (by simp),(Below.refl _ _).alloc (Nat.le_refl _) _⟩
def PtsOut (w:World)(n A g:Nat)(o:Option Addr)(cl cp z:Nat)(e:Ending)(w':World):Prop:=∃(v:Value)(P:List Int)(a':Nat),e=.returned v∧P.length≤n∧OwnN w.heap.size v P w'∧a'≤A∧Src w' g o cl cp a' z∧w.grownBy w' (some g)
def numOkC (lo hi:Int):Value→Bool
 | .int .i64 t=>decide (lo≤t) && decide (t≤hi)
 | _=>false
theorem numTable_at {w w3:World} {cs:Array Value} {g v:Nat} {lo hi:Int} (hg:(w.alloc (.cells cs 2)).grownBy w3 (some g))(hgl:g<w.heap.size)(hv:v<cs.size)(hcs:cs.toList.all (numOkC lo hi)=true) :
  ∃ t:Int,w3.cell? ⟨w.heap.size,v,none⟩=some (.int .i64 t)∧lo≤t∧t≤hi:=by
 have hm:numOkC lo hi cs[v]=true:=List.all_eq_true.1 hcs _ (Array.mem_toList_iff.2 (Array.getElem_mem hv))
 have hc:(w.alloc (.cells cs 2)).cell? ⟨w.heap.size,v,none⟩=some cs[v]:=by simp[hv]
 have h3:=gr_cell hg (show w.heap.size≠g by omega) hc
 cases hx:cs[v] with
 | int k t=>
  rw[hx] at h3 hm
  cases k
  all_goals first|(cases hm;done)|skip
  unfold numOkC at hm
  simp only[Bool.and_eq_true,decide_eq_true_eq] at hm
  exact⟨t,h3,hm.1,hm.2⟩
 | _=>rw[hx] at hm;cases hm
theorem srcPoint (g:Nat)(o:Option Addr)(c:List UInt8)(cp a z:Nat)(w:World)(h:Src w g o c.length cp a z)(hc:Code g w o c)(ha:a≤900000000000)(hl:c.length≤1048576) :
  Calls Tryz.prog 242 #[.pointer (some ⟨g,0,none⟩)] w fun e w'=>∃ (p:Int) (a':Nat),e=.returned (.int .i64 p)∧0≤p∧p≤1114111∧a'≤a+2∧Src w' g o c.length cp a' z∧w.grownBy w' (some g):=by
 have HC:Hid (Code g w o c):=hc
 have hgl:=h.lt
 have hN:=mkHid (srcN g o c cp a z 8 w h hc (by omega) hl (by omega) (by omega))
 clear h hc
 go_enter Tryz.func242,Tryz.ntmps242
 go_wp2_with fail
 refine hN.out.mono ?_
 rintro e w1 ⟨v,rfl,hv,hs1,hg1⟩
 have Hs:=mkHid hs1
 have Hg:=mkHid hg1
 have hl1:g<w1.heap.size:=hs1.lt
 have hbA:∀cs,Below w1.heap.size w1 (w1.alloc (.cells cs 2)):=fun cs=>(Below.refl _ _).alloc (Nat.le_refl _) _
 have hT:=mkHid (fun most (h1:1≤most) (h2:most≤4000000000) cs=>srcN g o c cp (a+1) z most (w1.alloc (.cells cs 2)) (Hs.out.below (hbA cs)) (HC.out.grown (gr_trans Hg.out (gr_below (hbA cs))) (Nat.le_refl _)) (by omega) hl h2 h1)
 have hM:=mkHid (fun most (h1:1≤most) (h2:most≤4000000000)=>srcN g o c cp (a+1) z most w1 Hs.out (HC.out.grown Hg.out (Nat.le_refl _)) (by omega) hl h2 h1)
 have HbA:=mkHid hbA
 clear hN hs1 hg1 hbA
 rcases (show v=0∨v=1∨v=2∨v=3∨4≤v by omega) with h0|h0|h0|h0|h0
 ·have b0:((v:Int)==0)=true:=by rw[beq_iff_eq];omega
  clear h0
  go_wp2_with fail
  refine(hT.out 10 (by omega) (by omega) _).mono ?_
  rintro e w2 ⟨u,rfl,hu,hs2,hg2⟩
  obtain⟨t,hct,ht1,ht2⟩:=numTable_at (lo:=0) (hi:=1114111) hg2 hl1 (show u<10 by omega) (by decide)
  have hu10:u<10:=by omega
  have Hs2:=mkHid hs2
  have Hg2:=mkHid (gr_trans Hg.out (gr_trans (gr_below (HbA.out _)) hg2))
  clear hs2 hg2 hT hM HbA Hs Hg
  go_wp2
  go_ret
  exact⟨t,a+1+1,rfl,ht1,ht2,by omega,Hs2.out,Hg2.out⟩
 ·have b0:((v:Int)==0)=false:=by rw[beq_eq_false_iff_ne];omega
  have b1:((v:Int)==1)=true:=by rw[beq_iff_eq];omega
  clear h0
  go_wp2_with fail
  refine(hM.out 1114112 (by omega) (by omega)).mono ?_
  rintro e w2 ⟨u,rfl,hu,hs2,hg2⟩
  have Hs2:=mkHid hs2
  have Hg2:=mkHid (gr_trans Hg.out hg2)
  clear hs2 hg2 hT hM HbA Hs Hg
  go_wp2
  go_ret
  exact⟨u,a+1+1,rfl,by omega,by omega,by omega,Hs2.out,Hg2.out⟩
 ·have b0:((v:Int)==0)=false:=by rw[beq_eq_false_iff_ne];omega
  have b1:((v:Int)==1)=false:=by rw[beq_eq_false_iff_ne];omega
  have b2:((v:Int)==2)=true:=by rw[beq_iff_eq];omega
  clear h0
  go_wp2_with fail
  refine(hM.out 96 (by omega) (by omega)).mono ?_
  rintro e w2 ⟨u,rfl,hu,hs2,hg2⟩
  have Hs2:=mkHid hs2
  have Hg2:=mkHid (gr_trans Hg.out hg2)
  clear hs2 hg2 hT hM HbA Hs Hg
  go_wp2
  go_ret
  exact⟨160+(u:Int),a+1+1,rfl,by omega,by omega,by omega,Hs2.out,Hg2.out⟩
 ·have b0:((v:Int)==0)=false:=by rw[beq_eq_false_iff_ne];omega
  have b1:((v:Int)==1)=false:=by rw[beq_eq_false_iff_ne];omega
  have b2:((v:Int)==2)=false:=by rw[beq_eq_false_iff_ne];omega
  have b3:((v:Int)==3)=true:=by rw[beq_iff_eq];omega
  clear h0
  go_wp2_with fail
  refine(hT.out 8 (by omega) (by omega) _).mono ?_
  rintro e w2 ⟨u,rfl,hu,hs2,hg2⟩
  obtain⟨t,hct,ht1,ht2⟩:=numTable_at (lo:=0) (hi:=1114111) hg2 hl1 (show u<8 by omega) (by decide)
  have hu10:u<8:=by omega
  have Hs2:=mkHid hs2
  have Hg2:=mkHid (gr_trans Hg.out (gr_trans (gr_below (HbA.out _)) hg2))
  clear hs2 hg2 hT hM HbA Hs Hg
  go_wp2
  go_ret
  exact⟨t,a+1+1,rfl,ht1,ht2,by omega,Hs2.out,Hg2.out⟩
 ·have b0:((v:Int)==0)=false:=by rw[beq_eq_false_iff_ne];omega
  have b1:((v:Int)==1)=false:=by rw[beq_eq_false_iff_ne];omega
  have b2:((v:Int)==2)=false:=by rw[beq_eq_false_iff_ne];omega
  have b3:((v:Int)==3)=false:=by rw[beq_eq_false_iff_ne];omega
  clear h0
  go_wp2_with fail
  refine(hM.out 95 (by omega) (by omega)).mono ?_
  rintro e w2 ⟨u,rfl,hu,hs2,hg2⟩
  have Hs2:=mkHid hs2
  have Hg2:=mkHid (gr_trans Hg.out hg2)
  clear hs2 hg2 hT hM HbA Hs Hg
  go_wp2
  go_ret
  exact⟨32+(u:Int),a+1+1,rfl,by omega,by omega,by omega,Hs2.out,Hg2.out⟩
theorem srcPoints (g:Nat)(o:Option Addr)(c:List UInt8)(cp a z n:Nat)(w:World)(h:Src w g o c.length cp a z)(hc:Code g w o c)(ha:a≤800000000000)(hl:c.length≤1048576)(hn:n≤1000) :
  Calls Tryz.prog 218 #[.pointer (some ⟨g,0,none⟩),.int .i64 n] w fun e w'=>PtsOut w n (a+1+3*n) g o c.length cp z e w':=by
 have HC:Hid (Code g w o c):=hc
 have hgl:=h.lt
 have Hs:=mkHid h
 have Hg:Hid (w.grownBy w (some g)):=gr_refl _ _
 clear h hc
 go_enter Tryz.func218,Tryz.ntmps218
 obtain⟨W1,hW1⟩:∃W,w.alloc (.cells #[] 2)=W:=⟨_,rfl⟩
 have b1:Below w.heap.size w W1:=by rw[← hW1];exact(Below.refl _ _).alloc (Nat.le_refl _) _
 have O1:OwnN w.heap.size (.slice (some ⟨w.heap.size,0,none⟩) 0 0) [] W1:=by rw[← hW1];exact OwnN.made _ w (Nat.le_refl _)
 have Hs0:=mkHid (Hs.out.below b1)
 have Hg0:Hid (w.grownBy W1 (some g)):=gr_below b1
 have HO1:=mkHid O1
 have HW1:=mkHid hW1
 clear O1 b1 hW1 Hs Hg
 have hN:=srcN g o c cp a z 4 W1 Hs0.out (HC.out.grown Hg0.out (Nat.le_refl _)) (by omega) hl (by omega) (by omega)
 go_wp2_with fail
 rw[HW1.out]
 refine hN.mono ?_
 rintro e w1 ⟨v,rfl,hv,hs1,hg1⟩
 have Hs1:=mkHid hs1
 have Hg1:=mkHid (gr_trans Hg0.out hg1)
 have HO2:=mkHid (HO1.out.grG hg1 hgl)
 clear hN hs1 hg1 Hs0 Hg0 HO1 HW1
 go_wp2
 go_loopw [5,7] (fun ov iv wr=>∃ (k a':Nat) (P:List Int),iv=.int .i64 k∧k≤n∧P.length≤k∧a'≤a+1+3*k∧Hid (Src wr g o c.length cp a' z)∧Hid (w.grownBy wr (some g))∧Hid (OwnN w.heap.size ov P wr)) (fun _ iv _=>n-(Lib.intOf iv).toNat)
 case atStart=>exact⟨0,a+1,[],by go_num,by omega,by simp,by omega,Hs1,Hg1,HO2⟩
 case round=>
  clear Hs1 Hg1 HO2
  obtain⟨k,a',P,rfl,hk,hPk,hak,Hs,Hg,HO⟩:=hrel
  by_cases hkn:k<n
  ·have hkI:(k:Int)<(n:Int):=by omega
   have hP:=mkHid (srcPoint g o c cp a' z wr Hs.out (HC.out.grown Hg.out (Nat.le_refl _)) (by omega) hl)
   go_wp2_with fail
   refine hP.out.mono ?_
   rintro e w2 ⟨p,a2,rfl,hp0,hp1,ha2,hs2,hg2⟩
   have Hs2:=mkHid hs2
   have Hg2:=mkHid (gr_trans Hg.out hg2)
   have HO2:=mkHid (HO.out.grG hg2 hgl)
   clear hP hs2 hg2 Hs Hg HO
   rcases (show v=0∨v=1∨(v≠0∧v≠1) by omega) with h0|h0|⟨h0,h1⟩
   ·have b0:((v:Int)==0)=true:=by rw[beq_iff_eq];omega
    have b1:((v:Int)==1)=false:=by rw[beq_eq_false_iff_ne];omega
    have hN:=mkHid (srcN g o c cp a2 z 95 w2 Hs2.out (HC.out.grown Hg2.out (Nat.le_refl _)) (by omega) hl (by omega) (by omega))
    clear h0
    go_simp
    go_wp2_with fail
    refine hN.out.mono ?_
    rintro e w3 ⟨u,rfl,hu,hs3,hg3⟩
    have Hs3:=mkHid hs3
    have Hg3:=mkHid (gr_trans Hg2.out hg3)
    have HO3:=mkHid (HO2.out.grG hg3 hgl)
    clear hN hs3 hg3 Hs2 Hg2 HO2
    have hS:=mkHid (fun W=>wPoint (32+(u:Int)) W)
    cases hpt:isPt (32+(u:Int)) with
    | true=>
     rw[hpt] at hS
     go_wp2_with fail
     refine(hS.out _).mono ?_
     rintro e w9 ⟨rfl,rfl⟩
     have hsz9:w.heap.size≤w9.heap.size:=Hg3.out.size
     have hPl:P.length≤1000000:=by omega
     clear hS hpt
     go_wp2_with (at_builtin;go_must (refine wp_appN (w:=w9) rfl _ _ rfl w.heap.size u5 P rfl HO3.out (32+(u:Int)) 1 rfl hPl hsz9 ?_;intro v' w' hO' hG';refine Hid.out ?_))
     have hblk:∀q,u5.ownBlock=some q→w.heap.size≤q:=fun q hq=>(World.ownsRow.lt HO3.out q hq).1
     have bA:Below w9.heap.size w9 (w9.alloc (.cells #[.int .i64 (32+(u:Int))] 2)):=(Below.refl _ _).alloc (Nat.le_refl _) _
     have Hs4:=mkHid ((Hs3.out.below bA).row hG' (fun q hq=>by have:=hblk q hq;omega))
     have Hg4:=mkHid (gr_row (gr_trans Hg3.out (gr_below bA)) hG' hblk)
     have HO4:=mkHid hO'
     have hP2:(P ++ [(32+(u:Int):Int)]).length≤k+1:=by simp;omega
     clear hO' hG' bA HO3 Hs3 Hg3
     generalize P ++ [(32+(u:Int):Int)]=P2 at *
     refine mkHid ?_
     go_wp2
     go_roundw
     case rel=>exact⟨k+1,a2+1,P2,by go_num,by omega,hP2,by omega,Hs4,Hg4,HO4⟩
     case measure=>simp[Lib.intOf];omega
    | false=>
     rw[hpt] at hS
     go_wp2_with fail
     refine(hS.out _).mono ?_
     rintro e w9 ⟨rfl,rfl⟩
     have hsz9:w.heap.size≤w9.heap.size:=Hg3.out.size
     have hPl:P.length≤1000000:=by omega
     clear hS hpt
     go_wp2_with (at_builtin;go_must (refine wp_appN (w:=w9) rfl _ _ rfl w.heap.size u5 P rfl HO3.out (65) 1 rfl hPl hsz9 ?_;intro v' w' hO' hG';refine Hid.out ?_))
     have hblk:∀q,u5.ownBlock=some q→w.heap.size≤q:=fun q hq=>(World.ownsRow.lt HO3.out q hq).1
     have bA:Below w9.heap.size w9 (w9.alloc (.cells #[.int .i64 (65)] 2)):=(Below.refl _ _).alloc (Nat.le_refl _) _
     have Hs4:=mkHid ((Hs3.out.below bA).row hG' (fun q hq=>by have:=hblk q hq;omega))
     have Hg4:=mkHid (gr_row (gr_trans Hg3.out (gr_below bA)) hG' hblk)
     have HO4:=mkHid hO'
     have hP2:(P ++ [(65:Int)]).length≤k+1:=by simp;omega
     clear hO' hG' bA HO3 Hs3 Hg3
     generalize P ++ [(65:Int)]=P2 at *
     refine mkHid ?_
     go_wp2
     go_roundw
     case rel=>exact⟨k+1,a2+1,P2,by go_num,by omega,hP2,by omega,Hs4,Hg4,HO4⟩
     case measure=>simp[Lib.intOf];omega
   ·have b0:((v:Int)==0)=false:=by rw[beq_eq_false_iff_ne];omega
    have b1:((v:Int)==1)=true:=by rw[beq_iff_eq];omega
    have hpm:p.tmod 256=p % 256:=Int.tmod_eq_emod_of_nonneg hp0
    clear h0
    go_simp
    have hS:=mkHid (fun W=>wPoint (p % 256) W)
    cases hpt:isPt (p % 256) with
    | true=>
     rw[hpt] at hS
     go_wp2_with fail
     refine(hS.out _).mono ?_
     rintro e w9 ⟨rfl,rfl⟩
     have hsz9:w.heap.size≤w9.heap.size:=Hg2.out.size
     have hPl:P.length≤1000000:=by omega
     clear hS hpt
     go_wp2_with (at_builtin;go_must (refine wp_appN (w:=w9) rfl _ _ rfl w.heap.size u5 P rfl HO2.out (p % 256) 1 rfl hPl hsz9 ?_;intro v' w' hO' hG';refine Hid.out ?_))
     have hblk:∀q,u5.ownBlock=some q→w.heap.size≤q:=fun q hq=>(World.ownsRow.lt HO2.out q hq).1
     have bA:Below w9.heap.size w9 (w9.alloc (.cells #[.int .i64 (p % 256)] 2)):=(Below.refl _ _).alloc (Nat.le_refl _) _
     have Hs4:=mkHid ((Hs2.out.below bA).row hG' (fun q hq=>by have:=hblk q hq;omega))
     have Hg4:=mkHid (gr_row (gr_trans Hg2.out (gr_below bA)) hG' hblk)
     have HO4:=mkHid hO'
     have hP2:(P ++ [(p % 256:Int)]).length≤k+1:=by simp;omega
     clear hO' hG' bA HO2 Hs2 Hg2
     generalize P ++ [(p % 256:Int)]=P2 at *
     refine mkHid ?_
     go_wp2
     go_roundw
     case rel=>exact⟨k+1,a2,P2,by go_num,by omega,hP2,by omega,Hs4,Hg4,HO4⟩
     case measure=>simp[Lib.intOf];omega
    | false=>
     rw[hpt] at hS
     go_wp2_with fail
     refine(hS.out _).mono ?_
     rintro e w9 ⟨rfl,rfl⟩
     have hsz9:w.heap.size≤w9.heap.size:=Hg2.out.size
     have hPl:P.length≤1000000:=by omega
     clear hS hpt
     go_wp2_with (at_builtin;go_must (refine wp_appN (w:=w9) rfl _ _ rfl w.heap.size u5 P rfl HO2.out (65) 1 rfl hPl hsz9 ?_;intro v' w' hO' hG';refine Hid.out ?_))
     have hblk:∀q,u5.ownBlock=some q→w.heap.size≤q:=fun q hq=>(World.ownsRow.lt HO2.out q hq).1
     have bA:Below w9.heap.size w9 (w9.alloc (.cells #[.int .i64 (65)] 2)):=(Below.refl _ _).alloc (Nat.le_refl _) _
     have Hs4:=mkHid ((Hs2.out.below bA).row hG' (fun q hq=>by have:=hblk q hq;omega))
     have Hg4:=mkHid (gr_row (gr_trans Hg2.out (gr_below bA)) hG' hblk)
     have HO4:=mkHid hO'
     have hP2:(P ++ [(65:Int)]).length≤k+1:=by simp;omega
     clear hO' hG' bA HO2 Hs2 Hg2
     generalize P ++ [(65:Int)]=P2 at *
     refine mkHid ?_
     go_wp2
     go_roundw
     case rel=>exact⟨k+1,a2,P2,by go_num,by omega,hP2,by omega,Hs4,Hg4,HO4⟩
     case measure=>simp[Lib.intOf];omega
   ·have b0:((v:Int)==0)=false:=by rw[beq_eq_false_iff_ne];omega
    have b1:((v:Int)==1)=false:=by rw[beq_eq_false_iff_ne];omega
    clear h0 h1
    go_simp
    have hS:=mkHid (fun W=>wPoint (p) W)
    cases hpt:isPt (p) with
    | true=>
     rw[hpt] at hS
     go_wp2_with fail
     refine(hS.out _).mono ?_
     rintro e w9 ⟨rfl,rfl⟩
     have hsz9:w.heap.size≤w9.heap.size:=Hg2.out.size
     have hPl:P.length≤1000000:=by omega
     clear hS hpt
     go_wp2_with (at_builtin;go_must (refine wp_appN (w:=w9) rfl _ _ rfl w.heap.size u5 P rfl HO2.out (p) 1 rfl hPl hsz9 ?_;intro v' w' hO' hG';refine Hid.out ?_))
     have hblk:∀q,u5.ownBlock=some q→w.heap.size≤q:=fun q hq=>(World.ownsRow.lt HO2.out q hq).1
     have bA:Below w9.heap.size w9 (w9.alloc (.cells #[.int .i64 (p)] 2)):=(Below.refl _ _).alloc (Nat.le_refl _) _
     have Hs4:=mkHid ((Hs2.out.below bA).row hG' (fun q hq=>by have:=hblk q hq;omega))
     have Hg4:=mkHid (gr_row (gr_trans Hg2.out (gr_below bA)) hG' hblk)
     have HO4:=mkHid hO'
     have hP2:(P ++ [(p:Int)]).length≤k+1:=by simp;omega
     clear hO' hG' bA HO2 Hs2 Hg2
     generalize P ++ [(p:Int)]=P2 at *
     refine mkHid ?_
     go_wp2
     go_roundw
     case rel=>exact⟨k+1,a2,P2,by go_num,by omega,hP2,by omega,Hs4,Hg4,HO4⟩
     case measure=>simp[Lib.intOf];omega
    | false=>
     rw[hpt] at hS
     go_wp2_with fail
     refine(hS.out _).mono ?_
     rintro e w9 ⟨rfl,rfl⟩
     have hsz9:w.heap.size≤w9.heap.size:=Hg2.out.size
     have hPl:P.length≤1000000:=by omega
     clear hS hpt
     go_wp2_with (at_builtin;go_must (refine wp_appN (w:=w9) rfl _ _ rfl w.heap.size u5 P rfl HO2.out (65) 1 rfl hPl hsz9 ?_;intro v' w' hO' hG';refine Hid.out ?_))
     have hblk:∀q,u5.ownBlock=some q→w.heap.size≤q:=fun q hq=>(World.ownsRow.lt HO2.out q hq).1
     have bA:Below w9.heap.size w9 (w9.alloc (.cells #[.int .i64 (65)] 2)):=(Below.refl _ _).alloc (Nat.le_refl _) _
     have Hs4:=mkHid ((Hs2.out.below bA).row hG' (fun q hq=>by have:=hblk q hq;omega))
     have Hg4:=mkHid (gr_row (gr_trans Hg2.out (gr_below bA)) hG' hblk)
     have HO4:=mkHid hO'
     have hP2:(P ++ [(65:Int)]).length≤k+1:=by simp;omega
     clear hO' hG' bA HO2 Hs2 Hg2
     generalize P ++ [(65:Int)]=P2 at *
     refine mkHid ?_
     go_wp2
     go_roundw
     case rel=>exact⟨k+1,a2,P2,by go_num,by omega,hP2,by omega,Hs4,Hg4,HO4⟩
     case measure=>simp[Lib.intOf];omega
  ·have hkI:¬(k:Int)<(n:Int):=by omega
   go_wp2
   go_ret
   exact⟨_,P,a',rfl,by omega,HO.out,by omega,Hs.out,Hg.out⟩
end Bm
namespace Bm
theorem list1 (s:ByteArray)(h:s.size=1):s=⟨#[s[0]'(by omega)]⟩:=by
 obtain⟨⟨l⟩⟩:=s
 match l,h with
 | [a],_=>rfl
theorem list2 (s:ByteArray)(h:s.size=2):s=⟨#[s[0]'(by omega),s[1]'(by omega)]⟩:=by
 obtain⟨⟨l⟩⟩:=s
 match l,h with
 | [a,b],_=>rfl
theorem wrap_inB (n:Int)(h0:-9223372036854775808≤n)(h1:n≤9223372036854775807):IntKind.i64.wrap n=n:=by
 simp only[IntKind.wrap,IntKind.bits,IntKind.signed,Bool.true_and]
 split<;>rename_i h<;>simp at h<;>omega
theorem oflat {B:Nat} {v:Value} {p:List UInt8} {w:World} (h:Own B v p w):∃o cap,v=.slice o p.length cap:=by
 rcases h.form with ⟨h1,h2⟩|⟨g,cap,h1⟩
 ·exact⟨none,0,by rw[h1,h2];rfl⟩
 ·exact⟨_,cap,h1⟩
theorem wGuess (s:ByteArray)(h0:1≤s.size)(h4:s.size≤4)(w:World):Calls Tryz.prog 264 #[.int .i64 4,.string s] w fun e w'=>∃ p:Int,e=.returned (.int .i64 p)∧Below w.heap.size w w':=by
 rcases (show s.size=1∨s.size=2∨s.size=3∨s.size=4 by omega) with e|e|e|e
 ·have ha:=UInt8.toNat_lt (s[0]'(by omega))
  go_enter Tryz.func264,Tryz.ntmps264
  go_wp2
  go_ret
  exact⟨_,rfl,Below.refl _ _⟩
 ·have ha:=UInt8.toNat_lt (s[0]'(by omega))
  have hb:=UInt8.toNat_lt (s[1]'(by omega))
  go_enter Tryz.func264,Tryz.ntmps264
  go_wp2
  go_ret
  exact⟨_,rfl,Below.refl _ _⟩
 all_goals
  go_enter Tryz.func264,Tryz.ntmps264
  go_wp2
  refine wp_region_quiet_below (by kernel_rfl) (by kernel_rfl) ?_
  repeat (quiet_step (fail))
  refine wpQuiet_nil ?_
  intro _ hw'
  obtain⟨⟨dq,osq⟩,hw''⟩:=hw'
  subst hw''
  have hbq:=below_regrown w dq osq
  go_wp2
  go_ret
  exact⟨_,rfl,hbq⟩
theorem wTake (s:ByteArray)(a:Nat)(w:World)(ha:a<s.size)(hs:s.size≤100000) :
  Calls Tryz.prog 258 #[.int .i64 4,.string s,.int .i64 a] w fun e w'=>∃ (p:Int) (n:Nat),e=.returned (.tuple #[.int .i64 p,.int .i64 n])∧a+n≤s.size∧Below w.heap.size w w':=by
 have h8:s[a].toNat<256:=UInt8.toNat_lt _
 go_enter Tryz.func258,Tryz.ntmps258
 go_wp2
 go_loopw [9,10] (fun n _ wr=>∃ k:Nat,1≤k∧k≤5∧n=.int .i64 k∧Below w.heap.size w wr) (fun n _ _=>5-(Lib.intOf n).toNat)
 case atStart=>exact⟨1,Nat.le_refl _,by omega,rfl,Below.refl _ _⟩
 case round=>
  obtain⟨k,hk1,hk5,rfl,hb⟩:=hrel
  by_cases h4:k≤4
  ·by_cases hend:a+k≤s.size
   ·have cG:=mkHid (fun w=>wGuess (s.extract a (a+k)) (by rw[ByteArray.size_extract];omega) (by rw[ByteArray.size_extract];omega) w)
    go_wp2_with fail
    refine(cG.out _).mono ?_
    rintro e w2 ⟨p,rfl,hb2⟩
    have Hb2:=mkHid (hb.trans (hb2.mono hb.size))
    clear cG hb hb2
    by_cases hneg:(0:Int)≤p
    ·have cF:=mkHid (fun W=>wForm p W)
     have hw1:IntKind.i64.wrap ((a:Int)+(k:Int))=(a:Int)+(k:Int):=wrap_inB _ (by omega) (by omega)
     have hw2:(0:Int)≤(a:Int)+(k:Int):=by omega
     have hw3:(a:Int)≤(a:Int)+(k:Int):=by omega
     have hw4:((a:Int)+(k:Int)).toNat=a+k:=by omega
     go_wp2
     refine wp_region_any (by kernel_rfl) ?_
     refine wpAny_take (i:=0) (v:=.int .i64 p) rfl (by kernel_rfl) (by kernel_rfl) (by kernel_rfl) (fun _ _ _ h=>h) (Or.inl ⟨by rfl,?_⟩) ?_
     ·intro w
      go_simp
     go_simp
     refine wpAny_take (i:=1) (v:=.bool true) rfl (by kernel_rfl) (by kernel_rfl) (by kernel_rfl) (fun _ _ _ h=>h) (Or.inl ⟨by rfl,?_⟩) ?_
     ·intro w
      go_simp
     go_simp
     refine wpAny_take (i:=2) (v:=.bool true) rfl (by kernel_rfl) (by kernel_rfl) (by kernel_rfl) (fun _ _ _ h=>h) (Or.inl ⟨by rfl,?_⟩) ?_
     ·intro w
      go_simp
     go_simp
     refine wpAny_take (i:=3) (v:=.int .i64 4) rfl (by kernel_rfl) (by kernel_rfl) (by kernel_rfl) (fun _ _ _ h=>h) (Or.inl ⟨by rfl,?_⟩) ?_
     ·intro w
      go_simp
     go_simp
     refine wpAny_take (i:=4) (v:=.int .i64 p) rfl (by kernel_rfl) (by kernel_rfl) (by kernel_rfl) (fun _ _ _ h=>h) (Or.inl ⟨by rfl,?_⟩) ?_
     ·intro w
      go_simp
     go_simp
     refine wpAny_take (i:=7) (v:=.string s) rfl (by kernel_rfl) (by kernel_rfl) (by kernel_rfl) (fun _ _ _ h=>h) (Or.inl ⟨by rfl,?_⟩) ?_
     ·intro w
      go_simp
     go_simp
     refine wpAny_take (i:=8) (v:=.int .i64 (a:Int)) rfl (by kernel_rfl) (by kernel_rfl) (by kernel_rfl) (fun _ _ _ h=>h) (Or.inl ⟨by rfl,?_⟩) ?_
     ·intro w
      go_simp
     go_simp
     refine wpAny_take (i:=9) (v:=.int .i64 (a:Int)) rfl (by kernel_rfl) (by kernel_rfl) (by kernel_rfl) (fun _ _ _ h=>h) (Or.inl ⟨by rfl,?_⟩) ?_
     ·intro w
      go_simp
     go_simp
     refine wpAny_take (i:=10) (v:=.int .i64 (k:Int)) rfl (by kernel_rfl) (by kernel_rfl) (by kernel_rfl) (fun _ _ _ h=>h) (Or.inl ⟨by rfl,?_⟩) ?_
     ·intro w
      go_simp
     go_simp
     refine wpAny_take (i:=11) (v:=.int .i64 ((a:Int)+(k:Int))) rfl (by kernel_rfl) (by kernel_rfl) (by kernel_rfl) (fun _ _ _ h=>h) (Or.inl ⟨by rfl,?_⟩) ?_
     ·intro w
      go_simp
     go_simp
     refine wpAny_take (i:=12) (v:=.string (s.extract a (a+k))) rfl (by kernel_rfl) (by kernel_rfl) (by kernel_rfl) (fun _ _ _ h=>h) (Or.inl ⟨by rfl,?_⟩) ?_
     ·intro w
      go_simp
     go_simp
     refine wpAny_ready (rs:=[5]) (by kernel_rfl) (by simp) ?_
     refine AllReady.cons rfl (fun K hK=>?_) AllReady.nil
     go_simp
     refine(cF.out _).mono ?_
     rintro e w3 ⟨v,F,rfl,-,ho,hb3⟩
     refine hK _ _ ?_
     clear hK K
     have Hb3:=mkHid (Hb2.out.trans ((((Below.refl w2.heap.size w2).drew).trans hb3).mono Hb2.out.size))
     have hbk:=ho.back (P:=Tryz.prog) 22 9 Tryz.underlying22 Tryz.underlying5 Tryz.underlying9
     obtain⟨o3,c3,rfl⟩:=oflat ho
     clear cF Hb2 hb3 ho
     go_simp
     refine wpAny_ready (rs:=[6]) (by kernel_rfl) (by simp) ?_
     refine AllReady.cons rfl (fun K hK=>?_) AllReady.nil
     go_simp
     refine hK _ _ ?_
     clear hK K
     go_simp
     cases he:(F==(s.extract a (a+k)).toList)
     ·refine wpAny_take (i:=13) (v:=.bool false) rfl (by kernel_rfl) (by kernel_rfl) (by kernel_rfl) (fun _ _ _ h=>h) (Or.inl ⟨by rfl,?_⟩) ?_
      ·intro w
       go_simp
      go_simp
      refine wpAny_take (i:=14) (v:=.bool false) rfl (by kernel_rfl) (by kernel_rfl) (by kernel_rfl) (fun _ _ _ h=>h) (Or.inl ⟨by rfl,?_⟩) ?_
      ·intro w
       go_simp
      go_simp
      refine wpAny_done (by kernel_rfl) ?_ _
      go_simp
      go_wp2
      go_roundw
      case rel=>exact⟨k+1,by omega,by omega,by go_num,Hb3.out⟩
      case measure=>simp[Lib.intOf];omega
     ·refine wpAny_take (i:=13) (v:=.bool true) rfl (by kernel_rfl) (by kernel_rfl) (by kernel_rfl) (fun _ _ _ h=>h) (Or.inl ⟨by rfl,?_⟩) ?_
      ·intro w
       go_simp
      go_simp
      refine wpAny_take (i:=14) (v:=.bool true) rfl (by kernel_rfl) (by kernel_rfl) (by kernel_rfl) (fun _ _ _ h=>h) (Or.inl ⟨by rfl,?_⟩) ?_
      ·intro w
       go_simp
      go_simp
      refine wpAny_done (by kernel_rfl) ?_ _
      go_simp
      go_wp2
      refine bodyPost_ret (v:=.tuple #[.int .i64 p,.int .i64 (k:Int)]) (by simp[results,Tryz.results258,go_sem]) rfl ⟨p,k,rfl,hend,Hb3.out⟩
    ·go_wp2
     refine wp_region_any (by kernel_rfl) ?_
     refine wpAny_take (i:=0) (v:=.int .i64 p) rfl (by kernel_rfl) (by kernel_rfl) (by kernel_rfl) (fun _ _ _ h=>h) (Or.inl ⟨by rfl,?_⟩) ?_
     ·intro w
      go_simp
     go_simp
     refine wpAny_take (i:=1) (v:=.bool false) rfl (by kernel_rfl) (by kernel_rfl) (by kernel_rfl) (fun _ _ _ h=>h) (Or.inl ⟨by rfl,?_⟩) ?_
     ·intro w
      go_simp
     go_simp
     refine wpAny_take (i:=2) (v:=.bool false) rfl (by kernel_rfl) (by kernel_rfl) (by kernel_rfl) (fun _ _ _ h=>h) (Or.inl ⟨by rfl,?_⟩) ?_
     ·intro w
      go_simp
     go_simp
     refine wpAny_take (i:=3) (v:=undef) rfl (by kernel_rfl) (by kernel_rfl) (by kernel_rfl) (fun _ _ _ h=>h) (Or.inr ⟨by kernel_rfl,rfl⟩) ?_
     go_simp
     refine wpAny_take (i:=4) (v:=undef) rfl (by kernel_rfl) (by kernel_rfl) (by kernel_rfl) (fun _ _ _ h=>h) (Or.inr ⟨by kernel_rfl,rfl⟩) ?_
     go_simp
     refine wpAny_take (i:=5) (v:=undef) rfl (by kernel_rfl) (by kernel_rfl) (by kernel_rfl) (fun _ _ _ h=>h) (Or.inr ⟨by kernel_rfl,rfl⟩) ?_
     go_simp
     refine wpAny_take (i:=6) (v:=undef) rfl (by kernel_rfl) (by kernel_rfl) (by kernel_rfl) (fun _ _ _ h=>h) (Or.inr ⟨by kernel_rfl,rfl⟩) ?_
     go_simp
     refine wpAny_take (i:=7) (v:=undef) rfl (by kernel_rfl) (by kernel_rfl) (by kernel_rfl) (fun _ _ _ h=>h) (Or.inr ⟨by kernel_rfl,rfl⟩) ?_
     go_simp
     refine wpAny_take (i:=8) (v:=undef) rfl (by kernel_rfl) (by kernel_rfl) (by kernel_rfl) (fun _ _ _ h=>h) (Or.inr ⟨by kernel_rfl,rfl⟩) ?_
     go_simp
     refine wpAny_take (i:=9) (v:=undef) rfl (by kernel_rfl) (by kernel_rfl) (by kernel_rfl) (fun _ _ _ h=>h) (Or.inr ⟨by kernel_rfl,rfl⟩) ?_
     go_simp
     refine wpAny_take (i:=10) (v:=undef) rfl (by kernel_rfl) (by kernel_rfl) (by kernel_rfl) (fun _ _ _ h=>h) (Or.inr ⟨by kernel_rfl,rfl⟩) ?_
     go_simp
     refine wpAny_take (i:=11) (v:=undef) rfl (by kernel_rfl) (by kernel_rfl) (by kernel_rfl) (fun _ _ _ h=>h) (Or.inr ⟨by kernel_rfl,rfl⟩) ?_
     go_simp
     refine wpAny_take (i:=12) (v:=undef) rfl (by kernel_rfl) (by kernel_rfl) (by kernel_rfl) (fun _ _ _ h=>h) (Or.inr ⟨by kernel_rfl,rfl⟩) ?_
     go_simp
     refine wpAny_take (i:=13) (v:=undef) rfl (by kernel_rfl) (by kernel_rfl) (by kernel_rfl) (fun _ _ _ h=>h) (Or.inr ⟨by kernel_rfl,rfl⟩) ?_
     go_simp
     refine wpAny_take (i:=14) (v:=.bool false) rfl (by kernel_rfl) (by kernel_rfl) (by kernel_rfl) (fun _ _ _ h=>h) (Or.inl ⟨by rfl,?_⟩) ?_
     ·intro w
      go_simp
     go_simp
     refine wpAny_done (by kernel_rfl) ?_ _
     go_simp
     go_wp2
     go_roundw
     case rel=>exact⟨k+1,by omega,by omega,by go_num,(Hb2.out.trans ((Below.refl w2.heap.size w2).drew.mono Hb2.out.size))⟩
     case measure=>simp[Lib.intOf];omega
   ·go_wp2
    refine bodyPost_ret (v:=.tuple #[.int .i64 0,.int .i64 0]) (by simp[results,Tryz.results258,go_sem]) rfl ⟨0,0,rfl,by omega,hb⟩
  ·go_wp2
   refine bodyPost_ret (v:=.tuple #[.int .i64 0,.int .i64 0]) (by simp[results,Tryz.results258,go_sem]) rfl ⟨0,0,rfl,by omega,hb⟩
end Bm
open Go.RowKit Go.Lib
namespace Bm
abbrev HEX:ByteArray:=⟨#[48,49,50,51,52,53,54,55,56,57,65,66,67,68,69,70]⟩
theorem hexIx (n:Nat)(h:n<16):∃y:UInt8,∀w,Sem.run Tryz.prog (Instr.index 9 (.string HEX) (.int .u8 (n:Int))) w=.ok (.int .u8 (y.toNat:Int)) w:=by
 have e:n=0∨n=1∨n=2∨n=3∨n=4∨n=5∨n=6∨n=7∨n=8∨n=9∨n=10∨n=11∨n=12∨n=13∨n=14∨n=15:=by omega
 rcases e with rfl|rfl|rfl|rfl|rfl|rfl|rfl|rfl|rfl|rfl|rfl|rfl|rfl|rfl|rfl|rfl
 ·exact⟨48,fun w=>by kernel_rfl⟩
 ·exact⟨49,fun w=>by kernel_rfl⟩
 ·exact⟨50,fun w=>by kernel_rfl⟩
 ·exact⟨51,fun w=>by kernel_rfl⟩
 ·exact⟨52,fun w=>by kernel_rfl⟩
 ·exact⟨53,fun w=>by kernel_rfl⟩
 ·exact⟨54,fun w=>by kernel_rfl⟩
 ·exact⟨55,fun w=>by kernel_rfl⟩
 ·exact⟨56,fun w=>by kernel_rfl⟩
 ·exact⟨57,fun w=>by kernel_rfl⟩
 ·exact⟨65,fun w=>by kernel_rfl⟩
 ·exact⟨66,fun w=>by kernel_rfl⟩
 ·exact⟨67,fun w=>by kernel_rfl⟩
 ·exact⟨68,fun w=>by kernel_rfl⟩
 ·exact⟨69,fun w=>by kernel_rfl⟩
 ·exact⟨70,fun w=>by kernel_rfl⟩
theorem text3 (a b c:UInt8)(w:World):(convert 22 9 (.slice (some ⟨w.heap.size,0,none⟩) 3 3)).run Tryz.prog (w.alloc (.cells #[.int .u8 (a.toNat:Int),.int .u8 (b.toNat:Int),.int .u8 (c.toNat:Int)] 5))=.ok (.string ⟨#[a,b,c]⟩) (w.alloc (.cells #[.int .u8 (a.toNat:Int),.int .u8 (b.toNat:Int),.int .u8 (c.toNat:Int)] 5)):=by
 refine run_convert_bytes_back (P:=Tryz.prog) _ 22 9 5 ⟨w.heap.size,0,none⟩ 3 [a,b,c] Tryz.underlying22 Tryz.underlying5 Tryz.underlying9 ?_
 intro j hj
 match j,hj with
 | 0,hj=>rw[add_off];simp
 | 1,hj=>rw[add_off];simp
 | 2,hj=>rw[add_off];simp
theorem text3d (b c:UInt8)(w:World):(convert 22 9 (.slice (some ⟨w.heap.size,0,none⟩) 3 3)).run Tryz.prog (w.alloc (.cells #[.int .u8 37,.int .u8 (b.toNat:Int),.int .u8 (c.toNat:Int)] 5)).drew=.ok (.string ⟨#[37,b,c]⟩) (w.alloc (.cells #[.int .u8 37,.int .u8 (b.toNat:Int),.int .u8 (c.toNat:Int)] 5)).drew:=text3 37 b c w.drew
theorem beq_no (c:UInt8)(n:Nat)(h:c.toNat≠n):((c.toNat:Int)==(n:Int))=false:=by simp;omega
theorem beq_yes (c:UInt8)(n:Nat)(h:c.toNat=n):((c.toNat:Int)==(n:Int))=true:=by simp[h]
theorem wCode (c:UInt8)(w:World):Calls Tryz.prog 213 #[.int .u8 (c.toNat:Int)] w fun e w'=>∃ t:ByteArray,e=.returned (.string t)∧t.size≤3∧Below w.heap.size w w':=by
 have h8:c.toNat<256:=UInt8.toNat_lt _
 have hcv:=text1 c w
 have hbA:∀b,Below w.heap.size w (w.alloc b):=fun b=>(Below.refl _ _).alloc (Nat.le_refl _) _
 by_cases hsafe:(97≤c.toNat∧c.toNat≤122)∨(65≤c.toNat∧c.toNat≤90)∨(48≤c.toNat∧c.toNat≤57)∨c.toNat=45∨c.toNat=46∨c.toNat=95
 ·rcases hsafe with ⟨h0,h1⟩|⟨h0,h1⟩|⟨h0,h1⟩|d|d|d
  ·go_enter Tryz.func213,Tryz.ntmps213
   go_wp2
   go_ret
   exact⟨_,rfl,by show 1≤3;omega,hbA _⟩
  ·go_enter Tryz.func213,Tryz.ntmps213
   go_wp2
   go_ret
   exact⟨_,rfl,by show 1≤3;omega,hbA _⟩
  ·go_enter Tryz.func213,Tryz.ntmps213
   go_wp2
   go_ret
   exact⟨_,rfl,by show 1≤3;omega,hbA _⟩
  ·have y0:((c.toNat:Int)==45)=true:=beq_yes c 45 d
   have r0:c.toNat<48:=by omega
   clear d
   go_enter Tryz.func213,Tryz.ntmps213
   go_wp2
   go_ret
   exact⟨_,rfl,by show 1≤3;omega,hbA _⟩
  ·have y0:((c.toNat:Int)==46)=true:=beq_yes c 46 d
   have r0:c.toNat<48:=by omega
   have y45:((c.toNat:Int)==45)=false:=beq_no c 45 (by omega)
   clear d
   go_enter Tryz.func213,Tryz.ntmps213
   go_wp2
   go_ret
   exact⟨_,rfl,by show 1≤3;omega,hbA _⟩
  ·have y0:((c.toNat:Int)==95)=true:=beq_yes c 95 d
   have r0:91≤c.toNat:=by omega
   have r1:c.toNat≤96:=by omega
   have y45:((c.toNat:Int)==45)=false:=beq_no c 45 (by omega)
   have y46:((c.toNat:Int)==46)=false:=beq_no c 46 (by omega)
   clear d
   go_enter Tryz.func213,Tryz.ntmps213
   go_wp2
   go_ret
   exact⟨_,rfl,by show 1≤3;omega,hbA _⟩
 ·have e1:((c.toNat:Int)==45)=false:=beq_no c 45 (by omega)
  have e2:((c.toNat:Int)==46)=false:=beq_no c 46 (by omega)
  have e3:((c.toNat:Int)==95)=false:=beq_no c 95 (by omega)
  obtain⟨y1,hy1⟩:=hexIx (c.toNat / 16) (by omega)
  obtain⟨y2,hy2⟩:=hexIx (c.toNat % 16) (by omega)
  have x1:∀w,Sem.run Tryz.prog (Instr.index 9 (.string HEX) (.int .u8 ((c.toNat:Int) / 16))) w=.ok (.int .u8 (y1.toNat:Int)) w:=hy1
  have x2:∀w,Sem.run Tryz.prog (Instr.index 9 (.string HEX) (.int .u8 ((c.toNat:Int) % 16))) w=.ok (.int .u8 (y2.toNat:Int)) w:=hy2
  have t3:=text3d y1 y2 w
  have h0:c.toNat<48∨(58≤c.toNat∧c.toNat≤64)∨(91≤c.toNat∧c.toNat≤96)∨123≤c.toNat:=by omega
  clear hcv hsafe hy1 hy2
  rcases h0 with h0|⟨h0,h1⟩|⟨h0,h1⟩|h0
  all_goals
   go_enter Tryz.func213,Tryz.ntmps213
   go_wp2
   refine wp_region_any (by kernel_rfl) ?_
   refine wpAny_take (i:=0) (v:=.int .u8 (c.toNat:Int)) rfl (by kernel_rfl) (by kernel_rfl) (by kernel_rfl) (fun _ _ _ h=>h) (Or.inl ⟨by rfl,?_⟩) ?_
   ·intro w
    go_simp
   go_simp
   refine wpAny_take (i:=1) (v:=.int .u8 ((c.toNat:Int) / 16)) rfl (by kernel_rfl) (by kernel_rfl) (by kernel_rfl) (fun _ _ _ h=>h) (Or.inl ⟨by rfl,?_⟩) ?_
   ·intro w
    go_simp
    exact w8 _ (by omega) (by omega)
   go_simp
   refine wpAny_take (i:=2) (v:=.int .u8 (y1.toNat:Int)) rfl (by kernel_rfl) (by kernel_rfl) (by kernel_rfl) (fun _ _ _ h=>h) (Or.inl ⟨by rfl,?_⟩) ?_
   ·intro w
    go_simp
   go_simp
   refine wpAny_take (i:=3) (v:=.int .u8 (c.toNat:Int)) rfl (by kernel_rfl) (by kernel_rfl) (by kernel_rfl) (fun _ _ _ h=>h) (Or.inl ⟨by rfl,?_⟩) ?_
   ·intro w
    go_simp
   go_simp
   refine wpAny_take (i:=4) (v:=.int .u8 ((c.toNat:Int) % 16)) rfl (by kernel_rfl) (by kernel_rfl) (by kernel_rfl) (fun _ _ _ h=>h) (Or.inl ⟨by rfl,?_⟩) ?_
   ·intro w
    go_simp
    exact Int.tmod_eq_emod_of_nonneg (by omega)
   go_simp
   refine wpAny_take (i:=5) (v:=.int .u8 (y2.toNat:Int)) rfl (by kernel_rfl) (by kernel_rfl) (by kernel_rfl) (fun _ _ _ h=>h) (Or.inl ⟨by rfl,?_⟩) ?_
   ·intro w
    go_simp
   go_simp
   refine wpAny_ready (rs:=[6]) (by kernel_rfl) (by simp) ?_
   refine AllReady.cons rfl (fun K hK=>?_) AllReady.nil
   go_simp
   refine hK _ _ ?_
   clear hK K
   go_simp
   refine wpAny_ready (rs:=[7]) (by kernel_rfl) (by simp) ?_
   refine AllReady.cons rfl (fun K hK=>?_) AllReady.nil
   go_simp
   refine hK _ _ ?_
   clear hK K
   go_simp
   refine wpAny_take (i:=8) (v:=.string ⟨#[37,y1,y2]⟩) rfl (by kernel_rfl) (by kernel_rfl) (by kernel_rfl) (fun _ _ _ h=>h) (Or.inl ⟨by rfl,?_⟩) ?_
   ·intro w
    go_simp
   go_simp
   refine wpAny_done (by kernel_rfl) ?_ _
   go_wp2
   go_ret
   exact⟨_,rfl,by show 3≤3;omega,(hbA _).drew⟩
end Bm
namespace Bm
def BoolOut (w:World)(e:Ending)(w':World):Prop:=∃b:Bool,e=.returned (.bool b)∧Below w.heap.size w w'
theorem wWord (s:ByteArray)(w:World)(hs:s.size≤100000):Calls Tryz.prog 210 #[.string s] w (BoolOut w):=by
 rcases (show s.size<1∨60<s.size∨(1≤s.size∧s.size≤60) by omega) with h|h|⟨h0,h1⟩
 ·go_enter Tryz.func210,Tryz.ntmps210
  go_wp2
  go_ret
  exact⟨_,rfl,Below.refl _ _⟩
 ·go_enter Tryz.func210,Tryz.ntmps210
  go_wp2
  go_ret
  exact⟨_,rfl,Below.refl _ _⟩
 ·go_enter Tryz.func210,Tryz.ntmps210
  go_wp2
  go_loopw [3,4] (fun i _ wr=>∃ k:Nat,k≤s.size∧i=.int .i64 k∧Hid (Below w.heap.size w wr)) (fun i _ _=>s.size-(Lib.intOf i).toNat)
  case atStart=>exact⟨0,Nat.zero_le _,rfl,Below.refl _ _⟩
  case round=>
   obtain⟨k,hk,rfl,Hb⟩:=hrel
   by_cases hlt:k<s.size
   ·have h8:s[k].toNat<256:=UInt8.toNat_lt _
    generalize s[k]=c at *
    go_wp2
    all_goals first
     | (go_roundw
        case rel=>exact⟨k+1,by omega,by go_num,Hb⟩
        case measure=>simp[Lib.intOf];omega)
     | (go_ret
        exact⟨_,rfl,Hb.out⟩)
   ·go_wp2
    go_ret
    exact⟨_,rfl,Hb.out⟩
theorem wBare (s:ByteArray)(w:World)(hs:s.size≤100000):Calls Tryz.prog 212 #[.string s] w (BoolOut w):=by
 have cS:=specAtoms 0 0 (by rfl) s w (by omega)
 cases hsc:Pl.scan 0 false s.data.toList
 ·rw[hsc] at cS
  go_enter Tryz.func212,Tryz.ntmps212
  go_wp2_with fail
  refine cS.mono ?_
  rintro e w2 ⟨rfl,hb2⟩
  go_wp2
  go_ret
  exact⟨_,rfl,hb2⟩
 ·rw[hsc] at cS
  clear hsc
  go_enter Tryz.func212,Tryz.ntmps212
  go_wp2_with fail
  refine cS.mono ?_
  rintro e w2 ⟨rfl,hb2⟩
  have Hb2:=mkHid hb2
  clear hb2 cS
  go_wp2
  go_loopw [3] (fun i wr=>∃ k:Nat,k≤s.size∧i=.int .i64 k∧Below w.heap.size w wr) (fun i _=>s.size-(Lib.intOf i).toNat)
  case atStart=>exact⟨0,Nat.zero_le _,rfl,Hb2.out⟩
  case round=>
   obtain⟨k,hk,rfl,hb⟩:=hrel
   clear Hb2
   by_cases hlt:k<s.size
   ·have h8:s[k].toNat<256:=UInt8.toNat_lt _
    have cA:=specAtomByte s[k] wr
    generalize Pl.atom s[k]=A at cA
    cases A
    all_goals
     go_wp2_with fail
     refine cA.mono ?_
     rintro e w3 ⟨rfl,hb3⟩
     have Hb3:=mkHid (hb.trans (hb3.mono hb.size))
     clear cA hb hb3
     generalize s[k]=c at *
     go_wp2
     all_goals first
      | (go_roundw
         case rel=>exact⟨k+1,by omega,by go_num,Hb3.out⟩
         case measure=>simp[Lib.intOf];omega)
      | (go_ret
         exact⟨_,rfl,Hb3.out⟩)
   ·go_wp2
    go_ret
    exact⟨_,rfl,hb⟩
end Bm
end Go.Proofs.YtacaoiedcfelcaaGreatDoor
