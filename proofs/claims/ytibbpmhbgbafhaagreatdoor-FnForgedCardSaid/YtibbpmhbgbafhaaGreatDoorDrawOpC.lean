import Derived.Test.YtibbpmhbgbafhaaGreatDoorAddrPlain
import Derived.Test.YtibbpmhbgbafhaaGreatDoorBmCode
import Derived.Test.YtibbpmhbgbafhaaGreatDoorFields
import Derived.Test.YtibbpmhbgbafhaaGreatDoorDrawOpA
import Derived.Test.YtibbpmhbgbafhaaGreatDoorSumSpec
set_option maxRecDepth 20000
set_option maxHeartbeats 8000000
namespace Go.Proofs.YtibbpmhbgbafhaaGreatDoor
open Go.RowKit Go.Lib
namespace Bm
def BoolOut (w:World)(e:Ending)(w':World):Prop:=∃b:Bool,e=.returned (.bool b)∧Below w.heap.size w w'
theorem wWord (s:ByteArray)(w:World)(hs:s.size≤100000):Calls Tryz.prog 182 #[.string s] w (BoolOut w):=by
 rcases (show s.size<1∨60<s.size∨(1≤s.size∧s.size≤60) by omega) with h|h|⟨h0,h1⟩
 ·go_enter Tryz.func182,Tryz.ntmps182
  go_wp2
  go_ret
  exact⟨_,rfl,Below.refl _ _⟩
 ·go_enter Tryz.func182,Tryz.ntmps182
  go_wp2
  go_ret
  exact⟨_,rfl,Below.refl _ _⟩
 ·go_enter Tryz.func182,Tryz.ntmps182
  go_wp2
  go_loopw [3,4] (fun i _ wr=>∃ k:Nat,k≤s.size∧i=.int .i64 k∧Hid (Below w.heap.size w wr)) (fun i _ _=>s.size-(Lib.intOf i).toNat)
  case atStart=>exact⟨0,Nat.zero_le _,rfl,Below.refl _ _⟩
  case round=>
   obtain⟨k,hk,rfl,Hb⟩:=hrel
   by_cases hlt:k<s.size
   ·have h8:s[k].toNat<256:=UInt8.toNat_lt _
    generalize s[k]=c at *
    go_wp2
    all_goals first
     | (go_roundw
        case rel=>exact⟨k+1,by omega,by go_num,Hb⟩
        case measure=>simp[Lib.intOf];omega)
     | (go_ret
        exact⟨_,rfl,Hb.out⟩)
   ·go_wp2
    go_ret
    exact⟨_,rfl,Hb.out⟩
theorem wBare (s:ByteArray)(w:World)(hs:s.size≤100000):Calls Tryz.prog 184 #[.string s] w (BoolOut w):=by
 have cS:=specAtoms 0 0 (by rfl) s w (by omega)
 cases hsc:Pl.scan 0 false s.data.toList
 ·rw[hsc] at cS
  go_enter Tryz.func184,Tryz.ntmps184
  go_wp2_with fail
  refine cS.mono ?_
  rintro e w2 ⟨rfl,hb2⟩
  go_wp2
  go_ret
  exact⟨_,rfl,hb2⟩
 ·rw[hsc] at cS
  clear hsc
  go_enter Tryz.func184,Tryz.ntmps184
  go_wp2_with fail
  refine cS.mono ?_
  rintro e w2 ⟨rfl,hb2⟩
  have Hb2:=mkHid hb2
  clear hb2 cS
  go_wp2
  go_loopw [3] (fun i wr=>∃ k:Nat,k≤s.size∧i=.int .i64 k∧Below w.heap.size w wr) (fun i _=>s.size-(Lib.intOf i).toNat)
  case atStart=>exact⟨0,Nat.zero_le _,rfl,Hb2.out⟩
  case round=>
   obtain⟨k,hk,rfl,hb⟩:=hrel
   clear Hb2
   by_cases hlt:k<s.size
   ·have h8:s[k].toNat<256:=UInt8.toNat_lt _
    have cA:=specAtomByte s[k] wr
    generalize Pl.atom s[k]=A at cA
    cases A
    all_goals
     go_wp2_with fail
     refine cA.mono ?_
     rintro e w3 ⟨rfl,hb3⟩
     have Hb3:=mkHid (hb.trans (hb3.mono hb.size))
     clear cA hb hb3
     generalize s[k]=c at *
     go_wp2
     all_goals first
      | (go_roundw
         case rel=>exact⟨k+1,by omega,by go_num,Hb3.out⟩
         case measure=>simp[Lib.intOf];omega)
      | (go_ret
         exact⟨_,rfl,Hb3.out⟩)
   ·go_wp2
    go_ret
    exact⟨_,rfl,hb⟩
end Bm
end Go.Proofs.YtibbpmhbgbafhaaGreatDoor
namespace Go.Proofs.YtibbpmhbgbafhaaGreatDoor
open Go.RowKit Go.Lib Go.Maps
theorem below_row {w V:World} {cs cs':Array Value} {t:TypeId} (hV:(w.alloc (.cells cs t)).setRow w.heap.size cs'=V):Below w.heap.size w V:=
 ⟨by rw[← hV];rfl,by rw[← hV];rfl,by rw[← hV];rfl,by rw[← hV];simp,fun i hi=>by
  rw[← hV,setRow_other _ _ _ _ (by omega)]
  exact((Below.refl w.heap.size w).alloc (Nat.le_refl _) _).block i hi⟩
theorem gr_setR {w0 w:World} {g b:Nat} {cs:Array Value} (h:w0.grownBy w (some g))(hb:w0.heap.size≤b):w0.grownBy (w.setRow b cs) (some g):=
 ⟨h.os,h.tape,h.output,by simpa using h.size,fun i hi hr=>(setRow_other w b i _ (by omega)).trans (h.block i hi hr)⟩
theorem Src.setR {w:World} {g n cp a z b:Nat} {o:Option Addr} {cs:Array Value} (h:Src w g o n cp a z)(hb:b≠g):Src (w.setRow b cs) g o n cp a z:=
 ⟨by rw[setRow_other w b g _ (fun e=>hb e.symm)];exact h.blk⟩
theorem srcBox (g:Nat)(o:Option Addr)(c:List UInt8)(cp a z:Nat)(w:World)(h:Src w g o c.length cp a z)(hc:Code g w o c)(ha:a≤800000000000)(hl:c.length≤1048576) :
  Calls Tryz.prog 102 #[.pointer (some ⟨g,0,none⟩)] w fun e w'=>∃ (n l d:ByteArray) (a':Nat),e=.returned (.agg #[.string n,.string l,.string d])∧(n.size≤20∧l.size≤20∧d.size≤20)∧a'≤a+60∧Src w' g o c.length cp a' z∧w.grownBy w' (some g):=by
 have HC:Hid (Code g w o c):=hc
 have hgl:=h.lt
 have Hs:=mkHid h
 have Hg:Hid (w.grownBy w (some g)):=gr_refl _ _
 clear h hc
 go_enter Tryz.func102,Tryz.ntmps102
 obtain⟨W1,hW1⟩:∃W,w.alloc (.cells #[.string ⟨#[]⟩,.string ⟨#[]⟩,.string ⟨#[]⟩] 134)=W:=⟨_,rfl⟩
 have b1:Below w.heap.size w W1:=by rw[← hW1];exact(Below.refl _ _).alloc (Nat.le_refl _) _
 obtain⟨R,hR⟩:∃R,R=w.heap.size:=⟨_,rfl⟩
 have HR0:Hid (W1.heap[R]?=some (.cells #[.string ⟨#[]⟩,.string ⟨#[]⟩,.string ⟨#[]⟩] 134 (0,0))):=by rw[← hW1,hR];exact hp_alloc _ _
 have Hs1:=mkHid (Hs.out.below b1)
 have Hg1:Hid (w.grownBy W1 (some g)):=gr_below b1
 have HW1:=mkHid hW1
 have hRg:g<R:=by omega
 have hRw:w.heap.size≤R:=by omega
 have HRe:=mkHid hR
 clear b1 hW1 Hs Hg hR
 have hN108:=srcWord g o c cp a z W1 Hs1.out (HC.out.grown Hg1.out (Nat.le_refl _)) (by omega) hl
 go_wp2_with fail
 rw[HW1.out,← HRe.out]
 refine hN108.mono ?_
 rintro e w103 ⟨t101,a102,rfl,hzt101,ha102,hs106,hg107⟩
 have Hs104:=mkHid hs106
 have Hg105:=mkHid (gr_trans Hg1.out hg107)
 have HB109:Hid (w103.heap[R]?=some (.cells #[.string ⟨#[]⟩,.string ⟨#[]⟩,.string ⟨#[]⟩] 134 (0,0))):=(hg107.block R (hp_lt HR0.out) (by intro e;have:=Option.some.inj e;omega)).trans HR0.out
 clear HR0
 clear hN108 hs106 hg107 Hs1 Hg1
 have hN117:=srcDomain g o c cp a102 z w103 Hs104.out (HC.out.grown Hg105.out (Nat.le_refl _)) (by omega) hl
 go_wp2_with fail
 refine hN117.mono ?_
 rintro e w112 ⟨t110,a111,rfl,hzt110,ha111,hs115,hg116⟩
 have Hs113:=mkHid hs115
 have Hg114:=mkHid (gr_trans Hg105.out hg116)
 have HB118:Hid (w112.heap[R]?=some (.cells #[.string ⟨#[]⟩,.string ⟨#[]⟩,.string ⟨#[]⟩] 134 (0,0))):=(hg116.block R (hp_lt HB109.out) (by intro e;have:=Option.some.inj e;omega)).trans HB109.out
 clear HB109
 clear hN117 hs115 hg116 Hs104 Hg105
 have hR2:=hp_alloc w112 (.cells #[.string ⟨#[]⟩,.string ⟨#[]⟩,.string ⟨#[]⟩] 134)
 go_wp2_with (refine wpL_store_row rfl 134 _ _ rfl w112.heap.size _ rfl rfl 134 _ hR2 (by kernel_rfl) rfl (by simp[Value.oneCell']) ?_;refine Hid.out ?_)
 obtain⟨V5,hV5⟩:∃V,(w112.alloc (.cells #[.string ⟨#[]⟩,.string ⟨#[]⟩,.string ⟨#[]⟩] 134)).setRow w112.heap.size #[.string ⟨#[]⟩,.string t101,.string t110]=V:=⟨_,rfl⟩
 have hb5:=below_row hV5
 have HB5:Hid (V5.heap[w112.heap.size]?=some (.cells #[.string ⟨#[]⟩,.string t101,.string t110] 134 (0,0))):=by rw[← hV5];exact setRow_heap _ _ _ _ _ _ hR2
 rw[hV5]
 obtain⟨Bk,hBk⟩:∃Bk,Bk=w112.heap.size:=⟨_,rfl⟩
 rw[← hBk] at HB5 ⊢
 have hBkg:g<Bk:=by rw[hBk];exact Hs113.out.lt
 have hBkw:w.heap.size≤Bk:=by rw[hBk];exact Hg114.out.size
 have hRB:R<Bk:=by rw[hBk];exact hp_lt HB118.out
 have HR5:Hid (V5.heap[R]?=some (.cells #[.string ⟨#[]⟩,.string ⟨#[]⟩,.string ⟨#[]⟩] 134 (0,0))):=(hb5.block R (hp_lt HB118.out)).trans HB118.out
 have Hs5:=mkHid (Hs113.out.below hb5)
 have Hg5:=mkHid (gr_trans Hg114.out (gr_below hb5))
 clear hR2 hV5 hBk hb5 HB118 Hs113 Hg114
 refine mkHid ?_
 have hN125:=srcOne g o c cp a111 z 3 V5 Hs5.out (HC.out.grown Hg5.out (Nat.le_refl _)) (by omega) hl (by omega) (by omega)
 go_wp2_with fail
 refine hN125.mono ?_
 rintro e w120 ⟨b119,rfl,hs123,hg124⟩
 have Hs121:=mkHid hs123
 have Hg122:=mkHid (gr_trans Hg5.out hg124)
 have HB126:Hid (w120.heap[R]?=some (.cells #[.string ⟨#[]⟩,.string ⟨#[]⟩,.string ⟨#[]⟩] 134 (0,0))):=(hg124.block R (hp_lt HR5.out) (by intro e;have:=Option.some.inj e;omega)).trans HR5.out
 have HB127:Hid (w120.heap[Bk]?=some (.cells #[.string ⟨#[]⟩,.string t101,.string t110] 134 (0,0))):=(hg124.block Bk (hp_lt HB5.out) (by intro e;have:=Option.some.inj e;omega)).trans HB5.out
 clear HR5 HB5
 clear hN125 hs123 hg124 Hs5 Hg5
 cases b119 with
 | true=>
  have hb134:∀cs,Below w120.heap.size w120 (w120.alloc (.cells cs 9)):=fun cs=>(Below.refl _ _).alloc (Nat.le_refl _) _
  have hN133:=fun cs=>srcN g o c cp (a111+1) z 4 (w120.alloc (.cells cs 9)) (Hs121.out.below (hb134 cs)) (HC.out.grown (gr_trans Hg122.out (gr_below (hb134 cs))) (Nat.le_refl _)) (by omega) hl (by omega) (by omega)
  have hl137:g<w120.heap.size:=Hs121.out.lt
  go_wp2_with fail
  refine(hN133 _).mono ?_
  rintro e w128 ⟨v131,rfl,hv131,hs135,hg136⟩
  obtain⟨t132,hct132,hzt132⟩:=table_at (M:=5) hg136 hl137 (show v131<4 by omega) (by decide)
  have hlv131:v131<4:=by omega
  have hgg138:=gr_trans (gr_below (hb134 _)) hg136
  have Hs129:=mkHid hs135
  have Hg130:=mkHid (gr_trans Hg122.out hgg138)
  have HB139:Hid (w128.heap[R]?=some (.cells #[.string ⟨#[]⟩,.string ⟨#[]⟩,.string ⟨#[]⟩] 134 (0,0))):=(hgg138.block R (hp_lt HB126.out) (by intro e;have:=Option.some.inj e;omega)).trans HB126.out
  have HB140:Hid (w128.heap[Bk]?=some (.cells #[.string ⟨#[]⟩,.string t101,.string t110] 134 (0,0))):=(hgg138.block Bk (hp_lt HB127.out) (by intro e;have:=Option.some.inj e;omega)).trans HB127.out
  clear HB126 HB127
  clear hN133 hs135 hg136 hb134 hl137 hgg138 Hs121 Hg122
  have hcq141:w128.cell? ⟨Bk,1,none⟩=some (.string t101):=by simp[World.cell?,HB140.out]
  have hfq141:w128.frozen? ⟨Bk,1,none⟩=false:=by simp[World.frozen?,HB140.out]
  obtain⟨Vq141,hVq141⟩:∃V,w128.setCell ⟨Bk,1,none⟩ (.string t132)=V:=⟨_,rfl⟩
  have HBq141:Hid (Vq141.heap[Bk]?=some (.cells #[.string ⟨#[]⟩,.string t132,.string t110] 134 (0,0))):=by show _=_;rw[← hVq141];simp[World.setCell,Array.getElem?_modify,HB140.out]
  have HRq141:Hid (Vq141.heap[R]?=some (.cells #[.string ⟨#[]⟩,.string ⟨#[]⟩,.string ⟨#[]⟩] 134 (0,0))):=by show _=_;rw[← hVq141];simp[World.setCell,Array.getElem?_modify,HB139.out,show Bk≠R by omega]
  have Hsq141:Hid (Src Vq141 g o c.length cp ((a111+1)+1) z):=by rw[← hVq141];exact Hs129.out.setC (by omega)
  have Hgq141:Hid (w.grownBy Vq141 (some g)):=by rw[← hVq141];exact gr_setC Hg130.out hBkw
  have HVq141:=mkHid hVq141
  clear hVq141 HB140 HB139 Hs129 Hg130
  have hN148:=srcN g o c cp ((a111+1)+1) z 6 Vq141 Hsq141.out (HC.out.grown Hgq141.out (Nat.le_refl _)) (by omega) hl (by omega) (by omega)
  go_wp2_with fail
  rw[HVq141.out]
  clear hcq141 hfq141
  refine hN148.mono ?_
  rintro e w143 ⟨v142,rfl,hv142,hs146,hg147⟩
  have Hs144:=mkHid hs146
  have Hg145:=mkHid (gr_trans Hgq141.out hg147)
  have HB149:Hid (w143.heap[R]?=some (.cells #[.string ⟨#[]⟩,.string ⟨#[]⟩,.string ⟨#[]⟩] 134 (0,0))):=(hg147.block R (hp_lt HRq141.out) (by intro e;have:=Option.some.inj e;omega)).trans HRq141.out
  have HB150:Hid (w143.heap[Bk]?=some (.cells #[.string ⟨#[]⟩,.string t132,.string t110] 134 (0,0))):=(hg147.block Bk (hp_lt HBq141.out) (by intro e;have:=Option.some.inj e;omega)).trans HBq141.out
  clear HRq141 HBq141
  clear hN148 hs146 hg147 Hsq141 Hgq141
  by_cases h0:v142=0
  ·skip
   have e0:((v142:Int)==0)=true:=by rw[h0];rfl
   clear h0
   have hN158:=srcWord g o c cp (((a111+1)+1)+1) z w143 Hs144.out (HC.out.grown Hg145.out (Nat.le_refl _)) (by omega) hl
   go_wp2_with fail
   refine hN158.mono ?_
   rintro e w153 ⟨t151,a152,rfl,hzt151,ha152,hs156,hg157⟩
   have Hs154:=mkHid hs156
   have Hg155:=mkHid (gr_trans Hg145.out hg157)
   have HB159:Hid (w153.heap[R]?=some (.cells #[.string ⟨#[]⟩,.string ⟨#[]⟩,.string ⟨#[]⟩] 134 (0,0))):=(hg157.block R (hp_lt HB149.out) (by intro e;have:=Option.some.inj e;omega)).trans HB149.out
   have HB160:Hid (w153.heap[Bk]?=some (.cells #[.string ⟨#[]⟩,.string t132,.string t110] 134 (0,0))):=(hg157.block Bk (hp_lt HB150.out) (by intro e;have:=Option.some.inj e;omega)).trans HB150.out
   clear HB149 HB150
   clear hN158 hs156 hg157 Hs144 Hg145
   have m0:¬9223372036854775807<t151.size+1:=by omega
   have hN168:=srcWord g o c cp a152 z w153 Hs154.out (HC.out.grown Hg155.out (Nat.le_refl _)) (by omega) hl
   go_wp2_with fail
   refine hN168.mono ?_
   rintro e w163 ⟨t161,a162,rfl,hzt161,ha162,hs166,hg167⟩
   have Hs164:=mkHid hs166
   have Hg165:=mkHid (gr_trans Hg155.out hg167)
   have HB169:Hid (w163.heap[R]?=some (.cells #[.string ⟨#[]⟩,.string ⟨#[]⟩,.string ⟨#[]⟩] 134 (0,0))):=(hg167.block R (hp_lt HB159.out) (by intro e;have:=Option.some.inj e;omega)).trans HB159.out
   have HB170:Hid (w163.heap[Bk]?=some (.cells #[.string ⟨#[]⟩,.string t132,.string t110] 134 (0,0))):=(hg167.block Bk (hp_lt HB160.out) (by intro e;have:=Option.some.inj e;omega)).trans HB160.out
   clear HB159 HB160
   clear hN168 hs166 hg167 Hs154 Hg155
   obtain⟨nm171,hnm171⟩:∃q,t151++(⟨#[32]⟩:ByteArray)++t161=q:=⟨_,rfl⟩
   have hznm171:nm171.size≤20:=by rw[← hnm171,ByteArray.size_append,ByteArray.size_append];show t151.size+1+t161.size≤20;omega
   have m1:¬9223372036854775807<t151.size+1+t161.size:=by omega
   have Hnm171:=mkHid hnm171
   clear hnm171
   have hcq172:w163.cell? ⟨Bk,0,none⟩=some (.string ⟨#[]⟩):=by simp[World.cell?,HB170.out]
   have hfq172:w163.frozen? ⟨Bk,0,none⟩=false:=by simp[World.frozen?,HB170.out]
   have HBq172:Hid ((w163.setCell ⟨Bk,0,none⟩ (.string (t151++⟨#[32]⟩++t161))).heap[Bk]?=some (.cells #[.string (t151++⟨#[32]⟩++t161),.string t132,.string t110] 134 (0,0))):=by show _=_;simp[World.setCell,Array.getElem?_modify,HB170.out]
   have HRq172:Hid ((w163.setCell ⟨Bk,0,none⟩ (.string (t151++⟨#[32]⟩++t161))).heap[R]?=some (.cells #[.string ⟨#[]⟩,.string ⟨#[]⟩,.string ⟨#[]⟩] 134 (0,0))):=by show _=_;simp[World.setCell,Array.getElem?_modify,HB169.out,show Bk≠R by omega]
   have Hsq172:Hid (Src (w163.setCell ⟨Bk,0,none⟩ (.string (t151++⟨#[32]⟩++t161))) g o c.length cp a162 z):=Hs164.out.setC (by omega)
   have Hgq172:Hid (w.grownBy (w163.setCell ⟨Bk,0,none⟩ (.string (t151++⟨#[32]⟩++t161))) (some g)):=gr_setC Hg165.out hBkw
   go_wp2_with (first|(refine wpL_store_row rfl 134 _ _ rfl R _ rfl rfl 134 _ HRq172.out (by kernel_rfl) rfl (by simp[Value.oneCell']) ?_)|(refine wpL_load_row rfl 134 _ rfl Bk _ 134 (0,0) _ rfl HBq172.out Tryz.underlying134 rfl (by kernel_rfl) ?_))
   refine bodyPost_ret (v:=.agg #[.string (t151++⟨#[32]⟩++t161),.string t132,.string t110]) (results_cell_row Tryz.results102 _ _ R 134 _ (0,0) _ rfl (setRow_heap _ _ _ _ _ _ HRq172.out) Tryz.underlying134 rfl (by kernel_rfl)) rfl ?_
   exact⟨(t151++⟨#[32]⟩++t161),t132,t110,_,rfl,⟨by have:=Hnm171.out;have h9:=hznm171;rw[← this] at h9;exact h9,by omega,by omega⟩,by omega,Hsq172.out.setR (by omega),gr_setR Hgq172.out hRw⟩
  by_cases h0:v142=1
  ·skip
   have e0:((v142:Int)==0)=false:=beq_eq_false_iff_ne.2 (by omega)
   have e1:((v142:Int)==1)=true:=by rw[h0];rfl
   clear h0
   have hb157:∀cs,Below w143.heap.size w143 (w143.alloc (.cells cs 9)):=fun cs=>(Below.refl _ _).alloc (Nat.le_refl _) _
   have hN156:=fun cs=>srcN g o c cp (((a111+1)+1)+1) z 7 (w143.alloc (.cells cs 9)) (Hs144.out.below (hb157 cs)) (HC.out.grown (gr_trans Hg145.out (gr_below (hb157 cs))) (Nat.le_refl _)) (by omega) hl (by omega) (by omega)
   have hl160:g<w143.heap.size:=Hs144.out.lt
   go_wp2_with fail
   refine(hN156 _).mono ?_
   rintro e w151 ⟨v154,rfl,hv154,hs158,hg159⟩
   obtain⟨t155,hct155,hzt155⟩:=table_at (M:=6) hg159 hl160 (show v154<7 by omega) (by decide)
   have hlv154:v154<7:=by omega
   have hgg161:=gr_trans (gr_below (hb157 _)) hg159
   have Hs152:=mkHid hs158
   have Hg153:=mkHid (gr_trans Hg145.out hgg161)
   have HB162:Hid (w151.heap[R]?=some (.cells #[.string ⟨#[]⟩,.string ⟨#[]⟩,.string ⟨#[]⟩] 134 (0,0))):=(hgg161.block R (hp_lt HB149.out) (by intro e;have:=Option.some.inj e;omega)).trans HB149.out
   have HB163:Hid (w151.heap[Bk]?=some (.cells #[.string ⟨#[]⟩,.string t132,.string t110] 134 (0,0))):=(hgg161.block Bk (hp_lt HB150.out) (by intro e;have:=Option.some.inj e;omega)).trans HB150.out
   clear HB149 HB150
   clear hN156 hs158 hg159 hb157 hl160 hgg161 Hs144 Hg145
   have hcq164:w151.cell? ⟨Bk,0,none⟩=some (.string ⟨#[]⟩):=by simp[World.cell?,HB163.out]
   have hfq164:w151.frozen? ⟨Bk,0,none⟩=false:=by simp[World.frozen?,HB163.out]
   have HBq164:Hid ((w151.setCell ⟨Bk,0,none⟩ (.string t155)).heap[Bk]?=some (.cells #[.string t155,.string t132,.string t110] 134 (0,0))):=by show _=_;simp[World.setCell,Array.getElem?_modify,HB163.out]
   have HRq164:Hid ((w151.setCell ⟨Bk,0,none⟩ (.string t155)).heap[R]?=some (.cells #[.string ⟨#[]⟩,.string ⟨#[]⟩,.string ⟨#[]⟩] 134 (0,0))):=by show _=_;simp[World.setCell,Array.getElem?_modify,HB162.out,show Bk≠R by omega]
   have Hsq164:Hid (Src (w151.setCell ⟨Bk,0,none⟩ (.string t155)) g o c.length cp ((((a111+1)+1)+1)+1) z):=Hs152.out.setC (by omega)
   have Hgq164:Hid (w.grownBy (w151.setCell ⟨Bk,0,none⟩ (.string t155)) (some g)):=gr_setC Hg153.out hBkw
   go_wp2_with (first|(refine wpL_store_row rfl 134 _ _ rfl R _ rfl rfl 134 _ HRq164.out (by kernel_rfl) rfl (by simp[Value.oneCell']) ?_)|(refine wpL_load_row rfl 134 _ rfl Bk _ 134 (0,0) _ rfl HBq164.out Tryz.underlying134 rfl (by kernel_rfl) ?_))
   refine bodyPost_ret (v:=.agg #[.string t155,.string t132,.string t110]) (results_cell_row Tryz.results102 _ _ R 134 _ (0,0) _ rfl (setRow_heap _ _ _ _ _ _ HRq164.out) Tryz.underlying134 rfl (by kernel_rfl)) rfl ?_
   exact⟨t155,t132,t110,_,rfl,⟨by omega,by omega,by omega⟩,by omega,Hsq164.out.setR (by omega),gr_setR Hgq164.out hRw⟩
  by_cases h0:v142=2
  ·skip
   have e0:((v142:Int)==0)=false:=beq_eq_false_iff_ne.2 (by omega)
   have e1:((v142:Int)==1)=false:=beq_eq_false_iff_ne.2 (by omega)
   have e2:((v142:Int)==2)=true:=by rw[h0];rfl
   clear h0
   have hb157:∀cs,Below w143.heap.size w143 (w143.alloc (.cells cs 9)):=fun cs=>(Below.refl _ _).alloc (Nat.le_refl _) _
   have hN156:=fun cs=>srcN g o c cp (((a111+1)+1)+1) z 8 (w143.alloc (.cells cs 9)) (Hs144.out.below (hb157 cs)) (HC.out.grown (gr_trans Hg145.out (gr_below (hb157 cs))) (Nat.le_refl _)) (by omega) hl (by omega) (by omega)
   have hl160:g<w143.heap.size:=Hs144.out.lt
   go_wp2_with fail
   refine(hN156 _).mono ?_
   rintro e w151 ⟨v154,rfl,hv154,hs158,hg159⟩
   obtain⟨t155,hct155,hzt155⟩:=table_at (M:=5) hg159 hl160 (show v154<8 by omega) (by decide)
   have hlv154:v154<8:=by omega
   have hgg161:=gr_trans (gr_below (hb157 _)) hg159
   have Hs152:=mkHid hs158
   have Hg153:=mkHid (gr_trans Hg145.out hgg161)
   have HB162:Hid (w151.heap[R]?=some (.cells #[.string ⟨#[]⟩,.string ⟨#[]⟩,.string ⟨#[]⟩] 134 (0,0))):=(hgg161.block R (hp_lt HB149.out) (by intro e;have:=Option.some.inj e;omega)).trans HB149.out
   have HB163:Hid (w151.heap[Bk]?=some (.cells #[.string ⟨#[]⟩,.string t132,.string t110] 134 (0,0))):=(hgg161.block Bk (hp_lt HB150.out) (by intro e;have:=Option.some.inj e;omega)).trans HB150.out
   clear HB149 HB150
   clear hN156 hs158 hg159 hb157 hl160 hgg161 Hs144 Hg145
   have hcq164:w151.cell? ⟨Bk,1,none⟩=some (.string t132):=by simp[World.cell?,HB163.out]
   have hfq164:w151.frozen? ⟨Bk,1,none⟩=false:=by simp[World.frozen?,HB163.out]
   have HBq164:Hid ((w151.setCell ⟨Bk,1,none⟩ (.string t155)).heap[Bk]?=some (.cells #[.string ⟨#[]⟩,.string t155,.string t110] 134 (0,0))):=by show _=_;simp[World.setCell,Array.getElem?_modify,HB163.out]
   have HRq164:Hid ((w151.setCell ⟨Bk,1,none⟩ (.string t155)).heap[R]?=some (.cells #[.string ⟨#[]⟩,.string ⟨#[]⟩,.string ⟨#[]⟩] 134 (0,0))):=by show _=_;simp[World.setCell,Array.getElem?_modify,HB162.out,show Bk≠R by omega]
   have Hsq164:Hid (Src (w151.setCell ⟨Bk,1,none⟩ (.string t155)) g o c.length cp ((((a111+1)+1)+1)+1) z):=Hs152.out.setC (by omega)
   have Hgq164:Hid (w.grownBy (w151.setCell ⟨Bk,1,none⟩ (.string t155)) (some g)):=gr_setC Hg153.out hBkw
   go_wp2_with (first|(refine wpL_store_row rfl 134 _ _ rfl R _ rfl rfl 134 _ HRq164.out (by kernel_rfl) rfl (by simp[Value.oneCell']) ?_)|(refine wpL_load_row rfl 134 _ rfl Bk _ 134 (0,0) _ rfl HBq164.out Tryz.underlying134 rfl (by kernel_rfl) ?_))
   refine bodyPost_ret (v:=.agg #[.string ⟨#[]⟩,.string t155,.string t110]) (results_cell_row Tryz.results102 _ _ R 134 _ (0,0) _ rfl (setRow_heap _ _ _ _ _ _ HRq164.out) Tryz.underlying134 rfl (by kernel_rfl)) rfl ?_
   exact⟨⟨#[]⟩,t155,t110,_,rfl,⟨by decide,by omega,by omega⟩,by omega,Hsq164.out.setR (by omega),gr_setR Hgq164.out hRw⟩
  have e0:((v142:Int)==0)=false:=beq_eq_false_iff_ne.2 (by omega)
  have e1:((v142:Int)==1)=false:=beq_eq_false_iff_ne.2 (by omega)
  have e2:((v142:Int)==2)=false:=beq_eq_false_iff_ne.2 (by omega)
  go_wp2_with (first|(refine wpL_store_row rfl 134 _ _ rfl R _ rfl rfl 134 _ HB149.out (by kernel_rfl) rfl (by simp[Value.oneCell']) ?_)|(refine wpL_load_row rfl 134 _ rfl Bk _ 134 (0,0) _ rfl HB150.out Tryz.underlying134 rfl (by kernel_rfl) ?_))
  refine bodyPost_ret (v:=.agg #[.string ⟨#[]⟩,.string t132,.string t110]) (results_cell_row Tryz.results102 _ _ R 134 _ (0,0) _ rfl (setRow_heap _ _ _ _ _ _ HB149.out) Tryz.underlying134 rfl (by kernel_rfl)) rfl ?_
  exact⟨⟨#[]⟩,t132,t110,_,rfl,⟨by decide,by omega,by omega⟩,by omega,Hs144.out.setR (by omega),gr_setR Hg145.out hRw⟩
 | false=>
  have hN134:=srcN g o c cp (a111+1) z 6 w120 Hs121.out (HC.out.grown Hg122.out (Nat.le_refl _)) (by omega) hl (by omega) (by omega)
  go_wp2_with fail
  refine hN134.mono ?_
  rintro e w129 ⟨v128,rfl,hv128,hs132,hg133⟩
  have Hs130:=mkHid hs132
  have Hg131:=mkHid (gr_trans Hg122.out hg133)
  have HB135:Hid (w129.heap[R]?=some (.cells #[.string ⟨#[]⟩,.string ⟨#[]⟩,.string ⟨#[]⟩] 134 (0,0))):=(hg133.block R (hp_lt HB126.out) (by intro e;have:=Option.some.inj e;omega)).trans HB126.out
  have HB136:Hid (w129.heap[Bk]?=some (.cells #[.string ⟨#[]⟩,.string t101,.string t110] 134 (0,0))):=(hg133.block Bk (hp_lt HB127.out) (by intro e;have:=Option.some.inj e;omega)).trans HB127.out
  clear HB126 HB127
  clear hN134 hs132 hg133 Hs121 Hg122
  by_cases h0:v128=0
  ·skip
   have e0:((v128:Int)==0)=true:=by rw[h0];rfl
   clear h0
   have hN144:=srcWord g o c cp ((a111+1)+1) z w129 Hs130.out (HC.out.grown Hg131.out (Nat.le_refl _)) (by omega) hl
   go_wp2_with fail
   refine hN144.mono ?_
   rintro e w139 ⟨t137,a138,rfl,hzt137,ha138,hs142,hg143⟩
   have Hs140:=mkHid hs142
   have Hg141:=mkHid (gr_trans Hg131.out hg143)
   have HB145:Hid (w139.heap[R]?=some (.cells #[.string ⟨#[]⟩,.string ⟨#[]⟩,.string ⟨#[]⟩] 134 (0,0))):=(hg143.block R (hp_lt HB135.out) (by intro e;have:=Option.some.inj e;omega)).trans HB135.out
   have HB146:Hid (w139.heap[Bk]?=some (.cells #[.string ⟨#[]⟩,.string t101,.string t110] 134 (0,0))):=(hg143.block Bk (hp_lt HB136.out) (by intro e;have:=Option.some.inj e;omega)).trans HB136.out
   clear HB135 HB136
   clear hN144 hs142 hg143 Hs130 Hg131
   have m0:¬9223372036854775807<t137.size+1:=by omega
   have hN154:=srcWord g o c cp a138 z w139 Hs140.out (HC.out.grown Hg141.out (Nat.le_refl _)) (by omega) hl
   go_wp2_with fail
   refine hN154.mono ?_
   rintro e w149 ⟨t147,a148,rfl,hzt147,ha148,hs152,hg153⟩
   have Hs150:=mkHid hs152
   have Hg151:=mkHid (gr_trans Hg141.out hg153)
   have HB155:Hid (w149.heap[R]?=some (.cells #[.string ⟨#[]⟩,.string ⟨#[]⟩,.string ⟨#[]⟩] 134 (0,0))):=(hg153.block R (hp_lt HB145.out) (by intro e;have:=Option.some.inj e;omega)).trans HB145.out
   have HB156:Hid (w149.heap[Bk]?=some (.cells #[.string ⟨#[]⟩,.string t101,.string t110] 134 (0,0))):=(hg153.block Bk (hp_lt HB146.out) (by intro e;have:=Option.some.inj e;omega)).trans HB146.out
   clear HB145 HB146
   clear hN154 hs152 hg153 Hs140 Hg141
   obtain⟨nm157,hnm157⟩:∃q,t137++(⟨#[32]⟩:ByteArray)++t147=q:=⟨_,rfl⟩
   have hznm157:nm157.size≤20:=by rw[← hnm157,ByteArray.size_append,ByteArray.size_append];show t137.size+1+t147.size≤20;omega
   have m1:¬9223372036854775807<t137.size+1+t147.size:=by omega
   have Hnm157:=mkHid hnm157
   clear hnm157
   have hcq158:w149.cell? ⟨Bk,0,none⟩=some (.string ⟨#[]⟩):=by simp[World.cell?,HB156.out]
   have hfq158:w149.frozen? ⟨Bk,0,none⟩=false:=by simp[World.frozen?,HB156.out]
   have HBq158:Hid ((w149.setCell ⟨Bk,0,none⟩ (.string (t137++⟨#[32]⟩++t147))).heap[Bk]?=some (.cells #[.string (t137++⟨#[32]⟩++t147),.string t101,.string t110] 134 (0,0))):=by show _=_;simp[World.setCell,Array.getElem?_modify,HB156.out]
   have HRq158:Hid ((w149.setCell ⟨Bk,0,none⟩ (.string (t137++⟨#[32]⟩++t147))).heap[R]?=some (.cells #[.string ⟨#[]⟩,.string ⟨#[]⟩,.string ⟨#[]⟩] 134 (0,0))):=by show _=_;simp[World.setCell,Array.getElem?_modify,HB155.out,show Bk≠R by omega]
   have Hsq158:Hid (Src (w149.setCell ⟨Bk,0,none⟩ (.string (t137++⟨#[32]⟩++t147))) g o c.length cp a148 z):=Hs150.out.setC (by omega)
   have Hgq158:Hid (w.grownBy (w149.setCell ⟨Bk,0,none⟩ (.string (t137++⟨#[32]⟩++t147))) (some g)):=gr_setC Hg151.out hBkw
   go_wp2_with (first|(refine wpL_store_row rfl 134 _ _ rfl R _ rfl rfl 134 _ HRq158.out (by kernel_rfl) rfl (by simp[Value.oneCell']) ?_)|(refine wpL_load_row rfl 134 _ rfl Bk _ 134 (0,0) _ rfl HBq158.out Tryz.underlying134 rfl (by kernel_rfl) ?_))
   refine bodyPost_ret (v:=.agg #[.string (t137++⟨#[32]⟩++t147),.string t101,.string t110]) (results_cell_row Tryz.results102 _ _ R 134 _ (0,0) _ rfl (setRow_heap _ _ _ _ _ _ HRq158.out) Tryz.underlying134 rfl (by kernel_rfl)) rfl ?_
   exact⟨(t137++⟨#[32]⟩++t147),t101,t110,_,rfl,⟨by have:=Hnm157.out;have h9:=hznm157;rw[← this] at h9;exact h9,by omega,by omega⟩,by omega,Hsq158.out.setR (by omega),gr_setR Hgq158.out hRw⟩
  by_cases h0:v128=1
  ·skip
   have e0:((v128:Int)==0)=false:=beq_eq_false_iff_ne.2 (by omega)
   have e1:((v128:Int)==1)=true:=by rw[h0];rfl
   clear h0
   have hb143:∀cs,Below w129.heap.size w129 (w129.alloc (.cells cs 9)):=fun cs=>(Below.refl _ _).alloc (Nat.le_refl _) _
   have hN142:=fun cs=>srcN g o c cp ((a111+1)+1) z 7 (w129.alloc (.cells cs 9)) (Hs130.out.below (hb143 cs)) (HC.out.grown (gr_trans Hg131.out (gr_below (hb143 cs))) (Nat.le_refl _)) (by omega) hl (by omega) (by omega)
   have hl146:g<w129.heap.size:=Hs130.out.lt
   go_wp2_with fail
   refine(hN142 _).mono ?_
   rintro e w137 ⟨v140,rfl,hv140,hs144,hg145⟩
   obtain⟨t141,hct141,hzt141⟩:=table_at (M:=6) hg145 hl146 (show v140<7 by omega) (by decide)
   have hlv140:v140<7:=by omega
   have hgg147:=gr_trans (gr_below (hb143 _)) hg145
   have Hs138:=mkHid hs144
   have Hg139:=mkHid (gr_trans Hg131.out hgg147)
   have HB148:Hid (w137.heap[R]?=some (.cells #[.string ⟨#[]⟩,.string ⟨#[]⟩,.string ⟨#[]⟩] 134 (0,0))):=(hgg147.block R (hp_lt HB135.out) (by intro e;have:=Option.some.inj e;omega)).trans HB135.out
   have HB149:Hid (w137.heap[Bk]?=some (.cells #[.string ⟨#[]⟩,.string t101,.string t110] 134 (0,0))):=(hgg147.block Bk (hp_lt HB136.out) (by intro e;have:=Option.some.inj e;omega)).trans HB136.out
   clear HB135 HB136
   clear hN142 hs144 hg145 hb143 hl146 hgg147 Hs130 Hg131
   have hcq150:w137.cell? ⟨Bk,0,none⟩=some (.string ⟨#[]⟩):=by simp[World.cell?,HB149.out]
   have hfq150:w137.frozen? ⟨Bk,0,none⟩=false:=by simp[World.frozen?,HB149.out]
   have HBq150:Hid ((w137.setCell ⟨Bk,0,none⟩ (.string t141)).heap[Bk]?=some (.cells #[.string t141,.string t101,.string t110] 134 (0,0))):=by show _=_;simp[World.setCell,Array.getElem?_modify,HB149.out]
   have HRq150:Hid ((w137.setCell ⟨Bk,0,none⟩ (.string t141)).heap[R]?=some (.cells #[.string ⟨#[]⟩,.string ⟨#[]⟩,.string ⟨#[]⟩] 134 (0,0))):=by show _=_;simp[World.setCell,Array.getElem?_modify,HB148.out,show Bk≠R by omega]
   have Hsq150:Hid (Src (w137.setCell ⟨Bk,0,none⟩ (.string t141)) g o c.length cp (((a111+1)+1)+1) z):=Hs138.out.setC (by omega)
   have Hgq150:Hid (w.grownBy (w137.setCell ⟨Bk,0,none⟩ (.string t141)) (some g)):=gr_setC Hg139.out hBkw
   go_wp2_with (first|(refine wpL_store_row rfl 134 _ _ rfl R _ rfl rfl 134 _ HRq150.out (by kernel_rfl) rfl (by simp[Value.oneCell']) ?_)|(refine wpL_load_row rfl 134 _ rfl Bk _ 134 (0,0) _ rfl HBq150.out Tryz.underlying134 rfl (by kernel_rfl) ?_))
   refine bodyPost_ret (v:=.agg #[.string t141,.string t101,.string t110]) (results_cell_row Tryz.results102 _ _ R 134 _ (0,0) _ rfl (setRow_heap _ _ _ _ _ _ HRq150.out) Tryz.underlying134 rfl (by kernel_rfl)) rfl ?_
   exact⟨t141,t101,t110,_,rfl,⟨by omega,by omega,by omega⟩,by omega,Hsq150.out.setR (by omega),gr_setR Hgq150.out hRw⟩
  by_cases h0:v128=2
  ·skip
   have e0:((v128:Int)==0)=false:=beq_eq_false_iff_ne.2 (by omega)
   have e1:((v128:Int)==1)=false:=beq_eq_false_iff_ne.2 (by omega)
   have e2:((v128:Int)==2)=true:=by rw[h0];rfl
   clear h0
   have hb143:∀cs,Below w129.heap.size w129 (w129.alloc (.cells cs 9)):=fun cs=>(Below.refl _ _).alloc (Nat.le_refl _) _
   have hN142:=fun cs=>srcN g o c cp ((a111+1)+1) z 8 (w129.alloc (.cells cs 9)) (Hs130.out.below (hb143 cs)) (HC.out.grown (gr_trans Hg131.out (gr_below (hb143 cs))) (Nat.le_refl _)) (by omega) hl (by omega) (by omega)
   have hl146:g<w129.heap.size:=Hs130.out.lt
   go_wp2_with fail
   refine(hN142 _).mono ?_
   rintro e w137 ⟨v140,rfl,hv140,hs144,hg145⟩
   obtain⟨t141,hct141,hzt141⟩:=table_at (M:=5) hg145 hl146 (show v140<8 by omega) (by decide)
   have hlv140:v140<8:=by omega
   have hgg147:=gr_trans (gr_below (hb143 _)) hg145
   have Hs138:=mkHid hs144
   have Hg139:=mkHid (gr_trans Hg131.out hgg147)
   have HB148:Hid (w137.heap[R]?=some (.cells #[.string ⟨#[]⟩,.string ⟨#[]⟩,.string ⟨#[]⟩] 134 (0,0))):=(hgg147.block R (hp_lt HB135.out) (by intro e;have:=Option.some.inj e;omega)).trans HB135.out
   have HB149:Hid (w137.heap[Bk]?=some (.cells #[.string ⟨#[]⟩,.string t101,.string t110] 134 (0,0))):=(hgg147.block Bk (hp_lt HB136.out) (by intro e;have:=Option.some.inj e;omega)).trans HB136.out
   clear HB135 HB136
   clear hN142 hs144 hg145 hb143 hl146 hgg147 Hs130 Hg131
   have hcq150:w137.cell? ⟨Bk,1,none⟩=some (.string t101):=by simp[World.cell?,HB149.out]
   have hfq150:w137.frozen? ⟨Bk,1,none⟩=false:=by simp[World.frozen?,HB149.out]
   have HBq150:Hid ((w137.setCell ⟨Bk,1,none⟩ (.string t141)).heap[Bk]?=some (.cells #[.string ⟨#[]⟩,.string t141,.string t110] 134 (0,0))):=by show _=_;simp[World.setCell,Array.getElem?_modify,HB149.out]
   have HRq150:Hid ((w137.setCell ⟨Bk,1,none⟩ (.string t141)).heap[R]?=some (.cells #[.string ⟨#[]⟩,.string ⟨#[]⟩,.string ⟨#[]⟩] 134 (0,0))):=by show _=_;simp[World.setCell,Array.getElem?_modify,HB148.out,show Bk≠R by omega]
   have Hsq150:Hid (Src (w137.setCell ⟨Bk,1,none⟩ (.string t141)) g o c.length cp (((a111+1)+1)+1) z):=Hs138.out.setC (by omega)
   have Hgq150:Hid (w.grownBy (w137.setCell ⟨Bk,1,none⟩ (.string t141)) (some g)):=gr_setC Hg139.out hBkw
   go_wp2_with (first|(refine wpL_store_row rfl 134 _ _ rfl R _ rfl rfl 134 _ HRq150.out (by kernel_rfl) rfl (by simp[Value.oneCell']) ?_)|(refine wpL_load_row rfl 134 _ rfl Bk _ 134 (0,0) _ rfl HBq150.out Tryz.underlying134 rfl (by kernel_rfl) ?_))
   refine bodyPost_ret (v:=.agg #[.string ⟨#[]⟩,.string t141,.string t110]) (results_cell_row Tryz.results102 _ _ R 134 _ (0,0) _ rfl (setRow_heap _ _ _ _ _ _ HRq150.out) Tryz.underlying134 rfl (by kernel_rfl)) rfl ?_
   exact⟨⟨#[]⟩,t141,t110,_,rfl,⟨by decide,by omega,by omega⟩,by omega,Hsq150.out.setR (by omega),gr_setR Hgq150.out hRw⟩
  have e0:((v128:Int)==0)=false:=beq_eq_false_iff_ne.2 (by omega)
  have e1:((v128:Int)==1)=false:=beq_eq_false_iff_ne.2 (by omega)
  have e2:((v128:Int)==2)=false:=beq_eq_false_iff_ne.2 (by omega)
  go_wp2_with (first|(refine wpL_store_row rfl 134 _ _ rfl R _ rfl rfl 134 _ HB135.out (by kernel_rfl) rfl (by simp[Value.oneCell']) ?_)|(refine wpL_load_row rfl 134 _ rfl Bk _ 134 (0,0) _ rfl HB136.out Tryz.underlying134 rfl (by kernel_rfl) ?_))
  refine bodyPost_ret (v:=.agg #[.string ⟨#[]⟩,.string t101,.string t110]) (results_cell_row Tryz.results102 _ _ R 134 _ (0,0) _ rfl (setRow_heap _ _ _ _ _ _ HB135.out) Tryz.underlying134 rfl (by kernel_rfl)) rfl ?_
  exact⟨⟨#[]⟩,t101,t110,_,rfl,⟨by decide,by omega,by omega⟩,by omega,Hs130.out.setR (by omega),gr_setR Hg131.out hRw⟩
end Go.Proofs.YtibbpmhbgbafhaaGreatDoor
