import Derived.Test.YtacaoiedcfelcaaGreatDoorDrawOpB
import Derived.Test.YtacaoiedcfelcaaGreatDoorCells
set_option maxRecDepth 20000
namespace Go.Proofs.YtacaoiedcfelcaaGreatDoor
open Go.RowKit Go.Lib Go.Maps
theorem below_row {w V:World} {cs cs':Array Value} {t:TypeId} (hV:(w.alloc (.cells cs t)).setRow w.heap.size cs'=V):Below w.heap.size w V:=
 ⟨by rw[← hV];rfl,by rw[← hV];rfl,by rw[← hV];rfl,by rw[← hV];simp,fun i hi=>by
  rw[← hV,setRow_other _ _ _ _ (by omega)]
  exact((Below.refl w.heap.size w).alloc (Nat.le_refl _) _).block i hi⟩
theorem gr_setR {w0 w:World} {g b:Nat} {cs:Array Value} (h:w0.grownBy w (some g))(hb:w0.heap.size≤b):w0.grownBy (w.setRow b cs) (some g):=
 ⟨h.os,h.tape,h.output,by simpa using h.size,fun i hi hr=>(setRow_other w b i _ (by omega)).trans (h.block i hi hr)⟩
theorem Src.setR {w:World} {g n cp a z b:Nat} {o:Option Addr} {cs:Array Value} (h:Src w g o n cp a z)(hb:b≠g):Src (w.setRow b cs) g o n cp a z:=
 ⟨by rw[setRow_other w b g _ (fun e=>hb e.symm)];exact h.blk⟩
set_option maxHeartbeats 8000000 in
theorem srcBox (g:Nat)(o:Option Addr)(c:List UInt8)(cp a z:Nat)(w:World)(h:Src w g o c.length cp a z)(hc:Code g w o c)(ha:a≤800000000000)(hl:c.length≤1048576) :
  Calls Tryz.prog 136 #[.pointer (some ⟨g,0,none⟩)] w fun e w'=>∃ (n l d:ByteArray) (a':Nat),e=.returned (.agg #[.string n,.string l,.string d])∧(n.size≤20∧l.size≤20∧d.size≤20)∧a'≤a+60∧Src w' g o c.length cp a' z∧w.grownBy w' (some g):=by
 have HC:Hid (Code g w o c):=hc
 have hgl:=h.lt
 have Hs:=mkHid h
 have Hg:Hid (w.grownBy w (some g)):=gr_refl _ _
 clear h hc
 go_enter Tryz.func136,Tryz.ntmps136
 obtain⟨W1,hW1⟩:∃W,w.alloc (.cells #[.string ⟨#[]⟩,.string ⟨#[]⟩,.string ⟨#[]⟩] 151)=W:=⟨_,rfl⟩
 have b1:Below w.heap.size w W1:=by rw[← hW1];exact(Below.refl _ _).alloc (Nat.le_refl _) _
 obtain⟨R,hR⟩:∃R,R=w.heap.size:=⟨_,rfl⟩
 have HR0:Hid (W1.heap[R]?=some (.cells #[.string ⟨#[]⟩,.string ⟨#[]⟩,.string ⟨#[]⟩] 151 (0,0))):=by rw[← hW1,hR];exact hp_alloc _ _
 have Hs1:=mkHid (Hs.out.below b1)
 have Hg1:Hid (w.grownBy W1 (some g)):=gr_below b1
 have HW1:=mkHid hW1
 have hRg:g<R:=by omega
 have hRw:w.heap.size≤R:=by omega
 have HRe:=mkHid hR
 clear b1 hW1 Hs Hg hR
 have hN108:=srcWord g o c cp a z W1 Hs1.out (HC.out.grown Hg1.out (Nat.le_refl _)) (by omega) hl
 go_wp2_with fail
 rw[HW1.out,← HRe.out]
 refine hN108.mono ?_
 rintro e w103 ⟨t101,a102,rfl,hzt101,ha102,hs106,hg107⟩
 have Hs104:=mkHid hs106
 have Hg105:=mkHid (gr_trans Hg1.out hg107)
 have HB109:Hid (w103.heap[R]?=some (.cells #[.string ⟨#[]⟩,.string ⟨#[]⟩,.string ⟨#[]⟩] 151 (0,0))):=(hg107.block R (hp_lt HR0.out) (by intro e;have:=Option.some.inj e;omega)).trans HR0.out
 clear HR0
 clear hN108 hs106 hg107 Hs1 Hg1
 have hN117:=srcDomain g o c cp a102 z w103 Hs104.out (HC.out.grown Hg105.out (Nat.le_refl _)) (by omega) hl
 go_wp2_with fail
 refine hN117.mono ?_
 rintro e w112 ⟨t110,a111,rfl,hzt110,ha111,hs115,hg116⟩
 have Hs113:=mkHid hs115
 have Hg114:=mkHid (gr_trans Hg105.out hg116)
 have HB118:Hid (w112.heap[R]?=some (.cells #[.string ⟨#[]⟩,.string ⟨#[]⟩,.string ⟨#[]⟩] 151 (0,0))):=(hg116.block R (hp_lt HB109.out) (by intro e;have:=Option.some.inj e;omega)).trans HB109.out
 clear HB109
 clear hN117 hs115 hg116 Hs104 Hg105
 have hR2:=hp_alloc w112 (.cells #[.string ⟨#[]⟩,.string ⟨#[]⟩,.string ⟨#[]⟩] 151)
 go_wp2_with (refine wpL_store_row rfl 151 _ _ rfl w112.heap.size _ rfl rfl 151 _ hR2 (by kernel_rfl) rfl (by simp[Value.oneCell']) ?_;refine Hid.out ?_)
 obtain⟨V5,hV5⟩:∃V,(w112.alloc (.cells #[.string ⟨#[]⟩,.string ⟨#[]⟩,.string ⟨#[]⟩] 151)).setRow w112.heap.size #[.string ⟨#[]⟩,.string t101,.string t110]=V:=⟨_,rfl⟩
 have hb5:=below_row hV5
 have HB5:Hid (V5.heap[w112.heap.size]?=some (.cells #[.string ⟨#[]⟩,.string t101,.string t110] 151 (0,0))):=by rw[← hV5];exact setRow_heap _ _ _ _ _ _ hR2
 rw[hV5]
 obtain⟨Bk,hBk⟩:∃Bk,Bk=w112.heap.size:=⟨_,rfl⟩
 rw[← hBk] at HB5 ⊢
 have hBkg:g<Bk:=by rw[hBk];exact Hs113.out.lt
 have hBkw:w.heap.size≤Bk:=by rw[hBk];exact Hg114.out.size
 have hRB:R<Bk:=by rw[hBk];exact hp_lt HB118.out
 have HR5:Hid (V5.heap[R]?=some (.cells #[.string ⟨#[]⟩,.string ⟨#[]⟩,.string ⟨#[]⟩] 151 (0,0))):=(hb5.block R (hp_lt HB118.out)).trans HB118.out
 have Hs5:=mkHid (Hs113.out.below hb5)
 have Hg5:=mkHid (gr_trans Hg114.out (gr_below hb5))
 clear hR2 hV5 hBk hb5 HB118 Hs113 Hg114
 refine mkHid ?_
 have hN125:=srcOne g o c cp a111 z 3 V5 Hs5.out (HC.out.grown Hg5.out (Nat.le_refl _)) (by omega) hl (by omega) (by omega)
 go_wp2_with fail
 refine hN125.mono ?_
 rintro e w120 ⟨b119,rfl,hs123,hg124⟩
 have Hs121:=mkHid hs123
 have Hg122:=mkHid (gr_trans Hg5.out hg124)
 have HB126:Hid (w120.heap[R]?=some (.cells #[.string ⟨#[]⟩,.string ⟨#[]⟩,.string ⟨#[]⟩] 151 (0,0))):=(hg124.block R (hp_lt HR5.out) (by intro e;have:=Option.some.inj e;omega)).trans HR5.out
 have HB127:Hid (w120.heap[Bk]?=some (.cells #[.string ⟨#[]⟩,.string t101,.string t110] 151 (0,0))):=(hg124.block Bk (hp_lt HB5.out) (by intro e;have:=Option.some.inj e;omega)).trans HB5.out
 clear HR5 HB5
 clear hN125 hs123 hg124 Hs5 Hg5
 cases b119 with
 | true=>
  have hb134:∀cs,Below w120.heap.size w120 (w120.alloc (.cells cs 9)):=fun cs=>(Below.refl _ _).alloc (Nat.le_refl _) _
  have hN133:=fun cs=>srcN g o c cp (a111+1) z 4 (w120.alloc (.cells cs 9)) (Hs121.out.below (hb134 cs)) (HC.out.grown (gr_trans Hg122.out (gr_below (hb134 cs))) (Nat.le_refl _)) (by omega) hl (by omega) (by omega)
  have hl137:g<w120.heap.size:=Hs121.out.lt
  go_wp2_with fail
  refine(hN133 _).mono ?_
  rintro e w128 ⟨v131,rfl,hv131,hs135,hg136⟩
  obtain⟨t132,hct132,hzt132⟩:=table_at (M:=5) hg136 hl137 (show v131<4 by omega) (by decide)
  have hlv131:v131<4:=by omega
  have hgg138:=gr_trans (gr_below (hb134 _)) hg136
  have Hs129:=mkHid hs135
  have Hg130:=mkHid (gr_trans Hg122.out hgg138)
  have HB139:Hid (w128.heap[R]?=some (.cells #[.string ⟨#[]⟩,.string ⟨#[]⟩,.string ⟨#[]⟩] 151 (0,0))):=(hgg138.block R (hp_lt HB126.out) (by intro e;have:=Option.some.inj e;omega)).trans HB126.out
  have HB140:Hid (w128.heap[Bk]?=some (.cells #[.string ⟨#[]⟩,.string t101,.string t110] 151 (0,0))):=(hgg138.block Bk (hp_lt HB127.out) (by intro e;have:=Option.some.inj e;omega)).trans HB127.out
  clear HB126 HB127
  clear hN133 hs135 hg136 hb134 hl137 hgg138 Hs121 Hg122
  have hcq141:w128.cell? ⟨Bk,1,none⟩=some (.string t101):=by simp[World.cell?,HB140.out]
  have hfq141:w128.frozen? ⟨Bk,1,none⟩=false:=by simp[World.frozen?,HB140.out]
  obtain⟨Vq141,hVq141⟩:∃V,w128.setCell ⟨Bk,1,none⟩ (.string t132)=V:=⟨_,rfl⟩
  have HBq141:Hid (Vq141.heap[Bk]?=some (.cells #[.string ⟨#[]⟩,.string t132,.string t110] 151 (0,0))):=by show _=_;rw[← hVq141];simp[World.setCell,Array.getElem?_modify,HB140.out]
  have HRq141:Hid (Vq141.heap[R]?=some (.cells #[.string ⟨#[]⟩,.string ⟨#[]⟩,.string ⟨#[]⟩] 151 (0,0))):=by show _=_;rw[← hVq141];simp[World.setCell,Array.getElem?_modify,HB139.out,show Bk≠R by omega]
  have Hsq141:Hid (Src Vq141 g o c.length cp ((a111+1)+1) z):=by rw[← hVq141];exact Hs129.out.setC (by omega)
  have Hgq141:Hid (w.grownBy Vq141 (some g)):=by rw[← hVq141];exact gr_setC Hg130.out hBkw
  have HVq141:=mkHid hVq141
  clear hVq141 HB140 HB139 Hs129 Hg130
  have hN148:=srcN g o c cp ((a111+1)+1) z 6 Vq141 Hsq141.out (HC.out.grown Hgq141.out (Nat.le_refl _)) (by omega) hl (by omega) (by omega)
  go_wp2_with fail
  rw[HVq141.out]
  clear hcq141 hfq141
  refine hN148.mono ?_
  rintro e w143 ⟨v142,rfl,hv142,hs146,hg147⟩
  have Hs144:=mkHid hs146
  have Hg145:=mkHid (gr_trans Hgq141.out hg147)
  have HB149:Hid (w143.heap[R]?=some (.cells #[.string ⟨#[]⟩,.string ⟨#[]⟩,.string ⟨#[]⟩] 151 (0,0))):=(hg147.block R (hp_lt HRq141.out) (by intro e;have:=Option.some.inj e;omega)).trans HRq141.out
  have HB150:Hid (w143.heap[Bk]?=some (.cells #[.string ⟨#[]⟩,.string t132,.string t110] 151 (0,0))):=(hg147.block Bk (hp_lt HBq141.out) (by intro e;have:=Option.some.inj e;omega)).trans HBq141.out
  clear HRq141 HBq141
  clear hN148 hs146 hg147 Hsq141 Hgq141
  by_cases h0:v142=0
  ·skip
   have e0:((v142:Int)==0)=true:=by rw[h0];rfl
   clear h0
   have hN158:=srcWord g o c cp (((a111+1)+1)+1) z w143 Hs144.out (HC.out.grown Hg145.out (Nat.le_refl _)) (by omega) hl
   go_wp2_with fail
   refine hN158.mono ?_
   rintro e w153 ⟨t151,a152,rfl,hzt151,ha152,hs156,hg157⟩
   have Hs154:=mkHid hs156
   have Hg155:=mkHid (gr_trans Hg145.out hg157)
   have HB159:Hid (w153.heap[R]?=some (.cells #[.string ⟨#[]⟩,.string ⟨#[]⟩,.string ⟨#[]⟩] 151 (0,0))):=(hg157.block R (hp_lt HB149.out) (by intro e;have:=Option.some.inj e;omega)).trans HB149.out
   have HB160:Hid (w153.heap[Bk]?=some (.cells #[.string ⟨#[]⟩,.string t132,.string t110] 151 (0,0))):=(hg157.block Bk (hp_lt HB150.out) (by intro e;have:=Option.some.inj e;omega)).trans HB150.out
   clear HB149 HB150
   clear hN158 hs156 hg157 Hs144 Hg145
   have m0:¬9223372036854775807<t151.size+1:=by omega
   have hN168:=srcWord g o c cp a152 z w153 Hs154.out (HC.out.grown Hg155.out (Nat.le_refl _)) (by omega) hl
   go_wp2_with fail
   refine hN168.mono ?_
   rintro e w163 ⟨t161,a162,rfl,hzt161,ha162,hs166,hg167⟩
   have Hs164:=mkHid hs166
   have Hg165:=mkHid (gr_trans Hg155.out hg167)
   have HB169:Hid (w163.heap[R]?=some (.cells #[.string ⟨#[]⟩,.string ⟨#[]⟩,.string ⟨#[]⟩] 151 (0,0))):=(hg167.block R (hp_lt HB159.out) (by intro e;have:=Option.some.inj e;omega)).trans HB159.out
   have HB170:Hid (w163.heap[Bk]?=some (.cells #[.string ⟨#[]⟩,.string t132,.string t110] 151 (0,0))):=(hg167.block Bk (hp_lt HB160.out) (by intro e;have:=Option.some.inj e;omega)).trans HB160.out
   clear HB159 HB160
   clear hN168 hs166 hg167 Hs154 Hg155
   obtain⟨nm171,hnm171⟩:∃q,t151++(⟨#[32]⟩:ByteArray)++t161=q:=⟨_,rfl⟩
   have hznm171:nm171.size≤20:=by rw[← hnm171,ByteArray.size_append,ByteArray.size_append];show t151.size+1+t161.size≤20;omega
   have m1:¬9223372036854775807<t151.size+1+t161.size:=by omega
   have Hnm171:=mkHid hnm171
   clear hnm171
   have hcq172:w163.cell? ⟨Bk,0,none⟩=some (.string ⟨#[]⟩):=by simp[World.cell?,HB170.out]
   have hfq172:w163.frozen? ⟨Bk,0,none⟩=false:=by simp[World.frozen?,HB170.out]
   have HBq172:Hid ((w163.setCell ⟨Bk,0,none⟩ (.string (t151++⟨#[32]⟩++t161))).heap[Bk]?=some (.cells #[.string (t151++⟨#[32]⟩++t161),.string t132,.string t110] 151 (0,0))):=by show _=_;simp[World.setCell,Array.getElem?_modify,HB170.out]
   have HRq172:Hid ((w163.setCell ⟨Bk,0,none⟩ (.string (t151++⟨#[32]⟩++t161))).heap[R]?=some (.cells #[.string ⟨#[]⟩,.string ⟨#[]⟩,.string ⟨#[]⟩] 151 (0,0))):=by show _=_;simp[World.setCell,Array.getElem?_modify,HB169.out,show Bk≠R by omega]
   have Hsq172:Hid (Src (w163.setCell ⟨Bk,0,none⟩ (.string (t151++⟨#[32]⟩++t161))) g o c.length cp a162 z):=Hs164.out.setC (by omega)
   have Hgq172:Hid (w.grownBy (w163.setCell ⟨Bk,0,none⟩ (.string (t151++⟨#[32]⟩++t161))) (some g)):=gr_setC Hg165.out hBkw
   go_wp2_with (first|(refine wpL_store_row rfl 151 _ _ rfl R _ rfl rfl 151 _ HRq172.out (by kernel_rfl) rfl (by simp[Value.oneCell']) ?_)|(refine wpL_load_row rfl 151 _ rfl Bk _ 151 (0,0) _ rfl HBq172.out Tryz.underlying151 rfl (by kernel_rfl) ?_))
   refine bodyPost_ret (v:=.agg #[.string (t151++⟨#[32]⟩++t161),.string t132,.string t110]) (results_cell_row Tryz.results136 _ _ R 151 _ (0,0) _ rfl (setRow_heap _ _ _ _ _ _ HRq172.out) Tryz.underlying151 rfl (by kernel_rfl)) rfl ?_
   exact⟨(t151++⟨#[32]⟩++t161),t132,t110,_,rfl,⟨by have:=Hnm171.out;have h9:=hznm171;rw[← this] at h9;exact h9,by omega,by omega⟩,by omega,Hsq172.out.setR (by omega),gr_setR Hgq172.out hRw⟩
  by_cases h0:v142=1
  ·skip
   have e0:((v142:Int)==0)=false:=beq_eq_false_iff_ne.2 (by omega)
   have e1:((v142:Int)==1)=true:=by rw[h0];rfl
   clear h0
   have hb157:∀cs,Below w143.heap.size w143 (w143.alloc (.cells cs 9)):=fun cs=>(Below.refl _ _).alloc (Nat.le_refl _) _
   have hN156:=fun cs=>srcN g o c cp (((a111+1)+1)+1) z 7 (w143.alloc (.cells cs 9)) (Hs144.out.below (hb157 cs)) (HC.out.grown (gr_trans Hg145.out (gr_below (hb157 cs))) (Nat.le_refl _)) (by omega) hl (by omega) (by omega)
   have hl160:g<w143.heap.size:=Hs144.out.lt
   go_wp2_with fail
   refine(hN156 _).mono ?_
   rintro e w151 ⟨v154,rfl,hv154,hs158,hg159⟩
   obtain⟨t155,hct155,hzt155⟩:=table_at (M:=6) hg159 hl160 (show v154<7 by omega) (by decide)
   have hlv154:v154<7:=by omega
   have hgg161:=gr_trans (gr_below (hb157 _)) hg159
   have Hs152:=mkHid hs158
   have Hg153:=mkHid (gr_trans Hg145.out hgg161)
   have HB162:Hid (w151.heap[R]?=some (.cells #[.string ⟨#[]⟩,.string ⟨#[]⟩,.string ⟨#[]⟩] 151 (0,0))):=(hgg161.block R (hp_lt HB149.out) (by intro e;have:=Option.some.inj e;omega)).trans HB149.out
   have HB163:Hid (w151.heap[Bk]?=some (.cells #[.string ⟨#[]⟩,.string t132,.string t110] 151 (0,0))):=(hgg161.block Bk (hp_lt HB150.out) (by intro e;have:=Option.some.inj e;omega)).trans HB150.out
   clear HB149 HB150
   clear hN156 hs158 hg159 hb157 hl160 hgg161 Hs144 Hg145
   have hcq164:w151.cell? ⟨Bk,0,none⟩=some (.string ⟨#[]⟩):=by simp[World.cell?,HB163.out]
   have hfq164:w151.frozen? ⟨Bk,0,none⟩=false:=by simp[World.frozen?,HB163.out]
   have HBq164:Hid ((w151.setCell ⟨Bk,0,none⟩ (.string t155)).heap[Bk]?=some (.cells #[.string t155,.string t132,.string t110] 151 (0,0))):=by show _=_;simp[World.setCell,Array.getElem?_modify,HB163.out]
   have HRq164:Hid ((w151.setCell ⟨Bk,0,none⟩ (.string t155)).heap[R]?=some (.cells #[.string ⟨#[]⟩,.string ⟨#[]⟩,.string ⟨#[]⟩] 151 (0,0))):=by show _=_;simp[World.setCell,Array.getElem?_modify,HB162.out,show Bk≠R by omega]
   have Hsq164:Hid (Src (w151.setCell ⟨Bk,0,none⟩ (.string t155)) g o c.length cp ((((a111+1)+1)+1)+1) z):=Hs152.out.setC (by omega)
   have Hgq164:Hid (w.grownBy (w151.setCell ⟨Bk,0,none⟩ (.string t155)) (some g)):=gr_setC Hg153.out hBkw
   go_wp2_with (first|(refine wpL_store_row rfl 151 _ _ rfl R _ rfl rfl 151 _ HRq164.out (by kernel_rfl) rfl (by simp[Value.oneCell']) ?_)|(refine wpL_load_row rfl 151 _ rfl Bk _ 151 (0,0) _ rfl HBq164.out Tryz.underlying151 rfl (by kernel_rfl) ?_))
   refine bodyPost_ret (v:=.agg #[.string t155,.string t132,.string t110]) (results_cell_row Tryz.results136 _ _ R 151 _ (0,0) _ rfl (setRow_heap _ _ _ _ _ _ HRq164.out) Tryz.underlying151 rfl (by kernel_rfl)) rfl ?_
   exact⟨t155,t132,t110,_,rfl,⟨by omega,by omega,by omega⟩,by omega,Hsq164.out.setR (by omega),gr_setR Hgq164.out hRw⟩
  by_cases h0:v142=2
  ·skip
   have e0:((v142:Int)==0)=false:=beq_eq_false_iff_ne.2 (by omega)
   have e1:((v142:Int)==1)=false:=beq_eq_false_iff_ne.2 (by omega)
   have e2:((v142:Int)==2)=true:=by rw[h0];rfl
   clear h0
   have hb157:∀cs,Below w143.heap.size w143 (w143.alloc (.cells cs 9)):=fun cs=>(Below.refl _ _).alloc (Nat.le_refl _) _
   have hN156:=fun cs=>srcN g o c cp (((a111+1)+1)+1) z 8 (w143.alloc (.cells cs 9)) (Hs144.out.below (hb157 cs)) (HC.out.grown (gr_trans Hg145.out (gr_below (hb157 cs))) (Nat.le_refl _)) (by omega) hl (by omega) (by omega)
   have hl160:g<w143.heap.size:=Hs144.out.lt
   go_wp2_with fail
   refine(hN156 _).mono ?_
   rintro e w151 ⟨v154,rfl,hv154,hs158,hg159⟩
   obtain⟨t155,hct155,hzt155⟩:=table_at (M:=5) hg159 hl160 (show v154<8 by omega) (by decide)
   have hlv154:v154<8:=by omega
   have hgg161:=gr_trans (gr_below (hb157 _)) hg159
   have Hs152:=mkHid hs158
   have Hg153:=mkHid (gr_trans Hg145.out hgg161)
   have HB162:Hid (w151.heap[R]?=some (.cells #[.string ⟨#[]⟩,.string ⟨#[]⟩,.string ⟨#[]⟩] 151 (0,0))):=(hgg161.block R (hp_lt HB149.out) (by intro e;have:=Option.some.inj e;omega)).trans HB149.out
   have HB163:Hid (w151.heap[Bk]?=some (.cells #[.string ⟨#[]⟩,.string t132,.string t110] 151 (0,0))):=(hgg161.block Bk (hp_lt HB150.out) (by intro e;have:=Option.some.inj e;omega)).trans HB150.out
   clear HB149 HB150
   clear hN156 hs158 hg159 hb157 hl160 hgg161 Hs144 Hg145
   have hcq164:w151.cell? ⟨Bk,1,none⟩=some (.string t132):=by simp[World.cell?,HB163.out]
   have hfq164:w151.frozen? ⟨Bk,1,none⟩=false:=by simp[World.frozen?,HB163.out]
   have HBq164:Hid ((w151.setCell ⟨Bk,1,none⟩ (.string t155)).heap[Bk]?=some (.cells #[.string ⟨#[]⟩,.string t155,.string t110] 151 (0,0))):=by show _=_;simp[World.setCell,Array.getElem?_modify,HB163.out]
   have HRq164:Hid ((w151.setCell ⟨Bk,1,none⟩ (.string t155)).heap[R]?=some (.cells #[.string ⟨#[]⟩,.string ⟨#[]⟩,.string ⟨#[]⟩] 151 (0,0))):=by show _=_;simp[World.setCell,Array.getElem?_modify,HB162.out,show Bk≠R by omega]
   have Hsq164:Hid (Src (w151.setCell ⟨Bk,1,none⟩ (.string t155)) g o c.length cp ((((a111+1)+1)+1)+1) z):=Hs152.out.setC (by omega)
   have Hgq164:Hid (w.grownBy (w151.setCell ⟨Bk,1,none⟩ (.string t155)) (some g)):=gr_setC Hg153.out hBkw
   go_wp2_with (first|(refine wpL_store_row rfl 151 _ _ rfl R _ rfl rfl 151 _ HRq164.out (by kernel_rfl) rfl (by simp[Value.oneCell']) ?_)|(refine wpL_load_row rfl 151 _ rfl Bk _ 151 (0,0) _ rfl HBq164.out Tryz.underlying151 rfl (by kernel_rfl) ?_))
   refine bodyPost_ret (v:=.agg #[.string ⟨#[]⟩,.string t155,.string t110]) (results_cell_row Tryz.results136 _ _ R 151 _ (0,0) _ rfl (setRow_heap _ _ _ _ _ _ HRq164.out) Tryz.underlying151 rfl (by kernel_rfl)) rfl ?_
   exact⟨⟨#[]⟩,t155,t110,_,rfl,⟨by decide,by omega,by omega⟩,by omega,Hsq164.out.setR (by omega),gr_setR Hgq164.out hRw⟩
  have e0:((v142:Int)==0)=false:=beq_eq_false_iff_ne.2 (by omega)
  have e1:((v142:Int)==1)=false:=beq_eq_false_iff_ne.2 (by omega)
  have e2:((v142:Int)==2)=false:=beq_eq_false_iff_ne.2 (by omega)
  go_wp2_with (first|(refine wpL_store_row rfl 151 _ _ rfl R _ rfl rfl 151 _ HB149.out (by kernel_rfl) rfl (by simp[Value.oneCell']) ?_)|(refine wpL_load_row rfl 151 _ rfl Bk _ 151 (0,0) _ rfl HB150.out Tryz.underlying151 rfl (by kernel_rfl) ?_))
  refine bodyPost_ret (v:=.agg #[.string ⟨#[]⟩,.string t132,.string t110]) (results_cell_row Tryz.results136 _ _ R 151 _ (0,0) _ rfl (setRow_heap _ _ _ _ _ _ HB149.out) Tryz.underlying151 rfl (by kernel_rfl)) rfl ?_
  exact⟨⟨#[]⟩,t132,t110,_,rfl,⟨by decide,by omega,by omega⟩,by omega,Hs144.out.setR (by omega),gr_setR Hg145.out hRw⟩
 | false=>
  have hN134:=srcN g o c cp (a111+1) z 6 w120 Hs121.out (HC.out.grown Hg122.out (Nat.le_refl _)) (by omega) hl (by omega) (by omega)
  go_wp2_with fail
  refine hN134.mono ?_
  rintro e w129 ⟨v128,rfl,hv128,hs132,hg133⟩
  have Hs130:=mkHid hs132
  have Hg131:=mkHid (gr_trans Hg122.out hg133)
  have HB135:Hid (w129.heap[R]?=some (.cells #[.string ⟨#[]⟩,.string ⟨#[]⟩,.string ⟨#[]⟩] 151 (0,0))):=(hg133.block R (hp_lt HB126.out) (by intro e;have:=Option.some.inj e;omega)).trans HB126.out
  have HB136:Hid (w129.heap[Bk]?=some (.cells #[.string ⟨#[]⟩,.string t101,.string t110] 151 (0,0))):=(hg133.block Bk (hp_lt HB127.out) (by intro e;have:=Option.some.inj e;omega)).trans HB127.out
  clear HB126 HB127
  clear hN134 hs132 hg133 Hs121 Hg122
  by_cases h0:v128=0
  ·skip
   have e0:((v128:Int)==0)=true:=by rw[h0];rfl
   clear h0
   have hN144:=srcWord g o c cp ((a111+1)+1) z w129 Hs130.out (HC.out.grown Hg131.out (Nat.le_refl _)) (by omega) hl
   go_wp2_with fail
   refine hN144.mono ?_
   rintro e w139 ⟨t137,a138,rfl,hzt137,ha138,hs142,hg143⟩
   have Hs140:=mkHid hs142
   have Hg141:=mkHid (gr_trans Hg131.out hg143)
   have HB145:Hid (w139.heap[R]?=some (.cells #[.string ⟨#[]⟩,.string ⟨#[]⟩,.string ⟨#[]⟩] 151 (0,0))):=(hg143.block R (hp_lt HB135.out) (by intro e;have:=Option.some.inj e;omega)).trans HB135.out
   have HB146:Hid (w139.heap[Bk]?=some (.cells #[.string ⟨#[]⟩,.string t101,.string t110] 151 (0,0))):=(hg143.block Bk (hp_lt HB136.out) (by intro e;have:=Option.some.inj e;omega)).trans HB136.out
   clear HB135 HB136
   clear hN144 hs142 hg143 Hs130 Hg131
   have m0:¬9223372036854775807<t137.size+1:=by omega
   have hN154:=srcWord g o c cp a138 z w139 Hs140.out (HC.out.grown Hg141.out (Nat.le_refl _)) (by omega) hl
   go_wp2_with fail
   refine hN154.mono ?_
   rintro e w149 ⟨t147,a148,rfl,hzt147,ha148,hs152,hg153⟩
   have Hs150:=mkHid hs152
   have Hg151:=mkHid (gr_trans Hg141.out hg153)
   have HB155:Hid (w149.heap[R]?=some (.cells #[.string ⟨#[]⟩,.string ⟨#[]⟩,.string ⟨#[]⟩] 151 (0,0))):=(hg153.block R (hp_lt HB145.out) (by intro e;have:=Option.some.inj e;omega)).trans HB145.out
   have HB156:Hid (w149.heap[Bk]?=some (.cells #[.string ⟨#[]⟩,.string t101,.string t110] 151 (0,0))):=(hg153.block Bk (hp_lt HB146.out) (by intro e;have:=Option.some.inj e;omega)).trans HB146.out
   clear HB145 HB146
   clear hN154 hs152 hg153 Hs140 Hg141
   obtain⟨nm157,hnm157⟩:∃q,t137++(⟨#[32]⟩:ByteArray)++t147=q:=⟨_,rfl⟩
   have hznm157:nm157.size≤20:=by rw[← hnm157,ByteArray.size_append,ByteArray.size_append];show t137.size+1+t147.size≤20;omega
   have m1:¬9223372036854775807<t137.size+1+t147.size:=by omega
   have Hnm157:=mkHid hnm157
   clear hnm157
   have hcq158:w149.cell? ⟨Bk,0,none⟩=some (.string ⟨#[]⟩):=by simp[World.cell?,HB156.out]
   have hfq158:w149.frozen? ⟨Bk,0,none⟩=false:=by simp[World.frozen?,HB156.out]
   have HBq158:Hid ((w149.setCell ⟨Bk,0,none⟩ (.string (t137++⟨#[32]⟩++t147))).heap[Bk]?=some (.cells #[.string (t137++⟨#[32]⟩++t147),.string t101,.string t110] 151 (0,0))):=by show _=_;simp[World.setCell,Array.getElem?_modify,HB156.out]
   have HRq158:Hid ((w149.setCell ⟨Bk,0,none⟩ (.string (t137++⟨#[32]⟩++t147))).heap[R]?=some (.cells #[.string ⟨#[]⟩,.string ⟨#[]⟩,.string ⟨#[]⟩] 151 (0,0))):=by show _=_;simp[World.setCell,Array.getElem?_modify,HB155.out,show Bk≠R by omega]
   have Hsq158:Hid (Src (w149.setCell ⟨Bk,0,none⟩ (.string (t137++⟨#[32]⟩++t147))) g o c.length cp a148 z):=Hs150.out.setC (by omega)
   have Hgq158:Hid (w.grownBy (w149.setCell ⟨Bk,0,none⟩ (.string (t137++⟨#[32]⟩++t147))) (some g)):=gr_setC Hg151.out hBkw
   go_wp2_with (first|(refine wpL_store_row rfl 151 _ _ rfl R _ rfl rfl 151 _ HRq158.out (by kernel_rfl) rfl (by simp[Value.oneCell']) ?_)|(refine wpL_load_row rfl 151 _ rfl Bk _ 151 (0,0) _ rfl HBq158.out Tryz.underlying151 rfl (by kernel_rfl) ?_))
   refine bodyPost_ret (v:=.agg #[.string (t137++⟨#[32]⟩++t147),.string t101,.string t110]) (results_cell_row Tryz.results136 _ _ R 151 _ (0,0) _ rfl (setRow_heap _ _ _ _ _ _ HRq158.out) Tryz.underlying151 rfl (by kernel_rfl)) rfl ?_
   exact⟨(t137++⟨#[32]⟩++t147),t101,t110,_,rfl,⟨by have:=Hnm157.out;have h9:=hznm157;rw[← this] at h9;exact h9,by omega,by omega⟩,by omega,Hsq158.out.setR (by omega),gr_setR Hgq158.out hRw⟩
  by_cases h0:v128=1
  ·skip
   have e0:((v128:Int)==0)=false:=beq_eq_false_iff_ne.2 (by omega)
   have e1:((v128:Int)==1)=true:=by rw[h0];rfl
   clear h0
   have hb143:∀cs,Below w129.heap.size w129 (w129.alloc (.cells cs 9)):=fun cs=>(Below.refl _ _).alloc (Nat.le_refl _) _
   have hN142:=fun cs=>srcN g o c cp ((a111+1)+1) z 7 (w129.alloc (.cells cs 9)) (Hs130.out.below (hb143 cs)) (HC.out.grown (gr_trans Hg131.out (gr_below (hb143 cs))) (Nat.le_refl _)) (by omega) hl (by omega) (by omega)
   have hl146:g<w129.heap.size:=Hs130.out.lt
   go_wp2_with fail
   refine(hN142 _).mono ?_
   rintro e w137 ⟨v140,rfl,hv140,hs144,hg145⟩
   obtain⟨t141,hct141,hzt141⟩:=table_at (M:=6) hg145 hl146 (show v140<7 by omega) (by decide)
   have hlv140:v140<7:=by omega
   have hgg147:=gr_trans (gr_below (hb143 _)) hg145
   have Hs138:=mkHid hs144
   have Hg139:=mkHid (gr_trans Hg131.out hgg147)
   have HB148:Hid (w137.heap[R]?=some (.cells #[.string ⟨#[]⟩,.string ⟨#[]⟩,.string ⟨#[]⟩] 151 (0,0))):=(hgg147.block R (hp_lt HB135.out) (by intro e;have:=Option.some.inj e;omega)).trans HB135.out
   have HB149:Hid (w137.heap[Bk]?=some (.cells #[.string ⟨#[]⟩,.string t101,.string t110] 151 (0,0))):=(hgg147.block Bk (hp_lt HB136.out) (by intro e;have:=Option.some.inj e;omega)).trans HB136.out
   clear HB135 HB136
   clear hN142 hs144 hg145 hb143 hl146 hgg147 Hs130 Hg131
   have hcq150:w137.cell? ⟨Bk,0,none⟩=some (.string ⟨#[]⟩):=by simp[World.cell?,HB149.out]
   have hfq150:w137.frozen? ⟨Bk,0,none⟩=false:=by simp[World.frozen?,HB149.out]
   have HBq150:Hid ((w137.setCell ⟨Bk,0,none⟩ (.string t141)).heap[Bk]?=some (.cells #[.string t141,.string t101,.string t110] 151 (0,0))):=by show _=_;simp[World.setCell,Array.getElem?_modify,HB149.out]
   have HRq150:Hid ((w137.setCell ⟨Bk,0,none⟩ (.string t141)).heap[R]?=some (.cells #[.string ⟨#[]⟩,.string ⟨#[]⟩,.string ⟨#[]⟩] 151 (0,0))):=by show _=_;simp[World.setCell,Array.getElem?_modify,HB148.out,show Bk≠R by omega]
   have Hsq150:Hid (Src (w137.setCell ⟨Bk,0,none⟩ (.string t141)) g o c.length cp (((a111+1)+1)+1) z):=Hs138.out.setC (by omega)
   have Hgq150:Hid (w.grownBy (w137.setCell ⟨Bk,0,none⟩ (.string t141)) (some g)):=gr_setC Hg139.out hBkw
   go_wp2_with (first|(refine wpL_store_row rfl 151 _ _ rfl R _ rfl rfl 151 _ HRq150.out (by kernel_rfl) rfl (by simp[Value.oneCell']) ?_)|(refine wpL_load_row rfl 151 _ rfl Bk _ 151 (0,0) _ rfl HBq150.out Tryz.underlying151 rfl (by kernel_rfl) ?_))
   refine bodyPost_ret (v:=.agg #[.string t141,.string t101,.string t110]) (results_cell_row Tryz.results136 _ _ R 151 _ (0,0) _ rfl (setRow_heap _ _ _ _ _ _ HRq150.out) Tryz.underlying151 rfl (by kernel_rfl)) rfl ?_
   exact⟨t141,t101,t110,_,rfl,⟨by omega,by omega,by omega⟩,by omega,Hsq150.out.setR (by omega),gr_setR Hgq150.out hRw⟩
  by_cases h0:v128=2
  ·skip
   have e0:((v128:Int)==0)=false:=beq_eq_false_iff_ne.2 (by omega)
   have e1:((v128:Int)==1)=false:=beq_eq_false_iff_ne.2 (by omega)
   have e2:((v128:Int)==2)=true:=by rw[h0];rfl
   clear h0
   have hb143:∀cs,Below w129.heap.size w129 (w129.alloc (.cells cs 9)):=fun cs=>(Below.refl _ _).alloc (Nat.le_refl _) _
   have hN142:=fun cs=>srcN g o c cp ((a111+1)+1) z 8 (w129.alloc (.cells cs 9)) (Hs130.out.below (hb143 cs)) (HC.out.grown (gr_trans Hg131.out (gr_below (hb143 cs))) (Nat.le_refl _)) (by omega) hl (by omega) (by omega)
   have hl146:g<w129.heap.size:=Hs130.out.lt
   go_wp2_with fail
   refine(hN142 _).mono ?_
   rintro e w137 ⟨v140,rfl,hv140,hs144,hg145⟩
   obtain⟨t141,hct141,hzt141⟩:=table_at (M:=5) hg145 hl146 (show v140<8 by omega) (by decide)
   have hlv140:v140<8:=by omega
   have hgg147:=gr_trans (gr_below (hb143 _)) hg145
   have Hs138:=mkHid hs144
   have Hg139:=mkHid (gr_trans Hg131.out hgg147)
   have HB148:Hid (w137.heap[R]?=some (.cells #[.string ⟨#[]⟩,.string ⟨#[]⟩,.string ⟨#[]⟩] 151 (0,0))):=(hgg147.block R (hp_lt HB135.out) (by intro e;have:=Option.some.inj e;omega)).trans HB135.out
   have HB149:Hid (w137.heap[Bk]?=some (.cells #[.string ⟨#[]⟩,.string t101,.string t110] 151 (0,0))):=(hgg147.block Bk (hp_lt HB136.out) (by intro e;have:=Option.some.inj e;omega)).trans HB136.out
   clear HB135 HB136
   clear hN142 hs144 hg145 hb143 hl146 hgg147 Hs130 Hg131
   have hcq150:w137.cell? ⟨Bk,1,none⟩=some (.string t101):=by simp[World.cell?,HB149.out]
   have hfq150:w137.frozen? ⟨Bk,1,none⟩=false:=by simp[World.frozen?,HB149.out]
   have HBq150:Hid ((w137.setCell ⟨Bk,1,none⟩ (.string t141)).heap[Bk]?=some (.cells #[.string ⟨#[]⟩,.string t141,.string t110] 151 (0,0))):=by show _=_;simp[World.setCell,Array.getElem?_modify,HB149.out]
   have HRq150:Hid ((w137.setCell ⟨Bk,1,none⟩ (.string t141)).heap[R]?=some (.cells #[.string ⟨#[]⟩,.string ⟨#[]⟩,.string ⟨#[]⟩] 151 (0,0))):=by show _=_;simp[World.setCell,Array.getElem?_modify,HB148.out,show Bk≠R by omega]
   have Hsq150:Hid (Src (w137.setCell ⟨Bk,1,none⟩ (.string t141)) g o c.length cp (((a111+1)+1)+1) z):=Hs138.out.setC (by omega)
   have Hgq150:Hid (w.grownBy (w137.setCell ⟨Bk,1,none⟩ (.string t141)) (some g)):=gr_setC Hg139.out hBkw
   go_wp2_with (first|(refine wpL_store_row rfl 151 _ _ rfl R _ rfl rfl 151 _ HRq150.out (by kernel_rfl) rfl (by simp[Value.oneCell']) ?_)|(refine wpL_load_row rfl 151 _ rfl Bk _ 151 (0,0) _ rfl HBq150.out Tryz.underlying151 rfl (by kernel_rfl) ?_))
   refine bodyPost_ret (v:=.agg #[.string ⟨#[]⟩,.string t141,.string t110]) (results_cell_row Tryz.results136 _ _ R 151 _ (0,0) _ rfl (setRow_heap _ _ _ _ _ _ HRq150.out) Tryz.underlying151 rfl (by kernel_rfl)) rfl ?_
   exact⟨⟨#[]⟩,t141,t110,_,rfl,⟨by decide,by omega,by omega⟩,by omega,Hsq150.out.setR (by omega),gr_setR Hgq150.out hRw⟩
  have e0:((v128:Int)==0)=false:=beq_eq_false_iff_ne.2 (by omega)
  have e1:((v128:Int)==1)=false:=beq_eq_false_iff_ne.2 (by omega)
  have e2:((v128:Int)==2)=false:=beq_eq_false_iff_ne.2 (by omega)
  go_wp2_with (first|(refine wpL_store_row rfl 151 _ _ rfl R _ rfl rfl 151 _ HB135.out (by kernel_rfl) rfl (by simp[Value.oneCell']) ?_)|(refine wpL_load_row rfl 151 _ rfl Bk _ 151 (0,0) _ rfl HB136.out Tryz.underlying151 rfl (by kernel_rfl) ?_))
  refine bodyPost_ret (v:=.agg #[.string ⟨#[]⟩,.string t101,.string t110]) (results_cell_row Tryz.results136 _ _ R 151 _ (0,0) _ rfl (setRow_heap _ _ _ _ _ _ HB135.out) Tryz.underlying151 rfl (by kernel_rfl)) rfl ?_
  exact⟨⟨#[]⟩,t101,t110,_,rfl,⟨by decide,by omega,by omega⟩,by omega,Hs130.out.setR (by omega),gr_setR Hg131.out hRw⟩
structure Bx3 where
 n:ByteArray
 l:ByteArray
 d:ByteArray
def Bx3.ok (b:Bx3):Prop:=b.n.size≤20∧b.l.size≤20∧b.d.size≤20
def bxC (b:Bx3):List Value:=[.string b.n,.string b.l,.string b.d]
def bxCells (L:List Bx3):List Value:=L.flatMap bxC
theorem bxCells_len (L:List Bx3):(bxCells L).length=L.length*3:=by
 induction L with
 | nil=>rfl
 | cons r t ih=>simp only[bxCells,bxC,List.flatMap_cons,List.length_append,List.length_cons,List.length_nil] at ih ⊢;omega
theorem bxCells_join (L R:List Bx3):bxCells (L++R)=bxCells L++bxCells R:=by simp[bxCells]
theorem bxCells_at (E:List Bx3):∀(i:Nat)(h:i<E.length),(bxCells E)[i*3]?=some (.string E[i].n)∧(bxCells E)[i*3+1]?=some (.string E[i].l)∧(bxCells E)[i*3+2]?=some (.string E[i].d):=by
 induction E with
 | nil=>intro i h;exact absurd h (Nat.not_lt_zero _)
 | cons r t ih=>
  intro i h
  have e:bxCells (r::t)=.string r.n :: .string r.l :: .string r.d::bxCells t:=rfl
  rw[e]
  cases i with
  | zero=>exact⟨rfl,rfl,rfl⟩
  | succ i=>
   have:=ih i (by simpa using h)
   rw[show(i+1)*3=i*3+1+1+1 by omega]
   simpa using this
def OwnB (B:Nat)(v:Value)(L:List Bx3)(w:World):Prop:=w.ownsRow B 151 3 v L.length (bxCells L)
theorem OwnB.nil (B:Nat)(w:World):OwnB B (.slice none 0 0) [] w:=World.ownsRow_nil w B _ 3
theorem OwnB.shape {B:Nat} {v:Value} {F:List Bx3} {w:World} (h:OwnB B v F w):∃o c,v=.slice o F.length c:=by
 rcases h.2 with ⟨hv,h0⟩|⟨g,cap,cur,hv,_⟩
 ·exact⟨none,0,by rw[hv,h0]⟩
 ·exact⟨_,_,hv⟩
theorem OwnB.base {B B':Nat} {v:Value} {F:List Bx3} {w:World} (h:OwnB B v F w)(hB:B'≤B):OwnB B' v F w:=by
 refine⟨h.1,?_⟩
 rcases h.2 with h0|⟨g,cap,cur,hv,hg,hr⟩
 ·exact .inl h0
 ·exact .inr ⟨g,cap,cur,hv,Nat.le_trans hB hg,hr⟩
theorem OwnB.same {B:Nat} {v:Value} {F:List Bx3} {w w':World} (h:OwnB B v F w)(hs:Same B w.heap.size w w'):OwnB B v F w':=row_same h hs
theorem OwnB.below {B:Nat} {v:Value} {F:List Bx3} {w w':World} (h:OwnB B v F w)(hb:Below w.heap.size w w'):OwnB B v F w':=h.same (Same.of_below hb (Nat.le_refl _))
theorem OwnB.cellsAt {B:Nat} {oo:Option Addr} {cc:Nat} {F:List Bx3} {w:World} (h:OwnB B (.slice oo F.length cc) F w)(hn:0<F.length):∃gL,B≤gL∧gL<w.heap.size∧oo=some ⟨gL,0,none⟩∧∀j (hj:j<F.length),w.cell? ⟨gL,j*3,none⟩=some (.string F[j].n)∧w.cell? ⟨gL,j*3+1,none⟩=some (.string F[j].l)∧w.cell? ⟨gL,j*3+2,none⟩=some (.string F[j].d):=by
 rcases h.2 with ⟨h1,h0⟩|⟨g,cap',cur,h1,-⟩
 ·omega
 ·simp only[Value.slice.injEq] at h1
  obtain⟨rfl,-⟩:=h1
  have hl:=World.ownsRow.lt h g rfl
  refine⟨g,hl.1,hl.2,rfl,fun j hj=>?_⟩
  have k:=fun q u hu=>World.ownsRow.cells h (g:=g) rfl q u hu
  have e:∀q,((⟨g,0,none⟩:Addr).add q)=⟨g,q,none⟩:=fun q=>by rw[Addr.add_lit,Nat.zero_add]
  obtain⟨k0,k1,k2⟩:=bxCells_at F j hj
  have a0:=k _ _ k0
  have a1:=k _ _ k1
  have a2:=k _ _ k2
  rw[e] at a0 a1 a2
  exact⟨a0,a1,a2⟩
theorem Tryz.infoBx:(Tryz.prog.info? 151).map (fun i=>(i.zero,i.size,i.bytes))=some (some (.agg #[.string ⟨#[]⟩,.string ⟨#[]⟩,.string ⟨#[]⟩]),3,48):=by kernel_rfl
theorem opAppB {w:World} {o:Oper} {a:Act} {K:Act→World→Prop} {Q:Exit→Act→World→Prop} (s x:Operand)
  (ho:o.op=.call { callee:=.builtin .append,args:=#[s,x],argTypes:=#[152,152] })
  (B:Nat) (v:Value) (C:List Bx3) (hs:a.eval s=v) (hown:OwnB B v C w) (R:List Bx3) (ad:Addr) (n c:Nat) (hx:a.eval x=.slice (some ad) n c) (hn:n=R.length) (hR:∀j u,(bxCells R)[j]?=some u→w.cell? (ad.add j)=some u) (hlen:C.length+R.length≤10000) (hB:B≤w.heap.size)
  (h:∀v' w',OwnB B v' (C++R) w'→w.grownBy w' v.ownBlock→K (a.put o.dst v') w'):o.wp Tryz.prog a w K Q:=by
 obtain⟨i0,hi0,hz0,hz1,hz2⟩:=info_parts Tryz.infoBx
 subst hn
 unfold OwnB at hown
 have hone:∀u ∈ bxCells R,u.oneCell'=true:=by
  intro u hu
  simp only[bxCells,List.mem_flatMap] at hu
  obtain⟨m,_,hm⟩:=hu
  simp[bxC] at hm
  rcases hm with rfl|rfl|rfl<;>rfl
 obtain⟨v',w',hr,h2,h3,h4,h5⟩:=run_append_own_at (P:=Tryz.prog) w B 152 o.type 151 i0 _ 3 48 Tryz.underlying152 hi0 hz0 hz1 hz2 rfl (by decide) v C.length (bxCells C) hown ad R.length c (bxCells R) (bxCells_len R) hR hone (by unfold maxLen;omega) (by omega) hB
 unfold Oper.wp execOp
 simp only[ho,resolve,invoke,builtin,Sem.run_bind,Sem.run_pure,Result.andThen_ok,List.map_toArray,List.map_cons,List.map_nil,hs,hx,hr]
 refine h v' w' ?_ h3
 unfold OwnB
 rw[bxCells_join,List.length_append]
 exact h2
structure En where
 grp:Bool
 nm:ByteArray
 n:ByteArray
 l:ByteArray
 d:ByteArray
 mem:List Bx3
def En.ok (e:En):Prop:=e.nm.size≤20∧(e.n.size≤20∧e.l.size≤20∧e.d.size≤20)∧e.mem.length≤3∧∀b ∈ e.mem,b.ok
abbrev EnE:=En × Value
def enC (e:EnE):List Value:=[.bool e.1.grp,.string e.1.nm,.string e.1.n,.string e.1.l,.string e.1.d,e.2]
def enCells (E:List EnE):List Value:=E.flatMap enC
theorem enCells_len (L:List EnE):(enCells L).length=L.length*6:=by
 induction L with
 | nil=>rfl
 | cons r t ih=>simp only[enCells,enC,List.flatMap_cons,List.length_append,List.length_cons,List.length_nil] at ih ⊢;omega
theorem enCells_join (L R:List EnE):enCells (L++R)=enCells L++enCells R:=by simp[enCells]
theorem enCells_at (E:List EnE):∀(i:Nat)(h:i<E.length),(enCells E)[i*6]?=some (.bool E[i].1.grp)∧(enCells E)[i*6+1]?=some (.string E[i].1.nm)∧(enCells E)[i*6+2]?=some (.string E[i].1.n)∧(enCells E)[i*6+3]?=some (.string E[i].1.l)∧(enCells E)[i*6+4]?=some (.string E[i].1.d)∧(enCells E)[i*6+5]?=some E[i].2:=by
 induction E with
 | nil=>intro i h;exact absurd h (Nat.not_lt_zero _)
 | cons r t ih=>
  intro i h
  have e:enCells (r::t)=.bool r.1.grp :: .string r.1.nm :: .string r.1.n :: .string r.1.l :: .string r.1.d::r.2::enCells t:=rfl
  rw[e]
  cases i with
  | zero=>exact⟨rfl,rfl,rfl,rfl,rfl,rfl⟩
  | succ i=>
   have:=ih i (by simpa using h)
   rw[show(i+1)*6=i*6+1+1+1+1+1+1 by omega]
   simpa using this
structure Ens (B:Nat)(v:Value)(E:List EnE)(w:World):Prop where
 row:w.ownsRow B 154 6 v E.length (enCells E)
 own:∀e ∈ E,OwnB B e.2 e.1.mem w
theorem Ens.made (B:Nat)(w:World)(hB:B≤w.heap.size):Ens B (.slice (some ⟨w.heap.size,0,none⟩) 0 0) [] (w.alloc (.cells #[] 154)):=
 ⟨⟨rfl,.inr ⟨w.heap.size,0,#[],rfl,hB,hp_alloc _ _,Nat.le_refl _,Nat.zero_le _,rfl,rfl⟩⟩,fun _ h=>by simp at h⟩
theorem Ens.shape {B:Nat} {v:Value} {F:List EnE} {w:World} (h:Ens B v F w):∃o c,v=.slice o F.length c:=by
 rcases h.row.2 with ⟨hv,h0⟩|⟨g,cap,cur,hv,_⟩
 ·exact⟨none,0,by rw[hv,h0]⟩
 ·exact⟨_,_,hv⟩
theorem Ens.same {B:Nat} {v:Value} {E:List EnE} {w w':World} (h:Ens B v E w)(hs:Same B w.heap.size w w'):Ens B v E w':=
 ⟨row_same h.row hs,fun e he=>(h.own e he).same hs⟩
theorem Ens.below {B:Nat} {v:Value} {E:List EnE} {w w':World} (h:Ens B v E w)(hb:Below w.heap.size w w'):Ens B v E w':=h.same (Same.of_below hb (Nat.le_refl _))
theorem Ens.gr {B g:Nat} {v:Value} {E:List EnE} {w w':World} (h:Ens B v E w)(hg:w.grownBy w' (some g))(hB:g<B):Ens B v E w':=h.same (Same.gr hg hB (Nat.le_refl _))
theorem Ens.cellsAt {B:Nat} {oo:Option Addr} {cc:Nat} {F:List EnE} {w:World} (h:Ens B (.slice oo F.length cc) F w)(hn:0<F.length):∃gL,gL<w.heap.size∧oo=some ⟨gL,0,none⟩∧∀j (hj:j<F.length),w.cell? ⟨gL,j*6,none⟩=some (.bool F[j].1.grp)∧w.cell? ⟨gL,j*6+1,none⟩=some (.string F[j].1.nm)∧w.cell? ⟨gL,j*6+2,none⟩=some (.string F[j].1.n)∧w.cell? ⟨gL,j*6+3,none⟩=some (.string F[j].1.l)∧w.cell? ⟨gL,j*6+4,none⟩=some (.string F[j].1.d)∧w.cell? ⟨gL,j*6+5,none⟩=some F[j].2:=by
 rcases h.row.2 with ⟨h1,h0⟩|⟨g,cap',cur,h1,-⟩
 ·omega
 ·simp only[Value.slice.injEq] at h1
  obtain⟨rfl,-⟩:=h1
  have hl:=World.ownsRow.lt h.row g rfl
  refine⟨g,hl.2,rfl,fun j hj=>?_⟩
  have k:=fun q u hu=>World.ownsRow.cells h.row (g:=g) rfl q u hu
  have e:∀q,((⟨g,0,none⟩:Addr).add q)=⟨g,q,none⟩:=fun q=>by rw[Addr.add_lit,Nat.zero_add]
  obtain⟨k0,k1,k2,k3,k4,k5⟩:=enCells_at F j hj
  have a0:=k _ _ k0
  have a1:=k _ _ k1
  have a2:=k _ _ k2
  have a3:=k _ _ k3
  have a4:=k _ _ k4
  have a5:=k _ _ k5
  rw[e] at a0 a1 a2 a3 a4 a5
  exact⟨a0,a1,a2,a3,a4,a5⟩
theorem Tryz.infoEn:(Tryz.prog.info? 154).map (fun i=>(i.zero,i.size,i.bytes))=some (some (.agg #[.bool false,.string ⟨#[]⟩,.string ⟨#[]⟩,.string ⟨#[]⟩,.string ⟨#[]⟩,.slice none 0 0]),6,96):=by kernel_rfl
theorem wp_appEn {w:World} {ops:Array Oper} {rest:List Oper} {o:Oper} {a:Act} {Q:Exit→Act→World→Prop} (hgd:o.guard=none)(s x:Operand)
  (ho:o.op=.call { callee:=.builtin .append,args:=#[s,x],argTypes:=#[110,110] })
  (B:Nat) (v:Value) (C:List EnE) (hs:a.eval s=v) (hown:Ens B v C w) (R:List EnE) (ad:Addr)
  (n c:Nat) (hx:a.eval x=.slice (some ad) n c) (hn:n=R.length) (hR:∀j u,(enCells R)[j]?=some u→w.cell? (ad.add j)=some u) (hRo:∀e ∈ R,OwnB B e.2 e.1.mem w) (hlen:C.length+R.length≤10000) (hB:B≤w.heap.size)
  (h:∀v' w',Ens B v' (C++R) w'→w.grownBy w' v.ownBlock→wpList Tryz.prog ops Q rest (a.put o.dst v') w'):wpList Tryz.prog ops Q (o::rest) a w:=by
 obtain⟨i0,hi0,hz0,hz1,hz2⟩:=info_parts Tryz.infoEn
 subst hn
 have hone:∀u ∈ enCells R,u.oneCell'=true:=by
  intro u hu
  simp only[enCells,List.mem_flatMap] at hu
  obtain⟨m,hm0,hm⟩:=hu
  obtain⟨oo,cc,hv⟩:=(hRo m hm0).shape
  simp[enC] at hm
  rcases hm with rfl|rfl|rfl|rfl|rfl|rfl
  ·rfl
  ·rfl
  ·rfl
  ·rfl
  ·rfl
  ·rw[hv];rfl
 refine wpList_append_own _ hgd s x 110 ho B 154 i0 _ 6 96 Tryz.underlying110 hi0 hz0 hz1 hz2 rfl (by decide) v C.length (enCells C) hs hown.row ad R.length c (enCells R) hx
  (enCells_len R) hR hone (by unfold maxLen;omega) (by omega) hB ?_
 intro v' w' h1 h2 _
 refine h v' w' ⟨?_,?_⟩ h2
 ·rw[enCells_join,List.length_append]
  exact h1
 ·intro e he
  have hx0:OwnB B e.2 e.1.mem w:=by
   rcases List.mem_append.1 he with he|he
   ·exact hown.own e he
   ·exact hRo e he
  exact World.ownsRow.kept hx0 h2 (own_apartA (show w.ownsRow B 151 3 _ _ _ from hx0) hown.row (by decide))
end Go.Proofs.YtacaoiedcfelcaaGreatDoor
