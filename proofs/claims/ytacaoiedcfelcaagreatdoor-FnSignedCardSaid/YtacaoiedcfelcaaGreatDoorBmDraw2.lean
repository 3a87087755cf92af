import Derived.Test.YtacaoiedcfelcaaGreatDoorBmValB
import Derived.Test.YtacaoiedcfelcaaGreatDoorBmMem
import Derived.Test.YtacaoiedcfelcaaGreatDoorAnyVals
import Derived.Test.YtacaoiedcfelcaaGreatDoorTexts
import Derived.Test.YtacaoiedcfelcaaGreatDoorScan
import Derived.Deep.CutBlock
import Derived.Deep.DeepCutAuto
import Derived.Deep.Cut
set_option maxRecDepth 20000
namespace Go.Proofs.YtacaoiedcfelcaaGreatDoor
open Go.RowKit Go.Lib Go.Maps
namespace Bm
theorem rnb {w:World} {B Bk sz n:Nat} {v:Value} {xs:List Value} {cs:Array Value} {t e:TypeId} {fz:Nat × Nat} (h:w.ownsRow B e sz v n xs)(hb:w.heap[Bk]?=some (.cells cs t fz))(ht:t≠e):∀k,v.ownBlock=some k→k≠Bk:=by
 intro k hk e2
 subst e2
 rcases h.2 with ⟨rfl,-⟩|⟨g,cap,cur,rfl,-,hg,-⟩
 ·cases hk
 ·cases hk
  rw[hb] at hg
  simp at hg
  exact ht hg.2.1
theorem setOther {w:World} {b j k:Nat} {v:Value} (h:k≠b):(w.setCell ⟨b,j,none⟩ v).heap[k]?=w.heap[k]?:=by
 simp[World.setCell,Array.getElem?_modify,show b≠k from fun e=>h e.symm]
theorem opAppQ {w:World} {o:Oper} {a:Act} {K:Act→World→Prop} {Q:Exit→Act→World→Prop} (s x:Operand)
  (ho:o.op=.call { callee:=.builtin .append,args:=#[s,x],argTypes:=#[139,139] })
  (B:Nat) (v:Value) (C:List Fd) (hs:a.eval s=v) (hown:OwnQ B v C w) (n t:ByteArray) (b c:Nat) (hx:a.eval x=.slice (some ⟨b,0,none⟩) 1 c) (hb:w.heap[b]?=some (.cells #[.string n,.string t] 180 (0,0))) (hlen:C.length≤1000) (hB:B≤w.heap.size)
  (h:∀v' w',OwnQ B v' (C ++ [(n,t)]) w'→w.grownBy w' v.ownBlock→K (a.put o.dst v') w'):o.wp Tryz.prog a w K Q:=by
 obtain⟨i0,hi0,hz0,hz1,hz2⟩:=info_parts Tryz.infoQ
 unfold OwnQ at hown
 obtain⟨v',w',hr,h2,h3,h4,h5⟩:=run_append_own_at (P:=Tryz.prog) w B 139 o.type 180 i0 _ 2 32 Tryz.underlying139 hi0 hz0 hz1 hz2 rfl (by decide) v C.length (fdCells C) hown ⟨b,0,none⟩ 1 c (fdCells [(n,t)]) rfl (by
  intro j u hj
  rw[Addr.add_lit,Nat.zero_add]
  match j,hj with
  | 0,hj=>cases hj;simp[World.cell?,hb]
  | 1,hj=>cases hj;simp[World.cell?,hb]) (fd_one _) (by unfold maxLen;omega) (by omega) hB
 unfold Oper.wp execOp
 simp only[ho,resolve,invoke,builtin,Sem.run_bind,Sem.run_pure,Result.andThen_ok,List.map_toArray,List.map_cons,List.map_nil,hs,hx,hr]
 refine h v' w' ?_ h3
 unfold OwnQ
 rw[fdCells_join,List.length_append]
 exact h2
structure CtFit (T S:ByteArray)(F:List Fd)(n:Nat):Prop where
 t:T.size≤100
 s:S.size≤100
 n:F.length≤n
 p:∀f ∈ F,f.1.size≤9∧f.2.size≤160
def CtIn (w:World)(g:Nat)(o:Option Addr)(cl cp z A Bk:Nat)(T S:ByteArray)(v:Value)(F:List Fd)(wx:World):Prop:=
 ∃ a',a'≤A∧w.heap.size<Bk∧wx.heap[Bk]?=some (.cells #[.string T,.string S,v] 141 (0,0))∧OwnQ w.heap.size v F wx∧wx.heap[w.heap.size]?=some (.cells #[.string ⟨#[]⟩,.string ⟨#[]⟩,.slice none 0 0] 141 (0,0))∧Src wx g o cl cp a' z∧w.grownBy wx (some g)
def CtAt (w:World)(g:Nat)(o:Option Addr)(cl cp z A n Bk:Nat)(wx:World):Prop:=∃T S v F,CtFit T S F n∧CtIn w g o cl cp z A Bk T S v F wx
theorem CtIn.gone {w wx wq:World} {g cl cp z A Bk q:Nat} {o:Option Addr} {T S:ByteArray} {v:Value} {F:List Fd} (h:CtIn w g o cl cp z A Bk T S v F wx)(hgl:g<w.heap.size)(hG:GoneBy wx g o cl cp A z q wq):CtIn w g o cl cp z (A+q) Bk T S v F wq:=by
 obtain⟨a',h1,h2,h3,h4,h5,h6,h7⟩:=h
 obtain⟨hgr,a2,ha2,hs2⟩:=hG
 exact⟨a2,ha2,h2,(hgr.block Bk (hp_lt h3) (by intro e;have:=Option.some.inj e;omega)).trans h3,h4.gr hgr hgl,(hgr.block _ (hp_lt h5) (by intro e;have:=Option.some.inj e;omega)).trans h5,hs2,gr_trans h7 hgr⟩
theorem CtIn.below {w wx wq:World} {g cl cp z A Bk:Nat} {o:Option Addr} {T S:ByteArray} {v:Value} {F:List Fd} (h:CtIn w g o cl cp z A Bk T S v F wx)(hb:Below wx.heap.size wx wq):CtIn w g o cl cp z A Bk T S v F wq:=by
 obtain⟨a',h1,h2,h3,h4,h5,h6,h7⟩:=h
 exact⟨a',h1,h2,(hb.block Bk (hp_lt h3)).trans h3,h4.below hb,(hb.block _ (hp_lt h5)).trans h5,h6.below hb,gr_trans h7 (gr_below hb)⟩
theorem CtIn.push {w wx w':World} {g cl cp z A Bk:Nat} {o:Option Addr} {T S:ByteArray} {v v':Value} {F F':List Fd} (h:CtIn w g o cl cp z A Bk T S v F wx)(hgl:g<w.heap.size)(hO:OwnQ w.heap.size v' F' w')(hG:wx.grownBy w' v.ownBlock) :
  w'.cell? ⟨Bk,2,none⟩=some v∧w'.frozen? ⟨Bk,2,none⟩=false∧CtIn w g o cl cp z A Bk T S v' F' (w'.setCell ⟨Bk,2,none⟩ v'):=by
 obtain⟨a',h1,h2,h3,h4,h5,h6,h7⟩:=h
 have hb:=rnb h4 h3 (by decide)
 have hr:=rnb h4 h5 (by decide)
 have h3':=(hG.block Bk (hp_lt h3) (fun e=>hb Bk e.symm rfl)).trans h3
 have h5':=(hG.block _ (hp_lt h5) (fun e=>hr _ e.symm rfl)).trans h5
 have hlow:∀k,v.ownBlock=some k→w.heap.size≤k:=fun k hk=>(World.ownsRow.lt h4 k hk).1
 refine⟨by simp[World.cell?,h3'],by simp[World.frozen?,h3'],a',h1,h2,by simp[World.setCell,Array.getElem?_modify,h3'],row_stay hO fun k hk=>setOther (rnb hO h3' (by decide) k hk),(setOther (by omega)).trans h5',(h6.row hG (fun k hk=>by have:=hlow k hk;omega)).setC (by omega),gr_setC (gr_row h7 hG hlow) (by omega)⟩
theorem CtFit.push {T S:ByteArray} {F:List Fd} {k:Nat} (h:CtFit T S F k) {n t:ByteArray} (hn:n.size≤9)(ht:t.size≤160):CtFit T S (F ++ [(n,t)]) (k+1) where
 t:=h.t
 s:=h.s
 n:=by rw[List.length_append];exact Nat.add_le_add_right h.n 1
 p:=by
  intro f hf
  rcases List.mem_append.1 hf with hf|hf
  ·exact h.p f hf
  ·simp only[List.mem_cons,List.not_mem_nil,or_false] at hf
   subst hf
   exact⟨hn,ht⟩
def c1Fact (g B:Nat)(j:Nat)(v:Value)(w:World):Prop:=
 match j with
 | 0=>tabM 20 B 4 v w
 | 1=>v=.pointer (some ⟨g,0,none⟩)
 | 2=>numM 0 4 v
 | 3=>ptrM 20 B v w
 | 4=>txtM 20 v
 | 5=>v=.pointer (some ⟨g,0,none⟩)
 | 6=>txtM 6 v
 | 7=>txtM 8 v
 | 8=>tabM 20 B 5 v w
 | 9=>v=.pointer (some ⟨g,0,none⟩)
 | 10=>numM 0 5 v
 | 11=>ptrM 20 B v w
 | 12=>txtM 20 v
 | 13=>∃ (n9 v9:ByteArray),v=.agg #[.string n9,.string v9,.slice none 0 0]∧n9.size≤100∧v9.size≤100
 | 14=>∃ b:Nat,v=.pointer (some ⟨b,0,none⟩)∧B≤b∧w.heap[b]?=some (.cells #[.string ⟨#[]⟩,.string ⟨#[]⟩,.slice none 0 0] 141 (0,0))
 | _=>True
def c3Fact (vv:Value)(Bk:Nat)(g B:Nat)(j:Nat)(v:Value)(w:World):Prop:=
 match j with
 | 0=>v=.pointer (some ⟨Bk,2,none⟩)
 | 1=>v=vv
 | 2=>tabM 20 B 4 v w
 | 3=>v=.pointer (some ⟨g,0,none⟩)
 | 4=>numM 0 4 v
 | 5=>ptrM 20 B v w
 | 6=>txtM 20 v
 | 7=>∃ (n9 v9:ByteArray),v=.agg #[.string n9,.string v9]∧n9.size≤9∧v9.size≤160
 | 8=>∃ (b:Nat) (n9 v9:ByteArray),v=.slice (some ⟨b,0,none⟩) 1 1∧B≤b∧w.heap[b]?=some (.cells #[.string n9,.string v9] 180 (0,0))∧n9.size≤9∧v9.size≤160
 | _=>True
def c7Fact (k:Nat)(g B:Nat)(j:Nat)(v:Value)(w:World):Prop:=
 match j with
 | 0=>v=.pointer (some ⟨g,0,none⟩)
 | 1=>txtM 6 v
 | 2=>tabM 1 B 3 v w
 | 3=>v=.pointer (some ⟨g,0,none⟩)
 | 4=>numM 0 3 v
 | 5=>ptrM 1 B v w
 | 6=>txtM 1 v
 | 7=>txtM 7 v
 | 8=>v=.int .i64 (k:Int)
 | 9=>txtM 1 v
 | 10=>txtM 8 v
 | 11=>v=.pointer (some ⟨g,0,none⟩)
 | 12=>txtM 160 v
 | 13=>∃ (n9 v9:ByteArray),v=.agg #[.string n9,.string v9]∧n9.size≤9∧v9.size≤160
 | 14=>∃ b:Nat,v=.pointer (some ⟨b,0,none⟩)∧B≤b∧w.heap[b]?=some (.cells #[.string ⟨#[]⟩,.string ⟨#[]⟩] 180 (0,0))
 | _=>True
def c1Dst (j:Nat):Nat:=
 match j with
 | 0=>6
 | 1=>7
 | 2=>8
 | 3=>9
 | 4=>10
 | 5=>11
 | 6=>12
 | 7=>13
 | 8=>14
 | 9=>15
 | 10=>16
 | 11=>17
 | 12=>18
 | 13=>19
 | 14=>3
 | _=>999
def c3Dst (j:Nat):Nat:=
 match j with
 | 0=>27
 | 1=>28
 | 2=>29
 | 3=>30
 | 4=>31
 | 5=>32
 | 6=>33
 | 7=>34
 | 8=>35
 | _=>999
def c7Dst (j:Nat):Nat:=
 match j with
 | 0=>44
 | 1=>45
 | 2=>46
 | 3=>47
 | 4=>48
 | 5=>49
 | 6=>50
 | 7=>51
 | 8=>52
 | 9=>53
 | 10=>54
 | 11=>55
 | 12=>56
 | 13=>57
 | 14=>5
 | _=>999
theorem c1Fact.gr {g B:Nat} (hB:g<B)(j:Nat)(v:Value)(w w':World)(h:c1Fact g B j v w)(hg:w.grownBy w' (some g)):c1Fact g B j v w':=by
 unfold c1Fact at h ⊢
 split
 case h_15=>
  obtain⟨b,h1,h2,h3⟩:=h
  exact⟨b,h1,h2,by rw[hg.block b (hp_lt h3) (by intro e;have:=Option.some.inj e;omega)];exact h3⟩
 all_goals first
  | exact tabM.gr h hg hB
  | exact ptrM.gr h hg hB
  | exact h
  | trivial
theorem c3Fact.gr {vv:Value} {Bk:Nat} {g B:Nat} (hB:g<B)(j:Nat)(v:Value)(w w':World)(h:c3Fact vv Bk g B j v w)(hg:w.grownBy w' (some g)):c3Fact vv Bk g B j v w':=by
 unfold c3Fact at h ⊢
 split
 case h_9=>
  obtain⟨b,n9,v9,h1,h2,h3,h4⟩:=h
  exact⟨b,n9,v9,h1,h2,by rw[hg.block b (hp_lt h3) (by intro e;have:=Option.some.inj e;omega)];exact h3,h4⟩
 all_goals first
  | exact tabM.gr h hg hB
  | exact ptrM.gr h hg hB
  | exact h
  | trivial
theorem c7Fact.gr {k:Nat} {g B:Nat} (hB:g<B)(j:Nat)(v:Value)(w w':World)(h:c7Fact k g B j v w)(hg:w.grownBy w' (some g)):c7Fact k g B j v w':=by
 unfold c7Fact at h ⊢
 split
 case h_15=>
  obtain⟨b,h1,h2,h3⟩:=h
  exact⟨b,h1,h2,by rw[hg.block b (hp_lt h3) (by intro e;have:=Option.some.inj e;omega)];exact h3⟩
 all_goals first
  | exact tabM.gr h hg hB
  | exact ptrM.gr h hg hB
  | exact h
  | trivial
theorem fd_cellsQ {w V:World} {n v:ByteArray} (hV:w.alloc (.cells #[.string n,.string v] 180)=V):∀j u,(fdCells [(n,v)])[j]?=some u→V.cell? ((⟨w.heap.size,0,none⟩:Addr).add j)=some u:=by
 intro j u hj
 have n2:V.heap[w.heap.size]?=some (.cells #[.string n,.string v] 180 (0,0)):=by rw[← hV];exact hp_alloc _ _
 rw[Addr.add_lit,Nat.zero_add]
 match j,hj with
 | 0,hj=>cases hj;simp[World.cell?,n2]
 | 1,hj=>cases hj;simp[World.cell?,n2]
theorem retC (w wr:World)(tmps:Array Value)(T S:ByteArray)(o2:Option Addr)(n2 c2:Nat)(p0:Nat)(hp0:Tryz.f144.results=#[.cell p0 141])(hp:tmps.getD p0 undef=.pointer (some ⟨w.heap.size,0,none⟩)) {old:Array Value} (hres:wr.heap[w.heap.size]?=some (.cells old 141 (0,0))) {Post:Ending→World→Prop} (hP:Post (.returned (.agg #[.string T,.string S,.slice o2 n2 c2])) (wr.setRow w.heap.size #[.string T,.string S,.slice o2 n2 c2])) :
  bodyPost Tryz.prog Tryz.f144 Post Exit.ret { tmps:=tmps,defers:=[] } (wr.setRow w.heap.size #[.string T,.string S,.slice o2 n2 c2]):=by
 refine bodyPost_ret (v:=.agg #[.string T,.string S,.slice o2 n2 c2]) (results_cell_row hp0 _ _ w.heap.size 141 _ (0,0) _ hp (setRow_heap _ _ _ _ _ _ hres) Tryz.underlying141 rfl ?_) rfl hP
 kernel_rfl
theorem rnb2 {w wx wq:World} {g cl cp z A Bk b:Nat} {o:Option Addr} {T S:ByteArray} {v:Value} {F:List Fd} {ob:Obj} (_:OwnQ w.heap.size v F wq)(_:wq.heap[b]?=some ob)(hb:wx.heap.size≤b)(h:CtIn w g o cl cp z A Bk T S v F wx):∀k,v.ownBlock=some k→k≠b:=by
 obtain⟨a',h1,h2,h3,h4,h5,h6,h7⟩:=h
 intro k hk
 have:=(World.ownsRow.lt h4 k hk).2
 omega
theorem gr_row2 {w0 w:World} {g b:Nat} {cs:Array Value} (h:w0.grownBy w (some g))(hb:w0.heap.size≤b):w0.grownBy (w.setRow b cs) (some g):=
 ⟨h.os,h.tape,h.output,by simpa using h.size,fun i hi hr=>(setRow_other w b i _ (by omega)).trans (h.block i hi hr)⟩
set_option maxRecDepth 40000 in
set_option maxHeartbeats 16000000 in
theorem srcContent (g:Nat)(o:Option Addr)(c:List UInt8)(cp a z:Nat)(w:World)(h:Src w g o c.length cp a z)(hc:Code g w o c)(ha:a≤600000000000)(hl:c.length≤1048576) :
  Calls Tryz.prog 144 #[.pointer (some ⟨g,0,none⟩)] w fun e w'=>∃ (T S:ByteArray) (v:Value) (F:List Fd) (a':Nat),e=.returned (.agg #[.string T,.string S,v])∧CtFit T S F 5∧OwnQ w.heap.size v F w'∧a'≤a+40000∧Src w' g o c.length cp a' z∧w.grownBy w' (some g):=by
 have HC:Hid (Code g w o c):=hc
 have hgl:=h.lt
 have Hs:=mkHid h
 have Hg:Hid (w.grownBy w (some g)):=gr_refl _ _
 clear h hc
 go_enter Tryz.func144,Tryz.ntmps144
 go_upto_region 1 with fail
 obtain⟨W1,hW1⟩:∃V,w.alloc (.cells #[.string ⟨#[]⟩,.string ⟨#[]⟩,.slice none 0 0] 141)=V:=⟨_,rfl⟩
 have b1:Below w.heap.size w W1:=by rw[← hW1];exact(Below.refl _ _).alloc (Nat.le_refl _) _
 have hz1:W1.heap.size=w.heap.size+1:=by rw[← hW1];simp
 have HR1:Hid (W1.heap[w.heap.size]?=some (.cells #[.string ⟨#[]⟩,.string ⟨#[]⟩,.slice none 0 0] 141 (0,0))):=by rw[← hW1];exact hp_alloc _ _
 have Hs1:=mkHid (Hs.out.below b1)
 have Hg1:Hid (w.grownBy W1 (some g)):=gr_below b1
 rw[hW1]
 clear hW1 b1 Hs Hg
 have HCW:Hid (Code g W1 o c):=HC.out.grown Hg1.out (Nat.le_refl _)
 have hgr0:g<W1.heap.size:=Hs1.out.lt
 have HG:Hid (GoneBy W1 g o c.length cp a z (300*0) W1.drew):=⟨gr_below (Below.refl _ _).drew,a,by omega,Hs1.out.below (Below.refl _ _).drew⟩
 go_cut [3] from 200 (fun v wx=>∃ Bk,v=.pointer (some ⟨Bk,0,none⟩)∧Hid (CtAt w g o c.length cp z (a+300*15) 0 Bk wx))
 case first=>
  clear Hs1
  refine wp_region_any (by kernel_rfl) ?_
  refine wpAny_phase 15 1 #[true,true,true,true,true,true,true,true,true,true,true,true,true,true,true,false] c1Dst (fun x=>rgAct [] [_,_,_,x 3,_,_,x 6,x 7,x 8,x 9,x 10,x 11,x 12,x 13,x 14,x 15,x 16,x 17,x 18,x 19,_,_,_,_,_,_,_,_,_,_,_,_,_,_,_,_,_,_,_,_,_,_,_,_,_,_,_,_,_,_,_,_,_,_,_,_,_,_,_,_,_,_,_,_,_] []) (c1Fact g W1.heap.size) (fun q w=>GoneBy W1 g o c.length cp (a) z (300*q) w) (fun w w'=>w.grownBy w' (some g)) rfl rfl (by decide) rfl (by kernel_rfl) (by kernel_rfl) ?_ (c1Fact.gr hgr0) ?hend ?hstep _ _ 0 (fun _=>undef) _ rfl rfl rfl (by intro j hj;simp[Array.getD]) ?_ HG.out ?_
  ·intro i j hi hj hne
   have e1:∀q,q<15→∀r,r<15→q≠r→c1Dst q≠c1Dst r:=by decide
   exact e1 j hj i hi hne
  case hend=>
   intro x wq hG hf
   obtain⟨n9,v9,e4,hzn,hzv⟩:=hf 13 (by decide)
   obtain⟨b,e5,hb,hbk⟩:=hf 14 (by decide)
   have e4':x 19=.agg #[.string n9,.string v9,.slice none 0 0]:=e4
   have e5':x 3=.pointer (some ⟨b,0,none⟩):=e5
   obtain⟨hgq,a3,ha3,hs3⟩:=hG
   have HSf:Hid (CtAt w g o c.length cp z (a+300*15) 0 b (wq.setRow b #[.string n9,.string v9,.slice none 0 0])):=by
    have hbg:b≠g:=by omega
    have hbw:b≠w.heap.size:=by omega
    have hR:=(hgq.block w.heap.size (hp_lt HR1.out) (by intro e;have:=Option.some.inj e;omega)).trans HR1.out
    exact⟨n9,v9,_,[],⟨hzn,hzv,by simp,fun f hf=>by simp at hf⟩,a3,ha3,by omega,setRow_heap _ _ _ _ _ _ hbk,OwnQ.nil _ _,(setRow_other wq b _ _ (fun e=>hbw e.symm)).trans hR,⟨by rw[setRow_other wq b g _ (fun e=>hbg e.symm)];exact hs3.blk⟩,gr_row2 (gr_trans Hg1.out hgq) (by omega)⟩
   clear hf e4 e5 hs3 hgq
   refine wpAny_ready (rs:=[15]) (by kernel_rfl) (by simp) ?_
   refine AllReady.cons rfl (fun K hK=>?_) AllReady.nil
   rw[if_pos (by rfl)]
   refine wp_store_row 141 _ _ rfl b #[.string n9,.string v9,.slice none 0 0] e5' e4' 141 _ hbk (by kernel_rfl) rfl (by simp[Value.oneCell']) ?_
   refine hK _ _ ?_
   clear hK K
   go_simp
   refine wpAny_done (by kernel_rfl) ?_ _
   go_simp
   go_wp2
   go_meet
   case rel=>exact⟨b,rfl,HSf⟩
  case hstep=>
   intro k2 x L wr i hil hkl hG hi hf
   rcases (show i=0∨i=1∨i=2∨i=3∨i=4∨i=5∨i=6∨i=7∨i=8∨i=9∨i=10∨i=11∨i=12∨i=13∨i=14 by omega) with rfl|rfl|rfl|rfl|rfl|rfl|rfl|rfl|rfl|rfl|rfl|rfl|rfl|rfl|rfl
   ·clear hi hf
    refine wpOp_step rfl (fun K hK=>?_)
    go_simp
    have hbb:∀cs,Below wr.heap.size wr (wr.alloc (.cells cs 9)):=fun cs=>(Below.refl _ _).alloc (Nat.le_refl _) _
    refine hK _ _ ⟨.slice (some ⟨wr.heap.size,0,none⟩) 4 4,by simp[put,c1Dst],⟨_,rfl,hG.1.size,?_⟩,gr_below (hbb _),(hG.still (hbb _)).mono (by omega)⟩
    intro k hk
    exact tabM_get (by simpa using hk) (by decide)
   ·clear hi hf
    refine wpOp_step rfl (fun K hK=>?_)
    go_simp
    exact hK _ _ ⟨.pointer (some ⟨g,0,none⟩),by simp[put,c1Dst],rfl,gr_refl _ _,(hG.still (Below.refl _ _)).mono (by omega)⟩
   ·have e0:x 7=.pointer (some ⟨g,0,none⟩):=hf 1 (by omega) (ready_dep hi rfl 1 (by kernel_rfl))
    clear hi hf
    obtain⟨hgr,a1,ha1,hs1⟩:=hG
    have hN:=srcN g o c cp a1 z 4 wr hs1 (HCW.out.grown hgr (Nat.le_refl _)) (by omega) hl (by omega) (by omega)
    refine wpOp_step rfl (fun K hK=>?_)
    go_simp
    refine hN.mono ?_
    rintro e w2 ⟨v,rfl,hv,hs2,hg2⟩
    go_simp
    exact hK _ _ ⟨.int .i64 (v:Int),by simp[put,c1Dst,e0],⟨v,rfl,Nat.zero_le _,by omega⟩,hg2,gr_trans hgr hg2,a1+1,by omega,hs2⟩
   ·have f0:=hf 0 (by omega) (ready_dep hi rfl 0 (by kernel_rfl))
    have f2:=hf 2 (by omega) (ready_dep hi rfl 2 (by kernel_rfl))
    clear hi hf
    obtain⟨b,e0,hb,ht⟩:=f0
    obtain⟨k2,e1,-,hk⟩:=f2
    obtain⟨t,hc,hts⟩:=ht k2 hk
    have hk3:(k2:Int)<4:=by omega
    have e0':x 6=.slice (some ⟨b,0,none⟩) 4 4:=e0
    have e1':x 8=.int .i64 k2:=e1
    clear e0 e1 ht
    refine wpOp_step rfl (fun K hK=>?_)
    go_simp
    exact hK _ _ ⟨.pointer (some ⟨b,k2,none⟩),by simp[put,c1Dst,e0',e1'],⟨b,k2,t,rfl,hb,hc,hts⟩,gr_refl _ _,(hG.still (Below.refl _ _)).mono (by omega)⟩
   ·have f3:=hf 3 (by omega) (ready_dep hi rfl 3 (by kernel_rfl))
    clear hi hf
    obtain⟨b,k2,t,e0,hb,hc,hts⟩:=f3
    have e0':x 9=.pointer (some ⟨b,k2,none⟩):=e0
    clear e0
    refine wpOp_step rfl (fun K hK=>?_)
    go_simp
    exact hK _ _ ⟨.string t,by simp[put,c1Dst,e0'],⟨t,rfl,hts⟩,gr_refl _ _,(hG.still (Below.refl _ _)).mono (by omega)⟩
   ·clear hi hf
    refine wpOp_step rfl (fun K hK=>?_)
    go_simp
    exact hK _ _ ⟨.pointer (some ⟨g,0,none⟩),by simp[put,c1Dst],rfl,gr_refl _ _,(hG.still (Below.refl _ _)).mono (by omega)⟩
   ·have e0:x 11=.pointer (some ⟨g,0,none⟩):=hf 5 (by omega) (ready_dep hi rfl 5 (by kernel_rfl))
    clear hi hf
    obtain⟨hgr,a1,ha1,hs1⟩:=hG
    have hN:=srcWord g o c cp a1 z wr hs1 (HCW.out.grown hgr (Nat.le_refl _)) (by omega) hl
    refine wpOp_step rfl (fun K hK=>?_)
    go_simp
    refine hN.mono ?_
    rintro e w2 ⟨t,a2,rfl,ht,ha2,hs2,hg2⟩
    go_simp
    exact hK _ _ ⟨.string t,by simp[put,c1Dst,e0],⟨t,rfl,by omega⟩,hg2,gr_trans hgr hg2,a2,by omega,hs2⟩
   ·have f3:=hf 6 (by omega) (ready_dep hi rfl 6 (by kernel_rfl))
    clear hi hf
    obtain⟨t,e0,hts⟩:=f3
    have e0':x 12=.string t:=e0
    have n0:¬9223372036854775807<2+t.size:=by omega
    clear e0
    refine wpOp_step rfl (fun K hK=>?_)
    go_simp
    exact hK _ _ ⟨.string (⟨#[120,45]⟩++t),by simp[put,c1Dst,e0'],⟨_,rfl,by rw[ByteArray.size_append];exact Nat.le_trans (Nat.add_le_add_left hts _) (by show 2+6≤_;omega)⟩,gr_refl _ _,(hG.still (Below.refl _ _)).mono (by omega)⟩
   ·have f0:=hf 7 (by omega) (ready_dep hi rfl 7 (by kernel_rfl))
    obtain⟨t,et,hzt⟩:=f0
    have et':x 13=.string t:=et
    clear et
    clear hi hf
    refine wpOp_step rfl (fun K hK=>?_)
    go_simp
    have hbb:∀cs,Below wr.heap.size wr (wr.alloc (.cells cs 9)):=fun cs=>(Below.refl _ _).alloc (Nat.le_refl _) _
    refine hK _ _ ⟨.slice (some ⟨wr.heap.size,0,none⟩) 5 5,by simp[put,c1Dst,et'],⟨_,rfl,hG.1.size,?_⟩,gr_below (hbb _),(hG.still (hbb _)).mono (by omega)⟩
    intro k hk
    refine tabM_get (by simpa using hk) ?_
    simp[strOk]
    refine⟨?_,?_,?_,?_,?_⟩
    ·decide
    ·decide
    ·omega
    ·decide
    ·decide
   ·clear hi hf
    refine wpOp_step rfl (fun K hK=>?_)
    go_simp
    exact hK _ _ ⟨.pointer (some ⟨g,0,none⟩),by simp[put,c1Dst],rfl,gr_refl _ _,(hG.still (Below.refl _ _)).mono (by omega)⟩
   ·have e0:x 15=.pointer (some ⟨g,0,none⟩):=hf 9 (by omega) (ready_dep hi rfl 9 (by kernel_rfl))
    clear hi hf
    obtain⟨hgr,a1,ha1,hs1⟩:=hG
    have hN:=srcN g o c cp a1 z 5 wr hs1 (HCW.out.grown hgr (Nat.le_refl _)) (by omega) hl (by omega) (by omega)
    refine wpOp_step rfl (fun K hK=>?_)
    go_simp
    refine hN.mono ?_
    rintro e w2 ⟨v,rfl,hv,hs2,hg2⟩
    go_simp
    exact hK _ _ ⟨.int .i64 (v:Int),by simp[put,c1Dst,e0],⟨v,rfl,Nat.zero_le _,by omega⟩,hg2,gr_trans hgr hg2,a1+1,by omega,hs2⟩
   ·have f0:=hf 8 (by omega) (ready_dep hi rfl 8 (by kernel_rfl))
    have f2:=hf 10 (by omega) (ready_dep hi rfl 10 (by kernel_rfl))
    clear hi hf
    obtain⟨b,e0,hb,ht⟩:=f0
    obtain⟨k2,e1,-,hk⟩:=f2
    obtain⟨t,hc,hts⟩:=ht k2 hk
    have hk3:(k2:Int)<5:=by omega
    have e0':x 14=.slice (some ⟨b,0,none⟩) 5 5:=e0
    have e1':x 16=.int .i64 k2:=e1
    clear e0 e1 ht
    refine wpOp_step rfl (fun K hK=>?_)
    go_simp
    exact hK _ _ ⟨.pointer (some ⟨b,k2,none⟩),by simp[put,c1Dst,e0',e1'],⟨b,k2,t,rfl,hb,hc,hts⟩,gr_refl _ _,(hG.still (Below.refl _ _)).mono (by omega)⟩
   ·have f3:=hf 11 (by omega) (ready_dep hi rfl 11 (by kernel_rfl))
    clear hi hf
    obtain⟨b,k2,t,e0,hb,hc,hts⟩:=f3
    have e0':x 17=.pointer (some ⟨b,k2,none⟩):=e0
    clear e0
    refine wpOp_step rfl (fun K hK=>?_)
    go_simp
    exact hK _ _ ⟨.string t,by simp[put,c1Dst,e0'],⟨t,rfl,hts⟩,gr_refl _ _,(hG.still (Below.refl _ _)).mono (by omega)⟩
   ·have f1:=hf 4 (by omega) (ready_dep hi rfl 4 (by kernel_rfl))
    obtain⟨t1,et1,hzt1⟩:=f1
    have et1':x 10=.string t1:=et1
    clear et1
    have f2:=hf 12 (by omega) (ready_dep hi rfl 12 (by kernel_rfl))
    obtain⟨t2,et2,hzt2⟩:=f2
    have et2':x 18=.string t2:=et2
    clear et2
    clear hi hf
    refine wpOp_step rfl (fun K hK=>?_)
    go_simp
    exact hK _ _ ⟨.agg #[.string t1,.string t2,.slice none 0 0],by simp[put,c1Dst,et1',et2'],⟨t1,t2,rfl,by omega,by omega⟩,gr_refl _ _,(hG.still (Below.refl _ _)).mono (by omega)⟩
   ·clear hi hf
    refine wpOp_step rfl (fun K hK=>?_)
    go_simp
    have hbb:∀cs,Below wr.heap.size wr (wr.alloc (.cells cs 141)):=fun cs=>(Below.refl _ _).alloc (Nat.le_refl _) _
    exact hK _ _ ⟨.pointer (some ⟨wr.heap.size,0,none⟩),by simp[put,c1Dst],⟨wr.heap.size,rfl,hG.1.size,hp_alloc _ _⟩,gr_below (hbb _),(hG.still (hbb _)).mono (by omega)⟩
  ·intro k2 j hk2
   simp[Array.getD] at hk2
  ·intro j hj hd
   simp[Array.getD] at hd
 case rest=>
  clear HG Hs1 Hg1 HR1 HCW
  obtain⟨Bk,rfl,C1⟩:=hcut
  go_upto_region 2 with fail
  go_cut [26] from 200 (fun s wx=>∃ b:Bool,s=.bool b∧Hid (CtAt w g o c.length cp z (a+4501) 0 Bk wx))
  case first=>
   obtain⟨T,S,v,F,hfit,hin⟩:=C1.out
   obtain⟨a',h1,h2,h3,h4,h5,h6,h7⟩:=hin
   have q0:wc.cell? ⟨Bk,0,none⟩=some (.string T):=by simp[World.cell?,h3]
   have hN:=mkHid (srcOne g o c cp a' z 2 wc h6 (HC.out.grown h7 (Nat.le_refl _)) (by omega) hl (by omega) (by omega))
   have HI:Hid (CtIn w g o c.length cp z a' Bk T S v F wc):=⟨a',Nat.le_refl _,h2,h3,h4,h5,h6,h7⟩
   have Hfit:=mkHid hfit
   clear hfit h3 h4 h5 h6 h7 C1
   by_cases hT:T=(⟨#[116,101,120,116]⟩:ByteArray)
   ·subst hT
    go_wp2_with fail
    refine hN.out.mono ?_
    rintro e w2 ⟨b,rfl,hs2,hg2⟩
    have HI2:Hid (CtAt w g o c.length cp z (a+4501) 0 Bk w2):=by
     obtain⟨a9,g1,g2,g3,g4,g5,g6,g7⟩:=HI.out.gone hgl (q:=1) ⟨hg2,a'+1,Nat.le_refl _,hs2⟩
     exact⟨_,S,v,F,Hfit.out,a9,by omega,g2,g3,g4,g5,g6,g7⟩
    clear hN hs2 hg2 HI
    go_wp2
    go_meet
    case rel=>exact⟨_,rfl,HI2⟩
   ·have HI2:Hid (CtAt w g o c.length cp z (a+4501) 0 Bk wc):=by
     obtain⟨a9,g1,g2,g3,g4,g5,g6,g7⟩:=HI.out
     exact⟨T,S,v,F,Hfit.out,a9,by omega,g2,g3,g4,g5,g6,g7⟩
    clear hN HI
    have hT1:(T.toList==([116,101,120,116]:List UInt8))=false:=by
     rw[beq_eq_false_iff_ne,ByteArray.toList_eq]
     intro e
     apply hT
     obtain⟨⟨x⟩⟩:=T
     simp at e
     rw[e]
    clear hT
    go_wp2
    go_meet
    case rel=>exact⟨_,rfl,HI2⟩
  case rest=>
   clear C1
   obtain⟨b,rfl,C1⟩:=hcut
   go_upto_if 26 with fail
   go_cut [] from 200 (fun wx=>Hid (CtAt w g o c.length cp z (a+9000) 1 Bk wx))
   case first=>
    obtain⟨T,S,vv,F,hfit,hin⟩:=C1.out
    have Hfit:=mkHid hfit
    obtain⟨a0,h1,h2,h3,h4,h5,h6,h7⟩:=hin
    cases b
    ·have HI2:Hid (CtAt w g o c.length cp z (a+9000) 1 Bk wc):=⟨T,S,vv,F,⟨hfit.t,hfit.s,Nat.le_trans hfit.n (by omega),hfit.p⟩,a0,by omega,h2,h3,h4,h5,h6,h7⟩
     clear hfit h3 h4 h5 h6 h7 C1 Hfit
     go_wp2
     go_meet
     case rel=>exact HI2
    ·have hFl:F.length≤0:=hfit.n
     have HB4:Hid (wc.cell? ⟨Bk,2,none⟩=some vv):=by show _=_;simp[World.cell?,h3]
     have HCW:Hid (Code g wc o c):=HC.out.grown h7 (Nat.le_refl _)
     have hgr0:g<wc.heap.size:=h6.lt
     have HG:Hid (GoneBy wc g o c.length cp a0 z (300*0) wc.drew):=⟨gr_below (Below.refl _ _).drew,a0,by omega,h6.below (Below.refl _ _).drew⟩
     have HI:Hid (CtIn w g o c.length cp z a0 Bk T S vv F wc):=⟨a0,Nat.le_refl _,h2,h3,h4,h5,h6,h7⟩
     clear hfit h3 h4 h5 h6 h7 C1
     go_wp2
     refine wp_region_any (by kernel_rfl) ?_
     refine wpAny_phase 9 3 #[true,true,true,true,true,true,true,true,true,false,false,false] c3Dst (fun x=>rgAct [] [_,_,_,_,_,_,_,_,_,_,_,_,_,_,_,_,_,_,_,_,_,_,_,_,_,_,_,x 27,x 28,x 29,x 30,x 31,x 32,x 33,x 34,x 35,_,_,_,_,_,_,_,_,_,_,_,_,_,_,_,_,_,_,_,_,_,_,_,_,_,_,_,_,_] []) (c3Fact vv Bk g wc.heap.size) (fun q w=>GoneBy wc g o c.length cp (a0) z (300*q) w) (fun w w'=>w.grownBy w' (some g)) rfl rfl (by decide) rfl (by kernel_rfl) (by kernel_rfl) ?_ (c3Fact.gr hgr0) ?hend ?hstep _ _ 0 (fun _=>undef) _ rfl rfl rfl (by intro j hj;simp[Array.getD]) ?_ HG.out ?_
     ·intro i j hi hj hne
      have e1:∀q,q<9→∀r,r<9→q≠r→c3Dst q≠c3Dst r:=by decide
      exact e1 j hj i hi hne
     case hend=>
      intro x wq hG hf
      have f1:x 28=vv:=hf 1 (by decide)
      obtain⟨b,n9,v9,e4,hb,hbk,hzn,hzv⟩:=hf 8 (by decide)
      have e4':x 35=.slice (some ⟨b,0,none⟩) 1 1:=e4
      have hIq:=mkHid (HI.out.gone hgl hG)
      obtain⟨a9,g1,g2,g3,g4,g5,g6,g7⟩:=hIq.out
      have hsq:w.heap.size≤wq.heap.size:=g7.size
      clear hf e4 hG g3 g5 g6 g7
      refine wpAny_ready (rs:=[9]) (by kernel_rfl) (by simp) ?_
      refine AllReady.cons rfl (fun K hK=>?_) AllReady.nil
      rw[if_pos (by rfl)]
      refine opAppQ _ _ rfl w.heap.size vv F f1 g4 n9 v9 b 1 e4' hbk (by omega) hsq ?_
      intro v' w' hO' hG'
      refine hK _ _ ?_
      clear hK K
      obtain⟨hc3,hf3,hIn⟩:=hIq.out.push hgl hO' hG'
      have HSf:Hid (CtAt w g o c.length cp z (a+9000) 1 Bk (w'.setCell ⟨Bk,2,none⟩ v')):=by
       obtain⟨a8,k1,k2⟩:=hIn
       exact⟨T,S,v',_,Hfit.out.push hzn hzv,a8,by omega,k2⟩
      obtain⟨o2,c2,rfl⟩:=hO'.shape
      obtain⟨n2,hn2⟩:∃n,(F ++ [(n9,v9)]).length=n:=⟨_,rfl⟩
      rw[hn2] at HSf
      rw[hn2]
      clear hn2 hO' hG' hIn hIq HI HG HB4 hbk g4
      show wpAny _ _ _ _ 2 _ (rgAct [] [_,_,_,_,_,_,_,_,_,_,_,_,_,_,_,_,_,_,_,_,_,_,_,_,_,_,_,x 27,x 28,x 29,x 30,x 31,x 32,x 33,x 34,x 35,.slice o2 n2 c2,_,_,_,_,_,_,_,_,_,_,_,_,_,_,_,_,_,_,_,_,_,_,_,_,_,_,_,_] []) _
      generalize x 27=y27
      generalize x 28=y28
      generalize x 29=y29
      generalize x 30=y30
      generalize x 31=y31
      generalize x 32=y32
      generalize x 33=y33
      generalize x 34=y34
      generalize x 35=y35
      go_simp
      refine wpAny_ready (rs:=[10]) (by kernel_rfl) (by simp) ?_
      refine AllReady.cons rfl (fun K hK=>?_) AllReady.nil
      go_simp
      refine hK _ _ ?_
      clear hK K
      go_simp
      refine wpAny_ready (rs:=[11]) (by kernel_rfl) (by simp) ?_
      refine AllReady.cons rfl (fun K hK=>?_) AllReady.nil
      go_simp
      refine hK _ _ ?_
      clear hK K
      go_simp
      refine wpAny_done (by kernel_rfl) ?_ _
      go_simp
      go_wp2
      go_meet
      case rel=>exact HSf
     case hstep=>
      intro k2 x L wr i hil hkl hG hi hf
      rcases (show i=0∨i=1∨i=2∨i=3∨i=4∨i=5∨i=6∨i=7∨i=8 by omega) with rfl|rfl|rfl|rfl|rfl|rfl|rfl|rfl|rfl
      ·clear hi hf
       refine wpOp_step rfl (fun K hK=>?_)
       go_simp
       exact hK _ _ ⟨.pointer (some ⟨Bk,2,none⟩),by simp[put,c3Dst],rfl,gr_refl _ _,(hG.still (Below.refl _ _)).mono (by omega)⟩
      ·have e0:x 27=.pointer (some ⟨Bk,2,none⟩):=hf 0 (by omega) (ready_dep hi rfl 0 (by kernel_rfl))
       clear hi hf
       have hcel:wr.cell? ⟨Bk,2,none⟩=some vv:=gr_cell hG.1 (show Bk≠g by omega) HB4.out
       refine wpOp_step rfl (fun K hK=>?_)
       go_simp
       exact hK _ _ ⟨vv,by simp[put,c3Dst,e0],rfl,gr_refl _ _,(hG.still (Below.refl _ _)).mono (by omega)⟩
      ·clear hi hf
       refine wpOp_step rfl (fun K hK=>?_)
       go_simp
       have hbb:∀cs,Below wr.heap.size wr (wr.alloc (.cells cs 9)):=fun cs=>(Below.refl _ _).alloc (Nat.le_refl _) _
       refine hK _ _ ⟨.slice (some ⟨wr.heap.size,0,none⟩) 4 4,by simp[put,c3Dst],⟨_,rfl,hG.1.size,?_⟩,gr_below (hbb _),(hG.still (hbb _)).mono (by omega)⟩
       intro k hk
       exact tabM_get (by simpa using hk) (by decide)
      ·clear hi hf
       refine wpOp_step rfl (fun K hK=>?_)
       go_simp
       exact hK _ _ ⟨.pointer (some ⟨g,0,none⟩),by simp[put,c3Dst],rfl,gr_refl _ _,(hG.still (Below.refl _ _)).mono (by omega)⟩
      ·have e0:x 30=.pointer (some ⟨g,0,none⟩):=hf 3 (by omega) (ready_dep hi rfl 3 (by kernel_rfl))
       clear hi hf
       obtain⟨hgr,a1,ha1,hs1⟩:=hG
       have hN:=srcN g o c cp a1 z 4 wr hs1 (HCW.out.grown hgr (Nat.le_refl _)) (by omega) hl (by omega) (by omega)
       refine wpOp_step rfl (fun K hK=>?_)
       go_simp
       refine hN.mono ?_
       rintro e w2 ⟨v,rfl,hv,hs2,hg2⟩
       go_simp
       exact hK _ _ ⟨.int .i64 (v:Int),by simp[put,c3Dst,e0],⟨v,rfl,Nat.zero_le _,by omega⟩,hg2,gr_trans hgr hg2,a1+1,by omega,hs2⟩
      ·have f0:=hf 2 (by omega) (ready_dep hi rfl 2 (by kernel_rfl))
       have f2:=hf 4 (by omega) (ready_dep hi rfl 4 (by kernel_rfl))
       clear hi hf
       obtain⟨b,e0,hb,ht⟩:=f0
       obtain⟨k2,e1,-,hk⟩:=f2
       obtain⟨t,hc,hts⟩:=ht k2 hk
       have hk3:(k2:Int)<4:=by omega
       have e0':x 29=.slice (some ⟨b,0,none⟩) 4 4:=e0
       have e1':x 31=.int .i64 k2:=e1
       clear e0 e1 ht
       refine wpOp_step rfl (fun K hK=>?_)
       go_simp
       exact hK _ _ ⟨.pointer (some ⟨b,k2,none⟩),by simp[put,c3Dst,e0',e1'],⟨b,k2,t,rfl,hb,hc,hts⟩,gr_refl _ _,(hG.still (Below.refl _ _)).mono (by omega)⟩
      ·have f3:=hf 5 (by omega) (ready_dep hi rfl 5 (by kernel_rfl))
       clear hi hf
       obtain⟨b,k2,t,e0,hb,hc,hts⟩:=f3
       have e0':x 32=.pointer (some ⟨b,k2,none⟩):=e0
       clear e0
       refine wpOp_step rfl (fun K hK=>?_)
       go_simp
       exact hK _ _ ⟨.string t,by simp[put,c3Dst,e0'],⟨t,rfl,hts⟩,gr_refl _ _,(hG.still (Below.refl _ _)).mono (by omega)⟩
      ·have f2:=hf 6 (by omega) (ready_dep hi rfl 6 (by kernel_rfl))
       obtain⟨t2,et2,hzt2⟩:=f2
       have et2':x 33=.string t2:=et2
       clear et2
       clear hi hf
       refine wpOp_step rfl (fun K hK=>?_)
       go_simp
       exact hK _ _ ⟨.agg #[.string (⟨#[99,104,97,114,115,101,116]⟩:ByteArray),.string t2],by simp[put,c3Dst,et2'],⟨(⟨#[99,104,97,114,115,101,116]⟩:ByteArray),t2,rfl,by decide,by omega⟩,gr_refl _ _,(hG.still (Below.refl _ _)).mono (by omega)⟩
      ·have f3:=hf 7 (by omega) (ready_dep hi rfl 7 (by kernel_rfl))
       clear hi hf
       obtain⟨n9,v9,e0,hzn,hzv⟩:=f3
       have e0':x 34=.agg #[.string n9,.string v9]:=e0
       clear e0
       refine wpOp_step rfl (fun K hK=>?_)
       go_simp
       have hbb:∀cs,Below wr.heap.size wr (wr.alloc (.cells cs 180)):=fun cs=>(Below.refl _ _).alloc (Nat.le_refl _) _
       exact hK _ _ ⟨.slice (some ⟨wr.heap.size,0,none⟩) 1 1,by simp[put,c3Dst,e0'],⟨wr.heap.size,n9,v9,rfl,hG.1.size,hp_alloc _ _,hzn,hzv⟩,gr_below (hbb _),(hG.still (hbb _)).mono (by omega)⟩
     ·intro k2 j hk2
      simp[Array.getD] at hk2
     ·intro j hj hd
      simp[Array.getD] at hd
   case rest=>
    clear C1
    have C1:=mkHid hcut.out
    obtain⟨T0,S0,vv0,F0,hfit0,a1,h1,h2,h3,h4,h5,h6,h7⟩:=C1.out
    have hN:=mkHid (srcN g o c cp a1 z 4 wc h6 (HC.out.grown h7 (Nat.le_refl _)) (by omega) hl (by omega) (by omega))
    have HI:Hid (CtIn w g o c.length cp z a1 Bk T0 S0 vv0 F0 wc):=⟨a1,Nat.le_refl _,h2,h3,h4,h5,h6,h7⟩
    have Hfit0:=mkHid hfit0
    clear h3 h4 h5 h6 h7 C1 hcut hfit0
    go_wp2_with fail
    refine hN.out.mono ?_
    rintro e w2 ⟨v,rfl,hv,hs2,hg2⟩
    have hbw:w.heap.size<Bk:=h2
    have HI2:Hid (CtAt w g o c.length cp z (a+9001) 1 Bk w2):=by
     obtain⟨a9,g1,g2⟩:=HI.out.gone hgl (q:=1) ⟨hg2,a1+1,Nat.le_refl _,hs2⟩
     exact⟨T0,S0,vv0,F0,Hfit0.out,a9,by omega,g2⟩
    clear hN hs2 hg2 HI Hfit0
    go_wp2
    go_loopw [4] (fun kv wx=>∃ k:Nat,kv=.int .i64 k∧k≤3∧Hid (CtAt w g o c.length cp z (a+9001+5000*(3-k)) (1+(3-k)) Bk wx)) (fun kv _=>(Lib.intOf kv).toNat)
    case atStart=>exact⟨v,rfl,by omega,(by obtain⟨T,S,vv,F,hf,a9,k1,k2⟩:=HI2.out;exact⟨T,S,vv,F,⟨hf.t,hf.s,Nat.le_trans hf.n (by omega),hf.p⟩,a9,by omega,k2⟩)⟩
    case round=>
     clear HI2
     obtain⟨k,rfl,hk3,C1⟩:=hrel
     by_cases hk:0<k
     ·obtain⟨T,S,vv,F,hfit,a0,h1,h2,h3,h4,h5,h6,h7⟩:=C1.out
      have Hfit:=mkHid hfit
      have hFl:F.length≤4:=Nat.le_trans hfit.n (by omega)
      have HCW:Hid (Code g wr o c):=HC.out.grown h7 (Nat.le_refl _)
      have hgr0:g<wr.heap.size:=h6.lt
      have HG:Hid (GoneBy wr g o c.length cp a0 z (300*0) wr.drew):=⟨gr_below (Below.refl _ _).drew,a0,by omega,h6.below (Below.refl _ _).drew⟩
      have HI:Hid (CtIn w g o c.length cp z a0 Bk T S vv F wr):=⟨a0,Nat.le_refl _,h2,h3,h4,h5,h6,h7⟩
      clear hfit h3 h4 h5 h6 h7 C1
      go_upto_region 7 with fail
      obtain⟨W0,hW0⟩:∃V,V=wr:=⟨_,rfl⟩
      subst hW0
      go_cut [5] from 200 (fun pv wx=>∃ (pb:Nat) (n9 v9:ByteArray),pv=.pointer (some ⟨pb,0,none⟩)∧n9.size≤9∧v9.size≤160∧wx.heap[pb]?=some (.cells #[.string n9,.string v9] 180 (0,0))∧Hid (CtIn w g o c.length cp z (a0+300*15) Bk T S vv F wx))
      case first=>
       refine wp_region_any (by kernel_rfl) ?_
       refine wpAny_phase 15 1 #[true,true,true,true,true,true,true,true,true,true,true,true,true,true,true,false] c7Dst (fun x=>rgAct [] [_,_,_,_,_,x 5,_,_,_,_,_,_,_,_,_,_,_,_,_,_,_,_,_,_,_,_,_,_,_,_,_,_,_,_,_,_,_,_,_,_,_,_,_,_,x 44,x 45,x 46,x 47,x 48,x 49,x 50,x 51,x 52,x 53,x 54,x 55,x 56,x 57,_,_,_,_,_,_,_] []) (c7Fact k g W0.heap.size) (fun q w=>GoneBy W0 g o c.length cp (a0) z (300*q) w) (fun w w'=>w.grownBy w' (some g)) rfl rfl (by decide) rfl (by kernel_rfl) (by kernel_rfl) ?_ (c7Fact.gr hgr0) ?hend ?hstep _ _ 0 (fun j=>match j with|44=>u44|45=>u45|46=>u46|47=>u47|48=>u48|49=>u49|50=>u50|51=>u51|52=>u52|53=>u53|54=>u54|55=>u55|56=>u56|57=>u57|5=>u5|_=>undef) _ rfl rfl rfl (by intro j hj;simp[Array.getD]) ?_ HG.out ?_
       ·intro i j hi hj hne
        have e1:∀q,q<15→∀r,r<15→q≠r→c7Dst q≠c7Dst r:=by decide
        exact e1 j hj i hi hne
       case hend=>
        intro x wq hG hf
        obtain⟨n9,v9,e4,hzn,hzv⟩:=hf 13 (by decide)
        obtain⟨b,e5,hb,hbk⟩:=hf 14 (by decide)
        have e4':x 57=.agg #[.string n9,.string v9]:=e4
        have e5':x 5=.pointer (some ⟨b,0,none⟩):=e5
        have hIq:=HI.out.gone hgl hG
        have HSf:Hid (CtIn w g o c.length cp z (a0+300*15) Bk T S vv F (wq.setRow b #[.string n9,.string v9])):=by
         obtain⟨a9,g1,g2,g3,g4,g5,g6,g7⟩:=hIq
         have hbB:b≠Bk:=by intro e;subst e;rw[hbk] at g3;simp at g3
         have hbw:b≠w.heap.size:=by have:=HI.out;obtain⟨-,-,-,-,-,h5,-⟩:=this;have:=hp_lt h5;omega
         have hbg:b≠g:=by omega
         have hnv:=rnb2 g4 hbk hb HI.out
         exact⟨a9,g1,g2,(setRow_other wq b _ _ (fun e=>hbB e.symm)).trans g3,row_stay g4 fun q hq=>setRow_other wq b q _ (hnv q hq),(setRow_other wq b _ _ (fun e=>hbw e.symm)).trans g5,⟨by rw[setRow_other wq b g _ (fun e=>hbg e.symm)];exact g6.blk⟩,gr_row2 g7 (by have:=HI.out;obtain⟨-,-,-,-,-,h5,-⟩:=this;have:=hp_lt h5;omega)⟩
        have HBb:Hid ((wq.setRow b #[.string n9,.string v9]).heap[b]?=some (.cells #[.string n9,.string v9] 180 (0,0))):=setRow_heap _ _ _ _ _ _ hbk
        clear hf e4 e5 hIq hG
        refine wpAny_ready (rs:=[15]) (by kernel_rfl) (by simp) ?_
        refine AllReady.cons rfl (fun K hK=>?_) AllReady.nil
        rw[if_pos (by rfl)]
        refine wp_store_row 180 _ _ rfl b #[.string n9,.string v9] e5' e4' 180 _ hbk (by kernel_rfl) rfl (by simp[Value.oneCell']) ?_
        refine hK _ _ ?_
        clear hK K
        go_simp
        refine wpAny_done (by kernel_rfl) ?_ _
        go_simp
        go_wp2
        go_meet
        case rel=>exact⟨b,n9,v9,rfl,hzn,hzv,HBb.out,HSf⟩
       case hstep=>
        intro k2 x L wr i hil hkl hG hi hf
        rcases (show i=0∨i=1∨i=2∨i=3∨i=4∨i=5∨i=6∨i=7∨i=8∨i=9∨i=10∨i=11∨i=12∨i=13∨i=14 by omega) with rfl|rfl|rfl|rfl|rfl|rfl|rfl|rfl|rfl|rfl|rfl|rfl|rfl|rfl|rfl
        ·clear hi hf
         refine wpOp_step rfl (fun K hK=>?_)
         go_simp
         exact hK _ _ ⟨.pointer (some ⟨g,0,none⟩),by simp[put,c7Dst],rfl,gr_refl _ _,(hG.still (Below.refl _ _)).mono (by omega)⟩
        ·have e0:x 44=.pointer (some ⟨g,0,none⟩):=hf 0 (by omega) (ready_dep hi rfl 0 (by kernel_rfl))
         clear hi hf
         obtain⟨hgr,a1,ha1,hs1⟩:=hG
         have hN:=srcWord g o c cp a1 z wr hs1 (HCW.out.grown hgr (Nat.le_refl _)) (by omega) hl
         refine wpOp_step rfl (fun K hK=>?_)
         go_simp
         refine hN.mono ?_
         rintro e w2 ⟨t,a2,rfl,ht,ha2,hs2,hg2⟩
         go_simp
         exact hK _ _ ⟨.string t,by simp[put,c7Dst,e0],⟨t,rfl,by omega⟩,hg2,gr_trans hgr hg2,a2,by omega,hs2⟩
        ·clear hi hf
         refine wpOp_step rfl (fun K hK=>?_)
         go_simp
         have hbb:∀cs,Below wr.heap.size wr (wr.alloc (.cells cs 9)):=fun cs=>(Below.refl _ _).alloc (Nat.le_refl _) _
         refine hK _ _ ⟨.slice (some ⟨wr.heap.size,0,none⟩) 3 3,by simp[put,c7Dst],⟨_,rfl,hG.1.size,?_⟩,gr_below (hbb _),(hG.still (hbb _)).mono (by omega)⟩
         intro k hk
         exact tabM_get (by simpa using hk) (by decide)
        ·clear hi hf
         refine wpOp_step rfl (fun K hK=>?_)
         go_simp
         exact hK _ _ ⟨.pointer (some ⟨g,0,none⟩),by simp[put,c7Dst],rfl,gr_refl _ _,(hG.still (Below.refl _ _)).mono (by omega)⟩
        ·have e0:x 47=.pointer (some ⟨g,0,none⟩):=hf 3 (by omega) (ready_dep hi rfl 3 (by kernel_rfl))
         clear hi hf
         obtain⟨hgr,a1,ha1,hs1⟩:=hG
         have hN:=srcN g o c cp a1 z 3 wr hs1 (HCW.out.grown hgr (Nat.le_refl _)) (by omega) hl (by omega) (by omega)
         refine wpOp_step rfl (fun K hK=>?_)
         go_simp
         refine hN.mono ?_
         rintro e w2 ⟨v,rfl,hv,hs2,hg2⟩
         go_simp
         exact hK _ _ ⟨.int .i64 (v:Int),by simp[put,c7Dst,e0],⟨v,rfl,Nat.zero_le _,by omega⟩,hg2,gr_trans hgr hg2,a1+1,by omega,hs2⟩
        ·have f0:=hf 2 (by omega) (ready_dep hi rfl 2 (by kernel_rfl))
         have f2:=hf 4 (by omega) (ready_dep hi rfl 4 (by kernel_rfl))
         clear hi hf
         obtain⟨b,e0,hb,ht⟩:=f0
         obtain⟨k2,e1,-,hk⟩:=f2
         obtain⟨t,hc,hts⟩:=ht k2 hk
         have hk3:(k2:Int)<3:=by omega
         have e0':x 46=.slice (some ⟨b,0,none⟩) 3 3:=e0
         have e1':x 48=.int .i64 k2:=e1
         clear e0 e1 ht
         refine wpOp_step rfl (fun K hK=>?_)
         go_simp
         exact hK _ _ ⟨.pointer (some ⟨b,k2,none⟩),by simp[put,c7Dst,e0',e1'],⟨b,k2,t,rfl,hb,hc,hts⟩,gr_refl _ _,(hG.still (Below.refl _ _)).mono (by omega)⟩
        ·have f3:=hf 5 (by omega) (ready_dep hi rfl 5 (by kernel_rfl))
         clear hi hf
         obtain⟨b,k2,t,e0,hb,hc,hts⟩:=f3
         have e0':x 49=.pointer (some ⟨b,k2,none⟩):=e0
         clear e0
         refine wpOp_step rfl (fun K hK=>?_)
         go_simp
         exact hK _ _ ⟨.string t,by simp[put,c7Dst,e0'],⟨t,rfl,hts⟩,gr_refl _ _,(hG.still (Below.refl _ _)).mono (by omega)⟩
        ·have f3:=hf 1 (by omega) (ready_dep hi rfl 1 (by kernel_rfl))
         have f4:=hf 6 (by omega) (ready_dep hi rfl 6 (by kernel_rfl))
         clear hi hf
         obtain⟨t,e0,hts⟩:=f3
         obtain⟨t2,e1,hts2⟩:=f4
         have e0':x 45=.string t:=e0
         have e1':x 50=.string t2:=e1
         have n0:¬9223372036854775807<t.size+t2.size:=by omega
         clear e0 e1
         refine wpOp_step rfl (fun K hK=>?_)
         go_simp
         exact hK _ _ ⟨.string (t++t2),by simp[put,c7Dst,e0',e1'],⟨_,rfl,by rw[ByteArray.size_append];omega⟩,gr_refl _ _,(hG.still (Below.refl _ _)).mono (by omega)⟩
        ·clear hi hf
         refine wpOp_step rfl (fun K hK=>?_)
         go_simp
         exact hK _ _ ⟨.int .i64 (k:Int),by simp[put,c7Dst],rfl,gr_refl _ _,(hG.still (Below.refl _ _)).mono (by omega)⟩
        ·have e0:x 52=.int .i64 (k:Int):=hf 8 (by omega) (ready_dep hi rfl 8 (by kernel_rfl))
         clear hi hf
         have cD:=specDec k (by omega) wr
         have hdz:=dec_len10 0 k (by omega)
         refine wpOp_step rfl (fun K hK=>?_)
         go_simp
         refine cD.mono ?_
         rintro e w2 ⟨rfl,hb2⟩
         go_simp
         exact hK _ _ ⟨.string ⟨(decDigits k).toArray⟩,by simp[put,c7Dst,e0],⟨_,rfl,by show(decDigits k).toArray.size≤1;simpa using hdz⟩,gr_below hb2,(hG.still hb2).mono (by omega)⟩
        ·have f3:=hf 7 (by omega) (ready_dep hi rfl 7 (by kernel_rfl))
         have f4:=hf 9 (by omega) (ready_dep hi rfl 9 (by kernel_rfl))
         clear hi hf
         obtain⟨t,e0,hts⟩:=f3
         obtain⟨t2,e1,hts2⟩:=f4
         have e0':x 51=.string t:=e0
         have e1':x 53=.string t2:=e1
         have n0:¬9223372036854775807<t.size+t2.size:=by omega
         clear e0 e1
         refine wpOp_step rfl (fun K hK=>?_)
         go_simp
         exact hK _ _ ⟨.string (t++t2),by simp[put,c7Dst,e0',e1'],⟨_,rfl,by rw[ByteArray.size_append];omega⟩,gr_refl _ _,(hG.still (Below.refl _ _)).mono (by omega)⟩
        ·clear hi hf
         refine wpOp_step rfl (fun K hK=>?_)
         go_simp
         exact hK _ _ ⟨.pointer (some ⟨g,0,none⟩),by simp[put,c7Dst],rfl,gr_refl _ _,(hG.still (Below.refl _ _)).mono (by omega)⟩
        ·have e0:x 55=.pointer (some ⟨g,0,none⟩):=hf 11 (by omega) (ready_dep hi rfl 11 (by kernel_rfl))
         clear hi hf
         obtain⟨hgr,a1,ha1,hs1⟩:=hG
         have hN:=srcValueB g o c cp a1 z wr hs1 (HCW.out.grown hgr (Nat.le_refl _)) (by omega) hl
         refine wpOp_step rfl (fun K hK=>?_)
         go_simp
         refine hN.mono ?_
         rintro e w2 ⟨t,a2,rfl,ht,ha2,hs2,hg2⟩
         go_simp
         exact hK _ _ ⟨.string t,by simp[put,c7Dst,e0],⟨t,rfl,by omega⟩,hg2,gr_trans hgr hg2,a2,by omega,hs2⟩
        ·have f1:=hf 10 (by omega) (ready_dep hi rfl 10 (by kernel_rfl))
         obtain⟨t1,et1,hzt1⟩:=f1
         have et1':x 54=.string t1:=et1
         clear et1
         have f2:=hf 12 (by omega) (ready_dep hi rfl 12 (by kernel_rfl))
         obtain⟨t2,et2,hzt2⟩:=f2
         have et2':x 56=.string t2:=et2
         clear et2
         clear hi hf
         refine wpOp_step rfl (fun K hK=>?_)
         go_simp
         exact hK _ _ ⟨.agg #[.string t1,.string t2],by simp[put,c7Dst,et1',et2'],⟨t1,t2,rfl,by omega,by omega⟩,gr_refl _ _,(hG.still (Below.refl _ _)).mono (by omega)⟩
        ·clear hi hf
         refine wpOp_step rfl (fun K hK=>?_)
         go_simp
         have hbb:∀cs,Below wr.heap.size wr (wr.alloc (.cells cs 180)):=fun cs=>(Below.refl _ _).alloc (Nat.le_refl _) _
         exact hK _ _ ⟨.pointer (some ⟨wr.heap.size,0,none⟩),by simp[put,c7Dst],⟨wr.heap.size,rfl,hG.1.size,hp_alloc _ _⟩,gr_below (hbb _),(hG.still (hbb _)).mono (by omega)⟩
       ·intro k2 j hk2
        simp[Array.getD] at hk2
       ·intro j hj hd
        simp[Array.getD] at hd
      case rest=>
       clear HG HI HCW
       obtain⟨pb,n9,v9,rfl,hz9,hy9,hpb,HI⟩:=hcut
       obtain⟨a9,g1,g2,g3,g4,g5,g6,g7⟩:=HI.out
       have q2:wc.cell? ⟨Bk,2,none⟩=some vv:=by simp[World.cell?,g3]
       have p0:wc.cell? ⟨pb,0,none⟩=some (.string n9):=by simp[World.cell?,hpb]
       have p1:wc.cell? ⟨pb,1,none⟩=some (.string v9):=by simp[World.cell?,hpb]
       have hsq:w.heap.size≤wc.heap.size:=g7.size
       have HO:=mkHid g4
       have HI2:=mkHid (HI.out.below ((Below.refl wc.heap.size wc).alloc (Nat.le_refl _) (.cells #[.string n9,.string v9] 180)))
       clear g1 g2 g3 g4 g5 g6 g7 hpb
       go_wp2_with (at_builtin;go_must (refine wp_appQ (w:=wc.alloc (.cells #[.string n9,.string v9] 180)) rfl _ _ rfl w.heap.size vv F rfl (HO.out.below ((Below.refl wc.heap.size wc).alloc (Nat.le_refl _) _)) n9 v9 ⟨wc.heap.size,0,none⟩ 1 rfl (fd_cellsQ rfl) (by omega) (by simp;omega) ?_;intro v' w' hO' hG';refine Hid.out ?_))
       obtain⟨hc3,hf3,hIn⟩:=HI2.out.push hgl hO' hG'
       have HSf:Hid (CtAt w g o c.length cp z (a+9001+5000*(3-(k-1))) (1+(3-(k-1))) Bk (w'.setCell ⟨Bk,2,none⟩ v')):=by
        obtain⟨a8,k1,k2⟩:=hIn
        have hp:=Hfit.out.push hz9 hy9
        exact⟨T,S,v',_,⟨hp.t,hp.s,Nat.le_trans hp.n (by omega),hp.p⟩,a8,by omega,k2⟩
       obtain⟨o2,c2,rfl⟩:=hO'.shape
       obtain⟨n2,hn2⟩:∃n,(F ++ [(n9,v9)]).length=n:=⟨_,rfl⟩
       rw[hn2] at HSf
       rw[hn2]
       clear hn2 hO' hG' hIn HI HI2 HO q2 p0 p1 Hfit
       refine mkHid ?_
       go_wp2
       go_roundw
       case rel=>exact⟨k-1,by go_num,by omega,HSf⟩
       case measure=>simp[Lib.intOf];omega
     ·obtain⟨T,S,vv,F,hfit,a0,h1,h2,h3,h4,h5,h6,h7⟩:=C1.out
      have HFin:Hid (CtFit T S F 5∧OwnQ w.heap.size vv F (wr.setRow w.heap.size #[.string T,.string S,vv])∧a0≤a+40000∧Src (wr.setRow w.heap.size #[.string T,.string S,vv]) g o c.length cp a0 z∧w.grownBy (wr.setRow w.heap.size #[.string T,.string S,vv]) (some g)):=by
       refine⟨⟨hfit.t,hfit.s,Nat.le_trans hfit.n (by omega),hfit.p⟩,row_stay h4 fun q hq=>setRow_other wr _ q _ (rnb h4 h5 (by decide) q hq),by omega,⟨by rw[setRow_other wr w.heap.size g _ (by omega)];exact h6.blk⟩,gr_row2 h7 (Nat.le_refl _)⟩
      have hR5:=h5
      have hB3:=h3
      obtain⟨o2,c2,rfl⟩:=h4.shape
      clear h4 h5 h3 h6 h7 hfit C1
      go_wp2_with (first|(refine wpL_store_row rfl 141 _ _ rfl w.heap.size _ rfl rfl 141 _ hR5 (by kernel_rfl) rfl (by simp[Value.oneCell']) ?_)|(refine wpL_load_row rfl 141 _ rfl Bk _ 141 (0,0) _ rfl hB3 Tryz.underlying141 rfl (by kernel_rfl) ?_)|go_in)
      exact retC _ _ _ T S o2 _ c2 2 Tryz.results144 rfl hR5 ⟨T,S,_,F,a0,rfl,HFin.out⟩
end Bm
end Go.Proofs.YtacaoiedcfelcaaGreatDoor
