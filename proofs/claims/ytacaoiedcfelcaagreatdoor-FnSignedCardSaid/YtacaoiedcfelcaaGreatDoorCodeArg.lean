import Derived.Test.YtacaoiedcfelcaaGreatDoorDrawKey
import Derived.Test.YtacaoiedcfelcaaGreatDoorCkSgd
import Derived.Test.YtacaoiedcfelcaaGreatDoorDrawOpA
import Derived.ProofKit
import Derived.OpenShut
import Derived.ShutString
import Derived.ChangeOld
import Derived.ChangeSlices
import Derived.Below
import Derived.Carry
set_option maxRecDepth 20000
set_option maxHeartbeats 16000000
namespace Go.Proofs.YtacaoiedcfelcaaGreatDoor
open Go.RowKit Go.Lib Go.Maps
namespace Bm
theorem opAppXs {w:World} {o:Oper} {a:Act} {K:Act→World→Prop} {Q:Exit→Act→World→Prop} (s x:Operand)
  (ho:o.op=.call { callee:=.builtin .append,args:=#[s,x],argTypes:=#[25,25] })
  (B:Nat) (v:Value) (C:List ByteArray) (hs:a.eval s=v) (hown:OwnX B v C w) (u:ByteArray) (g c:Nat) (hx:a.eval x=.slice (some ⟨g,0,none⟩) 1 c) (hnew:w.heap[g]?=some (.cells #[.string u] 9 (0,0))) (hlen:C.length≤1000000) (hB:B≤w.heap.size)
  (h:∀v' w',OwnX B v' (C ++ [u]) w'→w.grownBy w' v.ownBlock→K (a.put o.dst v') w'):o.wp Tryz.prog a w K Q:=by
 obtain⟨i0,hi0,hz0,hz1,hz2⟩:=info_parts Tryz.info9X
 unfold OwnX at hown
 obtain⟨v',w',hr,h2,h3,h4,h5⟩:=run_append_own_at (P:=Tryz.prog) w B 25 o.type 9 i0 (.string ⟨#[]⟩) 1 16 Tryz.underlying25 hi0 hz0 hz1 hz2 rfl (by decide) v C.length (strCellsX C) hown ⟨g,0,none⟩ 1 c [.string u] rfl (by
  intro j y hj
  match j,hj with
  | 0,hj=>simp at hj;subst hj;simp[Addr.add,World.cell?,hnew]) (by
  intro y hy
  simp at hy
  subst hy
  rfl) (by unfold maxLen;omega) (by omega) hB
 unfold Oper.wp execOp
 simp only[ho,resolve,invoke,builtin,Sem.run_bind,Sem.run_pure,Result.andThen_ok,List.map_toArray,List.map_cons,List.map_nil,hs,hx,hr]
 refine h v' w' ?_ h3
 unfold OwnX strCellsX
 rw[List.map_append,List.length_append]
 exact h2
theorem OwnX.lit (B:Nat)(t:ByteArray)(w:World)(hB:B≤w.heap.size):OwnX B (.slice (some ⟨w.heap.size,0,none⟩) 1 1) [t] (w.alloc (.cells #[.string t] 9)):=
 ⟨rfl,.inr ⟨w.heap.size,1,_,rfl,hB,hp_alloc _ _,Nat.le_refl _,by unfold maxLen;omega,rfl,rfl⟩⟩
theorem OwnX.grX {B g:Nat} {v:Value} {P:List ByteArray} {w w':World} (h:OwnX B v P w)(hg:w.grownBy w' (some g))(hB:g<B):OwnX B v P w':=row_same h (Same.gr hg hB (Nat.le_refl _))
structure SgFit (d s:ByteArray)(M:List ByteArray)(n:Nat):Prop where
 d:d.size≤100
 s:s.size≤100
 n:M.length≤n
 p:(∀t ∈ M,t.size≤100∧offZ t=true)∧0<M.length
structure SgIn (w:World)(g:Nat)(o:Option Addr)(cl cp z a' Bk:Nat)(d s:ByteArray)(Ax Bx:Int)(v:Value)(M:List ByteArray)(hh bb:Int)(wx:World):Prop where
 lo:w.heap.size<Bk
 blk:wx.heap[Bk]?=some (.cells #[.string d,.string s,.int .i64 Ax,.int .i64 Bx,v,.int .i64 hh,.int .i64 bb] 27 (0,0))
 own:OwnX w.heap.size v M wx
 res:wx.heap[w.heap.size]?=some (.cells #[.string ⟨#[]⟩,.string ⟨#[]⟩,.int .i64 0,.int .i64 0,.slice none 0 0,.int .i64 0,.int .i64 0] 27 (0,0))
 src:Src wx g o cl cp a' z
 gr:w.grownBy wx (some g)
def SgAt (w:World)(g:Nat)(o:Option Addr)(cl cp z A n Bk:Nat)(wx:World):Prop:=∃d s Ax Bx v M hh bb a',SgFit d s M n∧a'≤A∧SgIn w g o cl cp z a' Bk d s Ax Bx v M hh bb wx
theorem SgIn.gone {w wx wq:World} {g cl cp z a' A Bk q:Nat} {o:Option Addr} {d s:ByteArray} {Ax Bx hh bb:Int} {v:Value} {M:List ByteArray} (h:SgIn w g o cl cp z a' Bk d s Ax Bx v M hh bb wx)(hgl:g<w.heap.size)(hG:GoneBy wx g o cl cp A z q wq):∃a2,a2≤A+q∧SgIn w g o cl cp z a2 Bk d s Ax Bx v M hh bb wq:=by
 obtain⟨hgr,a2,ha2,hs2⟩:=hG
 have:=h.lo
 exact⟨a2,ha2,h.lo,(hgr.block Bk (hp_lt h.blk) (by intro e;have:=Option.some.inj e;omega)).trans h.blk,OwnX.grX h.own hgr hgl,(hgr.block _ (hp_lt h.res) (by intro e;have:=Option.some.inj e;omega)).trans h.res,hs2,gr_trans h.gr hgr⟩
theorem SgIn.below {w wx wq:World} {g cl cp z a' Bk:Nat} {o:Option Addr} {d s:ByteArray} {Ax Bx hh bb:Int} {v:Value} {M:List ByteArray} (h:SgIn w g o cl cp z a' Bk d s Ax Bx v M hh bb wx)(hb:Below wx.heap.size wx wq):SgIn w g o cl cp z a' Bk d s Ax Bx v M hh bb wq:=
 ⟨h.lo,(hb.block Bk (hp_lt h.blk)).trans h.blk,h.own.below hb,(hb.block _ (hp_lt h.res)).trans h.res,h.src.below hb,gr_trans h.gr (gr_below hb)⟩
theorem SgIn.push {w wx w':World} {g cl cp z a' Bk:Nat} {o:Option Addr} {d s:ByteArray} {Ax Bx hh bb:Int} {v v':Value} {M M':List ByteArray} (h:SgIn w g o cl cp z a' Bk d s Ax Bx v M hh bb wx)(hgl:g<w.heap.size)(hO:OwnX w.heap.size v' M' w')(hG:wx.grownBy w' v.ownBlock) :
  w'.cell? ⟨Bk,4,none⟩=some v∧w'.frozen? ⟨Bk,4,none⟩=false∧SgIn w g o cl cp z a' Bk d s Ax Bx v' M' hh bb (w'.setCell ⟨Bk,4,none⟩ v'):=by
 have hb:=rnb h.own h.blk (by decide)
 have hr:=rnb h.own h.res (by decide)
 have h3':=(hG.block Bk (hp_lt h.blk) (fun e=>hb Bk e.symm rfl)).trans h.blk
 have h5':=(hG.block _ (hp_lt h.res) (fun e=>hr _ e.symm rfl)).trans h.res
 have hlow:∀k,v.ownBlock=some k→w.heap.size≤k:=fun k hk=>(World.ownsRow.lt h.own k hk).1
 have hl:=h.lo
 exact⟨by simp[World.cell?,h3'],by simp[World.frozen?,h3'],hl,by simp[World.setCell,Array.getElem?_modify,h3'],row_stay hO fun k hk=>setOther (rnb hO h3' (by decide) k hk),(setOther (by omega)).trans h5',(h.src.row hG (fun k hk=>by have:=hlow k hk;omega)).setC (by omega),gr_setC (gr_row h.gr hG hlow) (by omega)⟩
theorem SgIn.put0 {w wx:World} {g cl cp z a' Bk:Nat} {o:Option Addr} {d s:ByteArray} {Ax Bx hh bb:Int} {v:Value} {M:List ByteArray} (h:SgIn w g o cl cp z a' Bk d s Ax Bx v M hh bb wx)(hgl:g<w.heap.size)(t:ByteArray) :
  wx.cell? ⟨Bk,0,none⟩=some (.string d)∧wx.frozen? ⟨Bk,0,none⟩=false∧SgIn w g o cl cp z a' Bk t s Ax Bx v M hh bb (wx.setCell ⟨Bk,0,none⟩ (.string t)):=by
 have h3:=h.blk
 have hl:=h.lo
 exact⟨by simp[World.cell?,h3],by simp[World.frozen?,h3],hl,by simp[World.setCell,Array.getElem?_modify,h3],row_stay h.own fun k hk=>setOther (rnb h.own h3 (by decide) k hk),(setOther (by omega)).trans h.res,h.src.setC (by omega),gr_setC h.gr (by omega)⟩
theorem SgIn.put1 {w wx:World} {g cl cp z a' Bk:Nat} {o:Option Addr} {d s:ByteArray} {Ax Bx hh bb:Int} {v:Value} {M:List ByteArray} (h:SgIn w g o cl cp z a' Bk d s Ax Bx v M hh bb wx)(hgl:g<w.heap.size)(t:ByteArray) :
  wx.cell? ⟨Bk,1,none⟩=some (.string s)∧wx.frozen? ⟨Bk,1,none⟩=false∧SgIn w g o cl cp z a' Bk d t Ax Bx v M hh bb (wx.setCell ⟨Bk,1,none⟩ (.string t)):=by
 have h3:=h.blk
 have hl:=h.lo
 exact⟨by simp[World.cell?,h3],by simp[World.frozen?,h3],hl,by simp[World.setCell,Array.getElem?_modify,h3],row_stay h.own fun k hk=>setOther (rnb h.own h3 (by decide) k hk),(setOther (by omega)).trans h.res,h.src.setC (by omega),gr_setC h.gr (by omega)⟩
theorem SgIn.put5 {w wx:World} {g cl cp z a' Bk:Nat} {o:Option Addr} {d s:ByteArray} {Ax Bx hh bb:Int} {v:Value} {M:List ByteArray} (h:SgIn w g o cl cp z a' Bk d s Ax Bx v M hh bb wx)(hgl:g<w.heap.size)(t:Int) :
  wx.cell? ⟨Bk,5,none⟩=some (.int .i64 hh)∧wx.frozen? ⟨Bk,5,none⟩=false∧SgIn w g o cl cp z a' Bk d s Ax Bx v M t bb (wx.setCell ⟨Bk,5,none⟩ (.int .i64 t)):=by
 have h3:=h.blk
 have hl:=h.lo
 exact⟨by simp[World.cell?,h3],by simp[World.frozen?,h3],hl,by simp[World.setCell,Array.getElem?_modify,h3],row_stay h.own fun k hk=>setOther (rnb h.own h3 (by decide) k hk),(setOther (by omega)).trans h.res,h.src.setC (by omega),gr_setC h.gr (by omega)⟩
theorem SgFit.push {d s:ByteArray} {M:List ByteArray} {k:Nat} (h:SgFit d s M k) {t:ByteArray} (ht:t.size≤100∧offZ t=true):SgFit d s (M ++ [t]) (k+1) where
 d:=h.d
 s:=h.s
 n:=by rw[List.length_append];exact Nat.add_le_add_right h.n 1
 p:=by
  refine⟨fun f hf=>?_,by simp⟩
  rcases List.mem_append.1 hf with hf|hf
  ·exact h.p.1 f hf
  ·simp only[List.mem_cons,List.not_mem_nil,or_false] at hf
   subst hf
   exact ht
theorem retG (w wr:World)(tmps:Array Value)(d s:ByteArray)(Ax Bx hh bb:Int)(o2:Option Addr)(n2 c2:Nat)(p0:Nat)(hp0:Tryz.f13.results=#[.cell p0 27])(hp:tmps.getD p0 undef=.pointer (some ⟨w.heap.size,0,none⟩)) {old:Array Value} (hres:wr.heap[w.heap.size]?=some (.cells old 27 (0,0))) {Post:Ending→World→Prop} (hP:Post (.returned (.agg #[.string d,.string s,.int .i64 Ax,.int .i64 Bx,.slice o2 n2 c2,.int .i64 hh,.int .i64 bb])) (wr.setRow w.heap.size #[.string d,.string s,.int .i64 Ax,.int .i64 Bx,.slice o2 n2 c2,.int .i64 hh,.int .i64 bb])) :
  bodyPost Tryz.prog Tryz.f13 Post Exit.ret { tmps:=tmps,defers:=[] } (wr.setRow w.heap.size #[.string d,.string s,.int .i64 Ax,.int .i64 Bx,.slice o2 n2 c2,.int .i64 hh,.int .i64 bb]):=by
 refine bodyPost_ret (v:=.agg #[.string d,.string s,.int .i64 Ax,.int .i64 Bx,.slice o2 n2 c2,.int .i64 hh,.int .i64 bb]) (results_cell_row hp0 _ _ w.heap.size 27 _ (0,0) _ hp (setRow_heap _ _ _ _ _ _ hres) Tryz.underlying27 rfl ?_) rfl hP
 kernel_rfl
def s5Fact (vv:Value)(Bk:Nat)(g B:Nat)(j:Nat)(v:Value)(w:World):Prop:=
 match j with
 | 0=>v=.pointer (some ⟨Bk,4,none⟩)
 | 1=>v=vv
 | 2=>v=.pointer (some ⟨g,0,none⟩)
 | 3=>∃ t:ByteArray,v=.string t∧t.size≤80∧notZ t=true
 | 4=>∃ (b:Nat) (t9:ByteArray),v=.slice (some ⟨b,0,none⟩) 1 1∧B≤b∧w.heap[b]?=some (.cells #[.string t9] 9 (0,0))∧t9.size≤100∧offZ t9=true
 | _=>True
def s14Fact (vv:Value)(Bk:Nat)(g B:Nat)(j:Nat)(v:Value)(w:World):Prop:=
 match j with
 | 0=>v=.pointer (some ⟨Bk,4,none⟩)
 | 1=>v=vv
 | 2=>tabM 3 B 4 v w
 | 3=>v=.pointer (some ⟨g,0,none⟩)
 | 4=>numM 0 4 v
 | 5=>ptrM 3 B v w
 | 6=>txtM 3 v
 | 7=>∃ (b:Nat) (t9:ByteArray),v=.slice (some ⟨b,0,none⟩) 1 1∧B≤b∧w.heap[b]?=some (.cells #[.string t9] 9 (0,0))∧t9.size≤100∧offZ t9=true
 | _=>True
def s5Dst (j:Nat):Nat:=
 match j with
 | 0=>19
 | 1=>20
 | 2=>21
 | 3=>22
 | 4=>23
 | _=>999
def s14Dst (j:Nat):Nat:=
 match j with
 | 0=>55
 | 1=>56
 | 2=>57
 | 3=>58
 | 4=>59
 | 5=>60
 | 6=>61
 | 7=>62
 | _=>999
theorem s5Fact.gr {vv:Value} {Bk:Nat} {g B:Nat} (hB:g<B)(j:Nat)(v:Value)(w w':World)(h:s5Fact vv Bk g B j v w)(hg:w.grownBy w' (some g)):s5Fact vv Bk g B j v w':=by
 unfold s5Fact at h ⊢
 split
 case h_5=>
  obtain⟨b,t9,h1,h2,h3,h4⟩:=h
  exact⟨b,t9,h1,h2,by rw[hg.block b (hp_lt h3) (by intro e;have:=Option.some.inj e;omega)];exact h3,h4⟩
 all_goals first
  | exact tabM.gr h hg hB
  | exact ptrM.gr h hg hB
  | exact h
  | trivial
theorem s14Fact.gr {vv:Value} {Bk:Nat} {g B:Nat} (hB:g<B)(j:Nat)(v:Value)(w w':World)(h:s14Fact vv Bk g B j v w)(hg:w.grownBy w' (some g)):s14Fact vv Bk g B j v w':=by
 unfold s14Fact at h ⊢
 split
 case h_8=>
  obtain⟨b,t9,h1,h2,h3,h4⟩:=h
  exact⟨b,t9,h1,h2,by rw[hg.block b (hp_lt h3) (by intro e;have:=Option.some.inj e;omega)];exact h3,h4⟩
 all_goals first
  | exact tabM.gr h hg hB
  | exact ptrM.gr h hg hB
  | exact h
  | trivial
set_option maxRecDepth 40000 in
theorem srcSigner (g:Nat)(o:Option Addr)(c:List UInt8)(cp a z:Nat)(w:World)(h:Src w g o c.length cp a z)(hc:Code g w o c)(ha:a≤700000000000)(hl:c.length≤1048576) :
  Calls Tryz.prog 13 #[.pointer (some ⟨g,0,none⟩)] w fun e w'=>∃ (d s:ByteArray) (Ax Bx hh bb:Int) (v:Value) (M:List ByteArray) (a':Nat),e=.returned (.agg #[.string d,.string s,.int .i64 Ax,.int .i64 Bx,v,.int .i64 hh,.int .i64 bb])∧SgFit d s M 8∧OwnX w.heap.size v M w'∧Src w' g o c.length cp a' z∧w.grownBy w' (some g):=by
 have HC:Hid (Code g w o c):=hc
 have hgl:=h.lt
 have Hs:=mkHid h
 have Hg:Hid (w.grownBy w (some g)):=gr_refl _ _
 clear h hc
 go_enter Tryz.func13,Tryz.ntmps13
 go_upto_region 1 with fail
 obtain⟨W1,hW1⟩:∃V,w.alloc (.cells #[.string ⟨#[]⟩,.string ⟨#[]⟩,.int .i64 0,.int .i64 0,.slice none 0 0,.int .i64 0,.int .i64 0] 27)=V:=⟨_,rfl⟩
 have b1:Below w.heap.size w W1:=by rw[← hW1];exact(Below.refl _ _).alloc (Nat.le_refl _) _
 have hz1:W1.heap.size=w.heap.size+1:=by rw[← hW1];simp
 have HR1:Hid (W1.heap[w.heap.size]?=some (.cells #[.string ⟨#[]⟩,.string ⟨#[]⟩,.int .i64 0,.int .i64 0,.slice none 0 0,.int .i64 0,.int .i64 0] 27 (0,0))):=by rw[← hW1];exact hp_alloc _ _
 have Hs1:=mkHid (Hs.out.below b1)
 have Hg1:Hid (w.grownBy W1 (some g)):=gr_below b1
 rw[hW1]
 clear hW1 b1 Hs Hg
 go_cut [3] from 200 (fun v wx=>∃ Bk,v=.pointer (some ⟨Bk,0,none⟩)∧Hid (SgAt w g o c.length cp z (a+40) 1 Bk wx))
 case first=>
  have hK:=mkHid (srcKey g o c cp a z W1 Hs1.out (HC.out.grown Hg1.out (Nat.le_refl _)) (by omega) hl)
  go_wp2_with fail
  refine hK.out.mono ?_
  rintro e w2 ⟨d,s,Ax,Bx,a2,rfl,hd,hs,-,-,-,-,ha2,hs2,hg2⟩
  have Hg2:=mkHid (gr_trans Hg1.out hg2)
  have HR2:Hid (w2.heap[w.heap.size]?=some (.cells #[.string ⟨#[]⟩,.string ⟨#[]⟩,.int .i64 0,.int .i64 0,.slice none 0 0,.int .i64 0,.int .i64 0] 27 (0,0))):=(hg2.block _ (hp_lt HR1.out) (by intro e;have:=Option.some.inj e;omega)).trans HR1.out
  have bA:Below w2.heap.size w2 (w2.alloc (.cells #[.string (⟨#[70,114,111,109]⟩:ByteArray)] 9)):=(Below.refl _ _).alloc (Nat.le_refl _) _
  have hszw:w.heap.size≤w2.heap.size:=Hg2.out.size
  have HO:=mkHid (OwnX.lit w.heap.size (⟨#[70,114,111,109]⟩:ByteArray) w2 hszw)
  have hN:=mkHid (srcN g o c cp a2 z 2 (w2.alloc (.cells #[.string (⟨#[70,114,111,109]⟩:ByteArray)] 9)) (hs2.below bA) (HC.out.grown (gr_trans Hg2.out (gr_below bA)) (Nat.le_refl _)) (by omega) hl (by omega) (by omega))
  have HgA:=mkHid (gr_trans Hg2.out (gr_below bA))
  have HRA:=mkHid ((bA.block _ (hp_lt HR2.out)).trans HR2.out)
  clear hK hs2 hg2 bA Hs1 Hg1 HR1 Hg2 HR2
  go_wp2_with fail
  refine hN.out.mono ?_
  rintro e w3 ⟨hh,rfl,hhh,hs3,hg3⟩
  have HO3:=mkHid (OwnX.grX HO.out hg3 hgl)
  have HgB:=mkHid (gr_trans HgA.out hg3)
  have HRB:=mkHid ((hg3.block _ (hp_lt HRA.out) (by intro e;have:=Option.some.inj e;omega)).trans HRA.out)
  have hN2:=mkHid (srcN g o c cp (a2+1) z 2 w3 hs3 (HC.out.grown HgB.out (Nat.le_refl _)) (by omega) hl (by omega) (by omega))
  clear hN hs3 hg3 HO HgA HRA
  go_wp2_with fail
  refine hN2.out.mono ?_
  rintro e w4 ⟨bb,rfl,hbb,hs4,hg4⟩
  have HSf:Hid (SgAt w g o c.length cp z (a+40) 1 w4.heap.size (w4.alloc (.cells #[.string d,.string s,.int .i64 Ax,.int .i64 Bx,.slice (some ⟨w2.heap.size,0,none⟩) 1 1,.int .i64 (hh:Int),.int .i64 (bb:Int)] 27))):=by
   have hb5:Below w4.heap.size w4 (w4.alloc (.cells #[.string d,.string s,.int .i64 Ax,.int .i64 Bx,.slice (some ⟨w2.heap.size,0,none⟩) 1 1,.int .i64 (hh:Int),.int .i64 (bb:Int)] 27)):=(Below.refl _ _).alloc (Nat.le_refl _) _
   have HO4:=OwnX.grX HO3.out hg4 hgl
   have hR4:=(hg4.block _ (hp_lt HRB.out) (by intro e;have:=Option.some.inj e;omega)).trans HRB.out
   exact⟨d,s,Ax,Bx,_,[(⟨#[70,114,111,109]⟩:ByteArray)],hh,bb,a2+1+1,⟨by omega,by omega,by simp,⟨fun t ht=>by simp only[List.mem_cons,List.not_mem_nil,or_false] at ht;subst ht;decide,by simp⟩⟩,by omega,hp_lt hR4,hp_alloc _ _,HO4.below hb5,(hb5.block _ (hp_lt hR4)).trans hR4,hs4.below hb5,gr_trans HgB.out (gr_trans hg4 (gr_below hb5))⟩
  clear hN2 hs4 hg4 HO3 HgB HRB
  go_wp2
  go_meet
  case rel=>exact⟨_,rfl,HSf⟩
 case rest=>
  clear Hs1 Hg1 HR1
  obtain⟨Bk,rfl,C1⟩:=hcut
  obtain⟨d,s,Ax,Bx,vv,M,hh,bb,a0,hfit,ha0,hI⟩:=C1.out
  have hN:=mkHid (srcN g o c cp a0 z 5 wc hI.src (HC.out.grown hI.gr (Nat.le_refl _)) (by omega) hl (by omega) (by omega))
  have HI:=mkHid hI
  have Hfit:=mkHid hfit
  have hbw:w.heap.size<Bk:=hI.lo
  clear hI hfit C1
  go_wp2_with fail
  refine hN.out.mono ?_
  rintro e w2 ⟨k0,rfl,hk0,hs2,hg2⟩
  have C2:Hid (SgAt w g o c.length cp z (a+41) 1 Bk w2):=by
   obtain⟨a9,ha9,hM⟩:=HI.out.gone hgl (q:=1) ⟨hg2,a0+1,Nat.le_refl _,hs2⟩
   exact⟨d,s,Ax,Bx,vv,M,hh,bb,a9,Hfit.out,by omega,hM⟩
  clear hN hs2 hg2 HI Hfit
  go_wp2
  go_loopw [4] (fun kv wx=>∃ k:Nat,kv=.int .i64 k∧k≤4∧Hid (SgAt w g o c.length cp z (a+41+3000*(4-k)) (1+(4-k)) Bk wx)) (fun kv _=>(Lib.intOf kv).toNat)
  case atStart=>exact⟨k0,rfl,by omega,(by obtain⟨d,s,Ax,Bx,vv,M,hh,bb,a0,hfit,ha0,hI⟩:=C2.out;exact⟨d,s,Ax,Bx,vv,M,hh,bb,a0,⟨hfit.d,hfit.s,Nat.le_trans hfit.n (by omega),hfit.p⟩,by omega,hI⟩)⟩
  case round=>
   clear C2
   obtain⟨k,rfl,hk4,C1⟩:=hrel
   by_cases hk:0<k
   ·obtain⟨d,s,Ax,Bx,vv,M,hh,bb,a0,hfit,ha0,hI⟩:=C1.out
    have HI:=mkHid hI
    have Hfit:=mkHid hfit
    have hMl:M.length≤5:=Nat.le_trans hfit.n (by omega)
    have HB4:Hid (wr.cell? ⟨Bk,4,none⟩=some vv):=by show _=_;simp[World.cell?,hI.blk]
    have HCW:Hid (Code g wr o c):=HC.out.grown hI.gr (Nat.le_refl _)
    have hgr0:g<wr.heap.size:=hI.src.lt
    have HG:Hid (GoneBy wr g o c.length cp a0 z (300*0) wr.drew):=⟨gr_below (Below.refl _ _).drew,a0,by omega,hI.src.below (Below.refl _ _).drew⟩
    clear hI hfit C1
    go_wp2
    obtain⟨W0,hW0⟩:∃V,V=wr:=⟨_,rfl⟩
    subst hW0
    refine wp_region_any (by kernel_rfl) ?_
    refine wpAny_phase 5 3 #[true,true,true,true,true,false,false,false] s5Dst (fun x=>rgAct [] [_,_,_,_,_,_,_,_,_,_,_,_,_,_,_,_,_,_,_,x 19,x 20,x 21,x 22,x 23,_,_,_,_,_,_,_,_,_,_,_,_,_,_,_,_,_,_,_,_,_,_,_,_,_,_,_,_,_,_,_,_,_,_,_,_,_,_,_,_,_,_,_,_,_,_,_,_] []) (s5Fact vv Bk g W0.heap.size) (fun q w=>GoneBy W0 g o c.length cp (a0) z (300*q) w) (fun w w'=>w.grownBy w' (some g)) rfl rfl (by decide) rfl (by kernel_rfl) (by kernel_rfl) ?_ (s5Fact.gr hgr0) ?hend ?hstep _ _ 0 (fun j=>match j with|19=>u19|20=>u20|21=>u21|22=>u22|23=>u23|_=>undef) _ rfl rfl rfl (by intro j hj;simp[Array.getD]) ?_ HG.out ?_
    ·intro i j hi hj hne
     have e1:∀q,q<5→∀r,r<5→q≠r→s5Dst q≠s5Dst r:=by decide
     exact e1 j hj i hi hne
    case hend=>
     intro x wq hG hf
     have f1:x 20=vv:=hf 1 (by decide)
     obtain⟨b,t9,e4,hb,hbk,hz9⟩:=hf 4 (by decide)
     have e4':x 23=.slice (some ⟨b,0,none⟩) 1 1:=e4
     obtain⟨a9,ha9,hMq⟩:=HI.out.gone hgl hG
     have HMq:=mkHid hMq
     have hsq:w.heap.size≤wq.heap.size:=hMq.gr.size
     have hOwn:=hMq.own
     clear hf hG hMq e4
     refine wpAny_ready (rs:=[5]) (by kernel_rfl) (by simp) ?_
     refine AllReady.cons rfl (fun K hK=>?_) AllReady.nil
     rw[if_pos (by rfl)]
     refine opAppXs _ _ rfl w.heap.size vv M f1 hOwn t9 b 1 e4' hbk (by omega) hsq ?_
     intro v' w' hO' hG'
     refine hK _ _ ?_
     clear hK K
     obtain⟨hc3,hf3,hIn⟩:=HMq.out.push hgl hO' hG'
     have HSf:Hid (SgAt w g o c.length cp z (a+41+3000*(4-(k-1))) (1+(4-(k-1))) Bk (w'.setCell ⟨Bk,4,none⟩ v')):=by
      have hp:=Hfit.out.push hz9
      exact⟨d,s,Ax,Bx,v',_,hh,bb,a9,⟨hp.d,hp.s,Nat.le_trans hp.n (by omega),hp.p⟩,by omega,hIn⟩
     obtain⟨o2,c2,rfl⟩:=hO'.shape
     obtain⟨n2,hn2⟩:∃n,(M ++ [t9]).length=n:=⟨_,rfl⟩
     rw[hn2] at HSf
     rw[hn2]
     clear hn2 hO' hG' hIn HMq HI HG HB4 hbk hOwn f1
     show wpAny _ _ _ _ 2 _ (rgAct [] [_,_,_,_,_,_,_,_,_,_,_,_,_,_,_,_,_,_,_,x 19,x 20,x 21,x 22,x 23,.slice o2 n2 c2,_,_,_,_,_,_,_,_,_,_,_,_,_,_,_,_,_,_,_,_,_,_,_,_,_,_,_,_,_,_,_,_,_,_,_,_,_,_,_,_,_,_,_,_,_,_,_] []) _
     generalize x 19=y19
     generalize x 20=y20
     generalize x 21=y21
     generalize x 22=y22
     generalize x 23=y23
     go_simp
     refine wpAny_ready (rs:=[6]) (by kernel_rfl) (by simp) ?_
     refine AllReady.cons rfl (fun K hK=>?_) AllReady.nil
     go_simp
     refine hK _ _ ?_
     clear hK K
     go_simp
     refine wpAny_ready (rs:=[7]) (by kernel_rfl) (by simp) ?_
     refine AllReady.cons rfl (fun K hK=>?_) AllReady.nil
     go_simp
     refine hK _ _ ?_
     clear hK K
     go_simp
     refine wpAny_done (by kernel_rfl) ?_ _
     go_simp
     go_wp2
     refine⟨⟨k-1,by go_num,by omega,HSf⟩,by simp[Lib.intOf];omega⟩
    case hstep=>
     intro k2 x L wr i hil hkl hG hi hf
     rcases (show i=0∨i=1∨i=2∨i=3∨i=4 by omega) with rfl|rfl|rfl|rfl|rfl
     ·clear hi hf
      refine wpOp_step rfl (fun K hK=>?_)
      go_simp
      exact hK _ _ ⟨.pointer (some ⟨Bk,4,none⟩),by simp[put,s5Dst],rfl,gr_refl _ _,(hG.still (Below.refl _ _)).mono (by omega)⟩
     ·have e0:x 19=.pointer (some ⟨Bk,4,none⟩):=hf 0 (by omega) (ready_dep hi rfl 0 (by kernel_rfl))
      clear hi hf
      have hcel:wr.cell? ⟨Bk,4,none⟩=some vv:=gr_cell hG.1 (show Bk≠g by omega) HB4.out
      refine wpOp_step rfl (fun K hK=>?_)
      go_simp
      exact hK _ _ ⟨vv,by simp[put,s5Dst,e0],rfl,gr_refl _ _,(hG.still (Below.refl _ _)).mono (by omega)⟩
     ·clear hi hf
      refine wpOp_step rfl (fun K hK=>?_)
      go_simp
      exact hK _ _ ⟨.pointer (some ⟨g,0,none⟩),by simp[put,s5Dst],rfl,gr_refl _ _,(hG.still (Below.refl _ _)).mono (by omega)⟩
     ·have e0:x 21=.pointer (some ⟨g,0,none⟩):=hf 2 (by omega) (ready_dep hi rfl 2 (by kernel_rfl))
      clear hi hf
      obtain⟨hgr,a1,ha1,hs1⟩:=hG
      have hN:=srcNameB g o c cp a1 z wr hs1 (HCW.out.grown hgr (Nat.le_refl _)) (by omega) hl
      refine wpOp_step rfl (fun K hK=>?_)
      go_simp
      refine hN.mono ?_
      rintro e w2 ⟨t,a2,rfl,ht,htz,ha2,hs2,hg2⟩
      go_simp
      exact hK _ _ ⟨.string t,by simp[put,s5Dst,e0],⟨t,rfl,by omega,htz⟩,hg2,gr_trans hgr hg2,a2,by omega,hs2⟩
     ·have f1:=hf 3 (by omega) (ready_dep hi rfl 3 (by kernel_rfl))
      obtain⟨t1,et1,hzt1,hnz1⟩:=f1
      have et1':x 22=.string t1:=et1
      clear et1
      clear hi hf
      refine wpOp_step rfl (fun K hK=>?_)
      go_simp
      have hbb:∀cs,Below wr.heap.size wr (wr.alloc (.cells cs 9)):=fun cs=>(Below.refl _ _).alloc (Nat.le_refl _) _
      exact hK _ _ ⟨.slice (some ⟨wr.heap.size,0,none⟩) 1 1,by simp[put,s5Dst,et1'],⟨wr.heap.size,t1,rfl,hG.1.size,hp_alloc _ _,by omega,offZ.nz hnz1⟩,gr_below (hbb _),(hG.still (hbb _)).mono (by omega)⟩
    ·intro k2 j hk2
     simp[Array.getD] at hk2
    ·intro j hj hd
     simp[Array.getD] at hd
   ·obtain⟨d,s,Ax,Bx,vv,M,hh,bb,a0,hfit,ha0,hI⟩:=C1.out
    have hN:=mkHid (srcOne g o c cp a0 z 5 wr hI.src (HC.out.grown hI.gr (Nat.le_refl _)) (by omega) hl (by omega) (by omega))
    have HI:=mkHid hI
    have Hfit:=mkHid hfit
    have hMl:M.length≤5:=Nat.le_trans hfit.n (by omega)
    clear hI hfit C1
    go_wp2_with fail
    refine hN.out.mono ?_
    rintro e w2 ⟨b,rfl,hs2,hg2⟩
    obtain⟨a2,ha2,hI2⟩:=HI.out.gone hgl (q:=1) ⟨hg2,a0+1,Nat.le_refl _,hs2⟩
    have HI2:=mkHid hI2
    clear hN hs2 hg2 hI2 HI
    go_upto_if 27 with fail
    go_cut [] from 200 (fun wx=>Hid (SgAt w g o c.length cp z (a+20000) 6 Bk wx))
    case first=>
     cases b
     ·have HSf:Hid (SgAt w g o c.length cp z (a+20000) 6 Bk w2):=⟨d,s,Ax,Bx,vv,M,hh,bb,a2,⟨Hfit.out.d,Hfit.out.s,by omega,Hfit.out.p⟩,by omega,HI2.out⟩
      clear HI2 Hfit
      go_wp2
      go_meet
      case rel=>exact HSf
     ·have hcB:w2.cell? ⟨Bk,4,none⟩=some vv:=by simp[World.cell?,HI2.out.blk]
      have hsq:w.heap.size≤w2.heap.size:=HI2.out.gr.size
      have hOwn:=HI2.out.own
      have HI3:=mkHid (HI2.out.below ((Below.refl w2.heap.size w2).alloc (Nat.le_refl _) (.cells #[.string (⟨#[83,105,103,110,97,116,117,114,101]⟩:ByteArray)] 9)))
      go_wp2_with (at_builtin;go_must (refine wp_appX (w:=w2) rfl _ _ rfl w.heap.size vv M rfl hOwn (⟨#[83,105,103,110,97,116,117,114,101]⟩:ByteArray) 1 rfl (by omega) hsq ?_;intro v' w' hO' hG';refine Hid.out ?_))
      obtain⟨hc3,hf3,hIn⟩:=HI3.out.push hgl hO' hG'
      have HSf:Hid (SgAt w g o c.length cp z (a+20000) 6 Bk (w'.setCell ⟨Bk,4,none⟩ v')):=by
       have hp:=Hfit.out.push (t:=(⟨#[83,105,103,110,97,116,117,114,101]⟩:ByteArray)) (by decide)
       exact⟨d,s,Ax,Bx,v',_,hh,bb,a2,⟨hp.d,hp.s,by rw[List.length_append];simp;omega,hp.p⟩,by omega,hIn⟩
      obtain⟨o2,c2,rfl⟩:=hO'.shape
      obtain⟨n2,hn2⟩:∃n,(M ++ [(⟨#[83,105,103,110,97,116,117,114,101]⟩:ByteArray)]).length=n:=⟨_,rfl⟩
      rw[hn2] at HSf
      rw[hn2]
      clear hn2 hO' hG' hIn HI3 HI2 hOwn Hfit hcB
      refine mkHid ?_
      go_wp2
      go_meet
      case rel=>exact HSf
    case rest=>
     have C1:=mkHid hcut.out
     clear hcut HI2 Hfit
     obtain⟨d,s,Ax,Bx,vv,M,hh,bb,a0,hfit,ha0,hI⟩:=C1.out
     have hN:=mkHid (srcN g o c cp a0 z 12 wc hI.src (HC.out.grown hI.gr (Nat.le_refl _)) (by omega) hl (by omega) (by omega))
     have HI:=mkHid hI
     have Hfit:=mkHid hfit
     clear hI hfit C1
     go_wp2_with fail
     refine hN.out.mono ?_
     rintro e w3 ⟨kd,rfl,hkd,hs3,hg3⟩
     have C1:Hid (SgAt w g o c.length cp z (a+20001) 6 Bk w3):=by
      obtain⟨a9,ha9,hM⟩:=HI.out.gone hgl (q:=1) ⟨hg3,a0+1,Nat.le_refl _,hs3⟩
      exact⟨d,s,Ax,Bx,vv,M,hh,bb,a9,Hfit.out,by omega,hM⟩
     clear hN hs3 hg3 HI Hfit
     go_upto_block 2 with fail
     obtain⟨wc,hwc⟩:∃V,V=w3:=⟨_,rfl⟩
     subst hwc
     go_cut [34] from 200 (fun _ wx=>Hid (SgAt w g o c.length cp z (a+30000) 7 Bk wx))
     case first=>
      obtain⟨d,s,Ax,Bx,vv,M,hh,bb,a0,hfit,ha0,hI⟩:=C1.out
      rcases (show kd=0∨kd=1∨kd=2∨kd=3∨4≤kd by omega) with hv|hv|hv|hv|hv
      ·have b0:((kd:Int)==0)=true:=by rw[hv];rfl
       clear hv
       have hbA:∀cs,Below wc.heap.size wc (wc.alloc (.cells cs 9)):=fun cs=>(Below.refl _ _).alloc (Nat.le_refl _) _
       have hN:=mkHid (fun cs=>srcN g o c cp a0 z 6 (wc.alloc (.cells cs 9)) (hI.src.below (hbA cs)) (HC.out.grown (gr_trans hI.gr (gr_below (hbA cs))) (Nat.le_refl _)) (by omega) hl (by omega) (by omega))
       have hgc:g<wc.heap.size:=hI.src.lt
       have HI:=mkHid hI
       have Hfit:=mkHid hfit
       clear hI hfit C1
       go_wp2_with fail
       refine(hN.out _).mono ?_
       rintro e w2 ⟨u,rfl,hu,hs2,hg2⟩
       obtain⟨t,hct,hzt⟩:=table_at (M:=20) hg2 hgc (show u<6 by omega) (by decide)
       have hu5:u<6:=by omega
       obtain⟨a2,ha2,hI2⟩:=HI.out.gone hgl (q:=1) ⟨gr_trans (gr_below (hbA _)) hg2,a0+1,Nat.le_refl _,hs2⟩
       obtain⟨q5,f5,hI4⟩:=hI2.put0 hgl t
       have HSf:Hid (SgAt w g o c.length cp z (a+30000) 7 Bk (w2.setCell ⟨Bk,0,none⟩ (.string t))):=⟨t,s,Ax,Bx,vv,M,hh,bb,a2,⟨by omega,Hfit.out.s,Nat.le_trans Hfit.out.n (by omega),Hfit.out.p⟩,by omega,hI4⟩
       clear hN hs2 hg2 hI2 hI4 HI hbA Hfit
       go_wp2
       go_meet
       case rel=>exact HSf
      ·have b0:((kd:Int)==0)=false:=beq_eq_false_iff_ne.2 (by omega)
       have b1:((kd:Int)==1)=true:=by rw[hv];rfl
       clear hv
       have hbA:∀cs,Below wc.heap.size wc (wc.alloc (.cells cs 9)):=fun cs=>(Below.refl _ _).alloc (Nat.le_refl _) _
       have hN:=mkHid (fun cs=>srcN g o c cp a0 z 3 (wc.alloc (.cells cs 9)) (hI.src.below (hbA cs)) (HC.out.grown (gr_trans hI.gr (gr_below (hbA cs))) (Nat.le_refl _)) (by omega) hl (by omega) (by omega))
       have hgc:g<wc.heap.size:=hI.src.lt
       have HI:=mkHid hI
       have Hfit:=mkHid hfit
       clear hI hfit C1
       go_wp2_with fail
       refine(hN.out _).mono ?_
       rintro e w2 ⟨u,rfl,hu,hs2,hg2⟩
       obtain⟨t,hct,hzt⟩:=table_at (M:=20) hg2 hgc (show u<3 by omega) (by decide)
       have hu5:u<3:=by omega
       obtain⟨a2,ha2,hI2⟩:=HI.out.gone hgl (q:=1) ⟨gr_trans (gr_below (hbA _)) hg2,a0+1,Nat.le_refl _,hs2⟩
       obtain⟨q5,f5,hI4⟩:=hI2.put1 hgl t
       have HSf:Hid (SgAt w g o c.length cp z (a+30000) 7 Bk (w2.setCell ⟨Bk,1,none⟩ (.string t))):=⟨d,t,Ax,Bx,vv,M,hh,bb,a2,⟨Hfit.out.d,by omega,Nat.le_trans Hfit.out.n (by omega),Hfit.out.p⟩,by omega,hI4⟩
       clear hN hs2 hg2 hI2 hI4 HI hbA Hfit
       go_wp2
       go_meet
       case rel=>exact HSf
      ·have b0:((kd:Int)==0)=false:=beq_eq_false_iff_ne.2 (by omega)
       have b1:((kd:Int)==1)=false:=beq_eq_false_iff_ne.2 (by omega)
       have b2:((kd:Int)==2)=true:=by rw[hv];rfl
       clear hv
       have HI:=mkHid hI
       have Hfit:=mkHid hfit
       have hMl:M.length≤6:=hfit.n
       have HB4:Hid (wc.cell? ⟨Bk,4,none⟩=some vv):=by show _=_;simp[World.cell?,hI.blk]
       have HCW:Hid (Code g wc o c):=HC.out.grown hI.gr (Nat.le_refl _)
       have hgr0:g<wc.heap.size:=hI.src.lt
       have HG:Hid (GoneBy wc g o c.length cp a0 z (300*0) wc.drew):=⟨gr_below (Below.refl _ _).drew,a0,by omega,hI.src.below (Below.refl _ _).drew⟩
       clear hI hfit C1
       go_wp2
       refine wp_region_any (by kernel_rfl) ?_
       refine wpAny_phase 8 3 #[true,true,true,true,true,true,true,true,false,false,false] s14Dst (fun x=>rgAct [] [_,_,_,_,_,_,_,_,_,_,_,_,_,_,_,_,_,_,_,_,_,_,_,_,_,_,_,_,_,_,_,_,_,_,_,_,_,_,_,_,_,_,_,_,_,_,_,_,_,_,_,_,_,_,_,x 55,x 56,x 57,x 58,x 59,x 60,x 61,x 62,_,_,_,_,_,_,_,_,_] []) (s14Fact vv Bk g wc.heap.size) (fun q w=>GoneBy wc g o c.length cp (a0) z (300*q) w) (fun w w'=>w.grownBy w' (some g)) rfl rfl (by decide) rfl (by kernel_rfl) (by kernel_rfl) ?_ (s14Fact.gr hgr0) ?hend ?hstep _ _ 0 (fun _=>undef) _ rfl rfl rfl (by intro j hj;simp[Array.getD]) ?_ HG.out ?_
       ·intro i j hi hj hne
        have e1:∀q,q<8→∀r,r<8→q≠r→s14Dst q≠s14Dst r:=by decide
        exact e1 j hj i hi hne
       case hend=>
        intro x wq hG hf
        have f1:x 56=vv:=hf 1 (by decide)
        obtain⟨b,t9,e4,hb,hbk,hz9⟩:=hf 7 (by decide)
        have e4':x 62=.slice (some ⟨b,0,none⟩) 1 1:=e4
        obtain⟨a9,ha9,hMq⟩:=HI.out.gone hgl hG
        have HMq:=mkHid hMq
        have hsq:w.heap.size≤wq.heap.size:=hMq.gr.size
        have hOwn:=hMq.own
        clear hf hG hMq e4
        refine wpAny_ready (rs:=[8]) (by kernel_rfl) (by simp) ?_
        refine AllReady.cons rfl (fun K hK=>?_) AllReady.nil
        rw[if_pos (by rfl)]
        refine opAppXs _ _ rfl w.heap.size vv M f1 hOwn t9 b 1 e4' hbk (by omega) hsq ?_
        intro v' w' hO' hG'
        refine hK _ _ ?_
        clear hK K
        obtain⟨hc3,hf3,hIn⟩:=HMq.out.push hgl hO' hG'
        have HSf:Hid (SgAt w g o c.length cp z (a+30000) (7) Bk (w'.setCell ⟨Bk,4,none⟩ v')):=by
         have hp:=Hfit.out.push hz9
         exact⟨d,s,Ax,Bx,v',_,hh,bb,a9,⟨hp.d,hp.s,Nat.le_trans hp.n (by omega),hp.p⟩,by omega,hIn⟩
        obtain⟨o2,c2,rfl⟩:=hO'.shape
        obtain⟨n2,hn2⟩:∃n,(M ++ [t9]).length=n:=⟨_,rfl⟩
        rw[hn2] at HSf
        rw[hn2]
        clear hn2 hO' hG' hIn HMq HI HG HB4 hbk hOwn f1
        show wpAny _ _ _ _ 2 _ (rgAct [] [_,_,_,_,_,_,_,_,_,_,_,_,_,_,_,_,_,_,_,_,_,_,_,_,_,_,_,_,_,_,_,_,_,_,_,_,_,_,_,_,_,_,_,_,_,_,_,_,_,_,_,_,_,_,_,x 55,x 56,x 57,x 58,x 59,x 60,x 61,x 62,.slice o2 n2 c2,_,_,_,_,_,_,_,_] []) _
        generalize x 55=y55
        generalize x 56=y56
        generalize x 57=y57
        generalize x 58=y58
        generalize x 59=y59
        generalize x 60=y60
        generalize x 61=y61
        generalize x 62=y62
        go_simp
        refine wpAny_ready (rs:=[9]) (by kernel_rfl) (by simp) ?_
        refine AllReady.cons rfl (fun K hK=>?_) AllReady.nil
        go_simp
        refine hK _ _ ?_
        clear hK K
        go_simp
        refine wpAny_ready (rs:=[10]) (by kernel_rfl) (by simp) ?_
        refine AllReady.cons rfl (fun K hK=>?_) AllReady.nil
        go_simp
        refine hK _ _ ?_
        clear hK K
        go_simp
        refine wpAny_done (by kernel_rfl) ?_ _
        go_simp
        go_wp2
        go_meet
        case rel=>exact HSf
       case hstep=>
        intro k2 x L wr i hil hkl hG hi hf
        rcases (show i=0∨i=1∨i=2∨i=3∨i=4∨i=5∨i=6∨i=7 by omega) with rfl|rfl|rfl|rfl|rfl|rfl|rfl|rfl
        ·clear hi hf
         refine wpOp_step rfl (fun K hK=>?_)
         go_simp
         exact hK _ _ ⟨.pointer (some ⟨Bk,4,none⟩),by simp[put,s14Dst],rfl,gr_refl _ _,(hG.still (Below.refl _ _)).mono (by omega)⟩
        ·have e0:x 55=.pointer (some ⟨Bk,4,none⟩):=hf 0 (by omega) (ready_dep hi rfl 0 (by kernel_rfl))
         clear hi hf
         have hcel:wr.cell? ⟨Bk,4,none⟩=some vv:=gr_cell hG.1 (show Bk≠g by omega) HB4.out
         refine wpOp_step rfl (fun K hK=>?_)
         go_simp
         exact hK _ _ ⟨vv,by simp[put,s14Dst,e0],rfl,gr_refl _ _,(hG.still (Below.refl _ _)).mono (by omega)⟩
        ·clear hi hf
         refine wpOp_step rfl (fun K hK=>?_)
         go_simp
         have hbb:∀cs,Below wr.heap.size wr (wr.alloc (.cells cs 9)):=fun cs=>(Below.refl _ _).alloc (Nat.le_refl _) _
         refine hK _ _ ⟨.slice (some ⟨wr.heap.size,0,none⟩) 4 4,by simp[put,s14Dst],⟨_,rfl,hG.1.size,?_⟩,gr_below (hbb _),(hG.still (hbb _)).mono (by omega)⟩
         intro k hk
         exact tabM_get (by simpa using hk) (by decide)
        ·clear hi hf
         refine wpOp_step rfl (fun K hK=>?_)
         go_simp
         exact hK _ _ ⟨.pointer (some ⟨g,0,none⟩),by simp[put,s14Dst],rfl,gr_refl _ _,(hG.still (Below.refl _ _)).mono (by omega)⟩
        ·have e0:x 58=.pointer (some ⟨g,0,none⟩):=hf 3 (by omega) (ready_dep hi rfl 3 (by kernel_rfl))
         clear hi hf
         obtain⟨hgr,a1,ha1,hs1⟩:=hG
         have hN:=srcN g o c cp a1 z 4 wr hs1 (HCW.out.grown hgr (Nat.le_refl _)) (by omega) hl (by omega) (by omega)
         refine wpOp_step rfl (fun K hK=>?_)
         go_simp
         refine hN.mono ?_
         rintro e w2 ⟨v,rfl,hv,hs2,hg2⟩
         go_simp
         exact hK _ _ ⟨.int .i64 (v:Int),by simp[put,s14Dst,e0],⟨v,rfl,Nat.zero_le _,by omega⟩,hg2,gr_trans hgr hg2,a1+1,by omega,hs2⟩
        ·have f0:=hf 2 (by omega) (ready_dep hi rfl 2 (by kernel_rfl))
         have f2:=hf 4 (by omega) (ready_dep hi rfl 4 (by kernel_rfl))
         clear hi hf
         obtain⟨b,e0,hb,ht⟩:=f0
         obtain⟨k2,e1,-,hk⟩:=f2
         obtain⟨t,hc,hts⟩:=ht k2 hk
         have hk3:(k2:Int)<4:=by omega
         have e0':x 57=.slice (some ⟨b,0,none⟩) 4 4:=e0
         have e1':x 59=.int .i64 k2:=e1
         clear e0 e1 ht
         refine wpOp_step rfl (fun K hK=>?_)
         go_simp
         exact hK _ _ ⟨.pointer (some ⟨b,k2,none⟩),by simp[put,s14Dst,e0',e1'],⟨b,k2,t,rfl,hb,hc,hts⟩,gr_refl _ _,(hG.still (Below.refl _ _)).mono (by omega)⟩
        ·have f3:=hf 5 (by omega) (ready_dep hi rfl 5 (by kernel_rfl))
         clear hi hf
         obtain⟨b,k2,t,e0,hb,hc,hts⟩:=f3
         have e0':x 60=.pointer (some ⟨b,k2,none⟩):=e0
         clear e0
         refine wpOp_step rfl (fun K hK=>?_)
         go_simp
         exact hK _ _ ⟨.string t,by simp[put,s14Dst,e0'],⟨t,rfl,hts⟩,gr_refl _ _,(hG.still (Below.refl _ _)).mono (by omega)⟩
        ·have f1:=hf 6 (by omega) (ready_dep hi rfl 6 (by kernel_rfl))
         obtain⟨t1,et1,hzt1⟩:=f1
         have et1':x 61=.string t1:=et1
         clear et1
         clear hi hf
         refine wpOp_step rfl (fun K hK=>?_)
         go_simp
         have hbb:∀cs,Below wr.heap.size wr (wr.alloc (.cells cs 9)):=fun cs=>(Below.refl _ _).alloc (Nat.le_refl _) _
         exact hK _ _ ⟨.slice (some ⟨wr.heap.size,0,none⟩) 1 1,by simp[put,s14Dst,et1'],⟨wr.heap.size,t1,rfl,hG.1.size,hp_alloc _ _,by omega,offZ.sm hzt1⟩,gr_below (hbb _),(hG.still (hbb _)).mono (by omega)⟩
       ·intro k2 j hk2
        simp[Array.getD] at hk2
       ·intro j hj hd
        simp[Array.getD] at hd
      ·have b0:((kd:Int)==0)=false:=beq_eq_false_iff_ne.2 (by omega)
       have b1:((kd:Int)==1)=false:=beq_eq_false_iff_ne.2 (by omega)
       have b2:((kd:Int)==2)=false:=beq_eq_false_iff_ne.2 (by omega)
       have b3:((kd:Int)==3)=true:=by rw[hv];rfl
       clear hv
       have hN:=mkHid (srcN g o c cp a0 z 4 wc hI.src (HC.out.grown hI.gr (Nat.le_refl _)) (by omega) hl (by omega) (by omega))
       have HI:=mkHid hI
       have Hfit:=mkHid hfit
       clear hI hfit C1
       go_wp2_with fail
       refine hN.out.mono ?_
       rintro e w2 ⟨u,rfl,hu,hs2,hg2⟩
       obtain⟨a2,ha2,hI2⟩:=HI.out.gone hgl (q:=1) ⟨hg2,a0+1,Nat.le_refl _,hs2⟩
       have hwu:IntKind.i64.wrap ((u:Int)-1)=(u:Int)-1:=wrap_inB _ (by omega) (by omega)
       obtain⟨q5,f5,hI4⟩:=hI2.put5 hgl ((u:Int)-1)
       have HSf:Hid (SgAt w g o c.length cp z (a+30000) 7 Bk (w2.setCell ⟨Bk,5,none⟩ (.int .i64 ((u:Int)-1)))):=⟨d,s,Ax,Bx,vv,M,(u:Int)-1,bb,a2,⟨Hfit.out.d,Hfit.out.s,Nat.le_trans Hfit.out.n (by omega),Hfit.out.p⟩,by omega,hI4⟩
       clear hN hs2 hg2 hI2 hI4 HI Hfit
       go_wp2
       go_meet
       case rel=>exact HSf
      ·have b0:((kd:Int)==0)=false:=beq_eq_false_iff_ne.2 (by omega)
       have b1:((kd:Int)==1)=false:=beq_eq_false_iff_ne.2 (by omega)
       have b2:((kd:Int)==2)=false:=beq_eq_false_iff_ne.2 (by omega)
       have b3:((kd:Int)==3)=false:=beq_eq_false_iff_ne.2 (by omega)
       clear hv
       have HSf:Hid (SgAt w g o c.length cp z (a+30000) 7 Bk wc):=⟨d,s,Ax,Bx,vv,M,hh,bb,a0,⟨hfit.d,hfit.s,Nat.le_trans hfit.n (by omega),hfit.p⟩,by omega,hI⟩
       clear hI hfit C1
       go_wp2
       go_meet
       case rel=>exact HSf
     case rest=>
      have C2:=mkHid hcut.out
      clear hcut C1
      obtain⟨d,s,Ax,Bx,vv,M,hh,bb,a0,hfit,ha0,hI⟩:=C2.out
      obtain⟨o2,c2,rfl⟩:=hI.own.shape
      obtain⟨wr,hwr⟩:∃V,V=wc:=⟨_,rfl⟩
      subst hwr
      have hR5:=hI.res
      have hB3:=hI.blk
      have HFin:Hid (SgFit d s M 8∧OwnX w.heap.size (.slice o2 M.length c2) M (wr.setRow w.heap.size #[.string d,.string s,.int .i64 Ax,.int .i64 Bx,.slice o2 M.length c2,.int .i64 hh,.int .i64 bb])∧Src (wr.setRow w.heap.size #[.string d,.string s,.int .i64 Ax,.int .i64 Bx,.slice o2 M.length c2,.int .i64 hh,.int .i64 bb]) g o c.length cp a0 z∧w.grownBy (wr.setRow w.heap.size #[.string d,.string s,.int .i64 Ax,.int .i64 Bx,.slice o2 M.length c2,.int .i64 hh,.int .i64 bb]) (some g)):=
       ⟨⟨hfit.d,hfit.s,Nat.le_trans hfit.n (by omega),hfit.p⟩,row_stay hI.own fun q hq=>setRow_other wr _ q _ (rnb hI.own hI.res (by decide) q hq),⟨by rw[setRow_other wr w.heap.size g _ (by omega)];exact hI.src.blk⟩,gr_row2 hI.gr (Nat.le_refl _)⟩
      clear hI hfit C2
      go_wp2_with (first|(refine wpL_store_row rfl 27 _ _ rfl w.heap.size _ rfl rfl 27 _ hR5 (by kernel_rfl) rfl (by simp[Value.oneCell']) ?_)|(refine wpL_load_row rfl 27 _ rfl Bk _ 27 (0,0) _ rfl hB3 Tryz.underlying27 rfl (by kernel_rfl) ?_)|go_in)
      exact retG _ _ _ d s Ax Bx hh bb o2 _ c2 2 Tryz.results13 rfl hR5 ⟨d,s,Ax,Bx,hh,bb,_,M,a0,rfl,HFin.out⟩
end Bm
namespace Bm
theorem results_tmp_cell {fn:Func} {p u:Tmp} {ty:TypeId} (h:fn.results=#[.tmp u,.cell p ty])(tmps:Array Value)(P:Program)(w:World) :
  (results fn tmps).run P w=((asAddr (tmps.getD p undef)).run P w).andThen fun a w₁=>((loadVar ty a).run P w₁).andThen fun v w₂=>.ok (.tuple #[tmps.getD u undef,v]) w₂:=by
 simp only[results,h]
 simp[Sem.run_bind,Result.andThen]
theorem results_tmp_row {P:Program} {fn:Func} {p u:Tmp} {ty:TypeId} (h:fn.results=#[.tmp u,.cell p ty])(tmps:Array Value)(w:World)(g:Nat)(t:TypeId)(cs:Array Value)(fr:Nat × Nat)(d:TypeDesc)(x:Value)
  (hp:tmps.getD p undef=.pointer (some ⟨g,0,none⟩)) (hg:w.heap[g]?=some (.cells cs t fr))
  (hu:P.underlying ty=some d) (hd:(match d with | .struct _ | .array _ _=>true|_=>false)=true) (hi:(P.info? ty).map (·.size)=some cs.size) (hx:tmps.getD u undef=x) :
  (results fn tmps).run P w=.ok (.tuple #[x,.agg cs]) w:=by
 rw[results_tmp_cell h,hp,hx]
 simp[asAddr,Result.andThen,run_loadVar_row w g t ty cs fr d hg hu hd hi]
set_option maxRecDepth 40000 in
theorem specDrawSign (o:Option Addr)(c:List UInt8)(cp:Nat)(w:World)(hc:Code w.heap.size w o c)(hl:c.length≤1048576) :
  Calls Tryz.prog 4 #[.slice o c.length cp] w (SgDrawnS w):=by
 obtain⟨W1,hW1⟩:∃W,w.alloc (.cells #[.string ⟨#[]⟩,.string ⟨#[]⟩,.int .i64 0,.int .i64 0,.slice none 0 0,.int .i64 0,.int .i64 0] 27)=W:=⟨_,rfl⟩
 have b1:Below w.heap.size w W1:=by rw[← hW1];exact(Below.refl _ _).alloc (Nat.le_refl _) _
 have s1:W1.heap.size=w.heap.size+1:=by rw[← hW1];simp
 obtain⟨R,hR⟩:∃R,R=w.heap.size:=⟨_,rfl⟩
 have HR0:Hid (W1.heap[R]?=some (.cells #[.string ⟨#[]⟩,.string ⟨#[]⟩,.int .i64 0,.int .i64 0,.slice none 0 0,.int .i64 0,.int .i64 0] 27 (0,0))):=by rw[← hW1,hR];exact hp_alloc _ _
 have hS:=srcNew o c.length cp W1 hl
 have hR1:R<W1.heap.size:=by omega
 have hRw:w.heap.size≤R:=by omega
 have Hb1:=mkHid b1
 have HC1:Hid (Code w.heap.size W1 o c):=hc.below b1
 have HW1:=mkHid hW1
 have HRe:=mkHid hR
 have hw1:w.heap.size≤W1.heap.size:=by omega
 have hw0:w.heap.size≤W1.heap.size:=by omega
 clear hW1 b1 hc hR s1
 go_enter Tryz.func4,Tryz.ntmps4
 go_wp2_with fail
 rw[HW1.out,← HRe.out]
 refine hS.mono ?_
 rintro e w2 ⟨z,rfl,hz,hs2,hb2⟩
 obtain⟨g,hg⟩:∃g,g=W1.heap.size:=⟨_,rfl⟩
 have Hgw:=mkHid hg
 rw[← hg] at hs2 hR1 hw1
 have hC2:Hid (Code g w2 o c):=by show Code _ _ _ _;rw[hg];exact((HC1.out.mono hw0).below hb2)
 have hM:=mkHid (srcMessage g o c cp 0 z w2 hs2 hC2.out (by omega) hl hz)
 have HR2:Hid (w2.heap[R]?=some (.cells #[.string ⟨#[]⟩,.string ⟨#[]⟩,.int .i64 0,.int .i64 0,.slice none 0 0,.int .i64 0,.int .i64 0] 27 (0,0))):=(hb2.block R (hp_lt HR0.out)).trans HR0.out
 have Hb2:=mkHid hb2
 have hgl:=hs2.lt
 rw[hg] at hM
 clear hS hs2 hb2 hg HR0
 go_wp2_with fail
 refine hM.out.mono ?_
 rintro e w3 ⟨msg,a3,rfl,hzm,hEm,ha3,hs3,hg3⟩
 have HEm:=mkHid hEm
 rw[← Hgw.out] at hs3 hg3 ⊢
 have HG3:=mkHid hg3
 have HR3:Hid (w3.heap[R]?=some (.cells #[.string ⟨#[]⟩,.string ⟨#[]⟩,.int .i64 0,.int .i64 0,.slice none 0 0,.int .i64 0,.int .i64 0] 27 (0,0))):=(hg3.block R (hp_lt HR2.out) (by intro e;have:=Option.some.inj e;omega)).trans HR2.out
 have hG:=mkHid (srcSigner g o c cp a3 z w3 hs3 (hC2.out.grown hg3 (Nat.le_refl _)) (by omega) hl)
 have hsz3:w2.heap.size≤w3.heap.size:=hg3.size
 clear hM hs3 hg3 HR2 hEm
 go_wp2_with fail
 refine hG.out.mono ?_
 rintro e w4 ⟨d,s,Ax,Bx,hh,bb,v,M,a4,rfl,hfit,hO,hs4,hg4⟩
 have hR4:=(hg4.block R (hp_lt HR3.out) (by intro e;have:=Option.some.inj e;omega)).trans HR3.out
 have HG4:=mkHid (gr_trans HG3.out hg4)
 have hshape:∃fb mc,v=.slice (some ⟨fb,0,none⟩) M.length mc∧M.length≤mc:=by
  rcases hO.2 with ⟨-,h0⟩|⟨gq,cap,cur,hv,-,-,hle,-⟩
  ·have:=hfit.p.2
   omega
  ·exact⟨gq,cap,hv,hle⟩
 obtain⟨fb,mc,rfl,hcap⟩:=hshape
 have HT:=mkHid hO.txL
 have Hfit:=mkHid hfit
 have hRb:∀q,(Value.slice (some ⟨fb,0,none⟩) M.length mc).ownBlock=some q→w3.heap.size≤q:=fun q hq=>(World.ownsRow.lt hO q hq).1
 have HO:=mkHid hO
 clear hG hs4 hg4 hfit hO HG3 HR3
 go_wp2_with (first|(refine wpL_store_row rfl 27 _ _ rfl R _ rfl rfl 27 _ hR4 (by kernel_rfl) rfl (by simp[Value.oneCell']) ?_)|go_in)
 have hb3:Below W1.heap.size W1 w4:=by have:=HG4.out;rw[Hgw.out] at this;exact gr_new Hb2.out this
 have hbw:=Hb1.out.trans (hb3.mono hw0)
 have hRne:∀q,(Value.slice (some ⟨fb,0,none⟩) M.length mc).ownBlock=some q→q≠R:=rnb HO.out hR4 (by decide)
 refine bodyPost_ret (v:=.tuple #[.string msg,.agg #[.string d,.string s,.int .i64 Ax,.int .i64 Bx,.slice (some ⟨fb,0,none⟩) M.length mc,.int .i64 hh,.int .i64 bb]]) (results_tmp_row Tryz.results4 _ _ R 27 _ (0,0) _ _ rfl (setRow_heap _ _ _ _ _ _ hR4) Tryz.underlying27 rfl (by kernel_rfl) rfl) rfl ?_
 have hf:=Hfit.out
 have HO5:OwnX w3.heap.size (.slice (some ⟨fb,0,none⟩) M.length mc) M (w4.setRow R #[.string d,.string s,.int .i64 Ax,.int .i64 Bx,.slice (some ⟨fb,0,none⟩) M.length mc,.int .i64 hh,.int .i64 bb]):=row_stay HO.out (fun k hk=>setRow_other _ _ _ _ (hRne k hk))
 exact⟨msg,d,s,Ax,Bx,hh,bb,fb,M,mc,rfl,by omega,Nat.le_trans hf.d (by decide),Nat.le_trans hf.s (by decide),Nat.le_trans hf.n (by decide),fun t ht=>Nat.le_trans (hf.p.1 t ht).1 (by decide),hcap,fun t ht=>(hf.p.1 t ht).2,HEm.out,(OwnX.txL HO5).tx,⟨hbw.os,hbw.tape,hbw.output,by simpa using hbw.size,fun i hi=>(setRow_other w4 R i _ (by omega)).trans (hbw.block i hi)⟩⟩
end Bm
open Go.ChangeShapes Go.WideShapes Go.ChangeAt Go.RowKit
theorem wf8 (n:Int)(h:(Lit.int .u8 n).wf=true):0≤n∧n<256:=by
 have h':(decide (IntKind.u8.min≤n) && decide (n≤IntKind.u8.max))=true:=h
 simp only[Bool.and_eq_true,decide_eq_true_eq] at h'
 have e0:IntKind.u8.min=0:=by decide
 have e1:IntKind.u8.max=255:=by decide
 omega
theorem open_code {H:Type} {enc:TypeId × Value→H} {P:Program} {W:World} {sp:Nat→Bool} {t e:TypeId} {v:Value} {d:DataW H} {ps:List MemPlace}
  (ht:P.underlying t=some (.slice e)) (he:P.underlying e=some (.int .u8)) (ce:P.cellsOf e=1) {r:Reach} {b0:Nat} (hval:Value.okWide P W r b0 t v) (h:DataW.Trod enc P W 0 sp true t v d ps) :
  ∃ o c cap,v=.slice o c.length cap∧Code W.heap.size W o c∧c.length≤maxLen:=by
 obtain⟨a,len,cap,rfl⟩:=okWide_slice ht hval
 obtain⟨fuel,hx⟩:=h
 rcases open_ints ht he ce hx with ⟨hc,-⟩|⟨a',len',cap',zs,hc,-,hl,hm,hz,-,hcell,hwf⟩
 ·simp[Value.cells] at hc
  obtain⟨rfl,rfl,rfl⟩:=hc
  exact⟨none,[],0,rfl,fun i hi=>absurd hi (Nat.not_lt_zero _),Nat.zero_le _⟩
 ·simp[Value.cells] at hc
  obtain⟨rfl,rfl,rfl⟩:=hc
  have hlz:len≤zs.length:=by rw[hz];split<;>omega
  refine⟨some a',(zs.take len).map fun n=>UInt8.ofNat n.toNat,cap,by rw[List.length_map,List.length_take];simp;omega,?_,by rw[List.length_map,List.length_take];omega⟩
  intro i hi
  rw[List.length_map,List.length_take] at hi
  have hc:=hcell i (by omega)
  refine⟨a',rfl,?_,?_⟩
  ·have hlt:(a'.add i).block<W.heap.size:=World.block_lt_of_cell? _ _ hc
   rw[← addr_block a' i];exact hlt
  ·have hw:=wf8 zs[i] (hwf _ (List.getElem_mem (by omega)))
   have e:(((zs.take len).map fun n=>UInt8.ofNat n.toNat)[i]'(by rw[List.length_map,List.length_take];omega)).toNat=zs[i].toNat:=by
    rw[List.getElem_map,List.getElem_take]
    simp[UInt8.toNat_ofNat']
    omega
   rw[e,hc,List.getD_eq_getElem?_getD,List.getElem?_eq_getElem (by omega)]
   show some (Value.int .u8 zs[i])=_
   congr 2
   omega
end Go.Proofs.YtacaoiedcfelcaaGreatDoor
