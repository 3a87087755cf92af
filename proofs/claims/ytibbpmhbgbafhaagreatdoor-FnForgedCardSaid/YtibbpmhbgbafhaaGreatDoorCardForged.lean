import Derived.Test.YtibbpmhbgbafhaaGreatDoorBmDraw5
import Derived.Test.YtibbpmhbgbafhaaGreatDoorLawForged
import Derived.Test.YtibbpmhbgbafhaaGreatDoorDraw
import Derived.ProofKit
import Derived.OpenShut
import Derived.ShutString
import Derived.ChangeOld
import Derived.ChangeSlices
import Derived.Below
import Derived.Carry
import Derived.Test.YtibbpmhbgbafhaaGreatDoorRows
import Derived.Test.YtibbpmhbgbafhaaGreatDoorTie
import Derived.Test.YtibbpmhbgbafhaaGreatDoorCards
import Derived.WalkKit
import Derived.Handed
import Derived.Lay
import Derived.LaidMore
import Derived.LaidSub
import Derived.LaidLaws
import Derived.Stop.Joined
import Derived.SevenTiedAt
import Derived.Lib.LaidTab
set_option maxRecDepth 20000
set_option maxHeartbeats 4000000
namespace Go.Proofs.YtibbpmhbgbafhaaGreatDoor
open Go.RowKit Go.Lib Go.Maps
namespace Bm
theorem results_tmp_cell {fn:Func} {p u:Tmp} {ty:TypeId} (h:fn.results=#[.tmp u,.cell p ty])(tmps:Array Value)(P:Program)(w:World) :
  (results fn tmps).run P w=((asAddr (tmps.getD p undef)).run P w).andThen fun a w₁=>((loadVar ty a).run P w₁).andThen fun v w₂=>.ok (.tuple #[tmps.getD u undef,v]) w₂:=by
 simp only[results,h]
 simp[Sem.run_bind,Result.andThen]
theorem results_tmp_row {P:Program} {fn:Func} {p u:Tmp} {ty:TypeId} (h:fn.results=#[.tmp u,.cell p ty])(tmps:Array Value)(w:World)(g:Nat)(t:TypeId)(cs:Array Value)(fr:Nat × Nat)(d:TypeDesc)(x:Value)
  (hp:tmps.getD p undef=.pointer (some ⟨g,0,none⟩)) (hg:w.heap[g]?=some (.cells cs t fr))
  (hu:P.underlying ty=some d) (hd:(match d with | .struct _ | .array _ _=>true|_=>false)=true) (hi:(P.info? ty).map (·.size)=some cs.size) (hx:tmps.getD u undef=x) :
  (results fn tmps).run P w=.ok (.tuple #[x,.agg cs]) w:=by
 rw[results_tmp_cell h,hp,hx]
 simp[asAddr,Result.andThen,run_loadVar_row w g t ty cs fr d hg hu hd hi]
set_option maxRecDepth 40000 in
theorem specDrawSign (o:Option Addr)(c:List UInt8)(cp:Nat)(w:World)(hc:Code w.heap.size w o c)(hl:c.length≤1048576) :
  Calls Tryz.prog 4 #[.slice o c.length cp] w (SgDrawn w):=by
 obtain⟨W1,hW1⟩:∃W,w.alloc (.cells #[.string ⟨#[]⟩,.string ⟨#[]⟩,.int .i64 0,.int .i64 0,.slice none 0 0,.int .i64 0,.int .i64 0] 27)=W:=⟨_,rfl⟩
 have b1:Below w.heap.size w W1:=by rw[← hW1];exact(Below.refl _ _).alloc (Nat.le_refl _) _
 have s1:W1.heap.size=w.heap.size+1:=by rw[← hW1];simp
 obtain⟨R,hR⟩:∃R,R=w.heap.size:=⟨_,rfl⟩
 have HR0:Hid (W1.heap[R]?=some (.cells #[.string ⟨#[]⟩,.string ⟨#[]⟩,.int .i64 0,.int .i64 0,.slice none 0 0,.int .i64 0,.int .i64 0] 27 (0,0))):=by rw[← hW1,hR];exact hp_alloc _ _
 have hS:=srcNew o c.length cp W1 hl
 have hR1:R<W1.heap.size:=by omega
 have hRw:w.heap.size≤R:=by omega
 have Hb1:=mkHid b1
 have HC1:Hid (Code w.heap.size W1 o c):=hc.below b1
 have HW1:=mkHid hW1
 have HRe:=mkHid hR
 have hw1:w.heap.size≤W1.heap.size:=by omega
 have hw0:w.heap.size≤W1.heap.size:=by omega
 clear hW1 b1 hc hR s1
 go_enter Tryz.func4,Tryz.ntmps4
 go_wp2_with fail
 rw[HW1.out,← HRe.out]
 refine hS.mono ?_
 rintro e w2 ⟨z,rfl,hz,hs2,hb2⟩
 obtain⟨g,hg⟩:∃g,g=W1.heap.size:=⟨_,rfl⟩
 have Hgw:=mkHid hg
 rw[← hg] at hs2 hR1 hw1
 have hC2:Hid (Code g w2 o c):=by show Code _ _ _ _;rw[hg];exact((HC1.out.mono hw0).below hb2)
 have hM:=mkHid (srcMessage g o c cp 0 z w2 hs2 hC2.out (by omega) hl hz)
 have HR2:Hid (w2.heap[R]?=some (.cells #[.string ⟨#[]⟩,.string ⟨#[]⟩,.int .i64 0,.int .i64 0,.slice none 0 0,.int .i64 0,.int .i64 0] 27 (0,0))):=(hb2.block R (hp_lt HR0.out)).trans HR0.out
 have Hb2:=mkHid hb2
 have hgl:=hs2.lt
 rw[hg] at hM
 clear hS hs2 hb2 hg HR0
 go_wp2_with fail
 refine hM.out.mono ?_
 rintro e w3 ⟨msg,a3,rfl,hzm,ha3,hs3,hg3⟩
 rw[← Hgw.out] at hs3 hg3 ⊢
 have HG3:=mkHid hg3
 have HR3:Hid (w3.heap[R]?=some (.cells #[.string ⟨#[]⟩,.string ⟨#[]⟩,.int .i64 0,.int .i64 0,.slice none 0 0,.int .i64 0,.int .i64 0] 27 (0,0))):=(hg3.block R (hp_lt HR2.out) (by intro e;have:=Option.some.inj e;omega)).trans HR2.out
 have hG:=mkHid (srcSigner g o c cp a3 z w3 hs3 (hC2.out.grown hg3 (Nat.le_refl _)) (by omega) hl)
 have hsz3:w2.heap.size≤w3.heap.size:=hg3.size
 clear hM hs3 hg3 HR2
 go_wp2_with fail
 refine hG.out.mono ?_
 rintro e w4 ⟨d,s,Ax,Bx,hh,bb,v,M,a4,rfl,hfit,hO,hs4,hg4⟩
 have hR4:=(hg4.block R (hp_lt HR3.out) (by intro e;have:=Option.some.inj e;omega)).trans HR3.out
 have HG4:=mkHid (gr_trans HG3.out hg4)
 obtain⟨on,mc,rfl⟩:=hO.shape
 have HT:=mkHid hO.txL
 have Hfit:=mkHid hfit
 have hRb:∀q,(Value.slice on M.length mc).ownBlock=some q→w3.heap.size≤q:=fun q hq=>(World.ownsRow.lt hO q hq).1
 have HO:=mkHid hO
 clear hG hs4 hg4 hfit hO HG3 HR3
 go_wp2_with (first|(refine wpL_store_row rfl 27 _ _ rfl R _ rfl rfl 27 _ hR4 (by kernel_rfl) rfl (by simp[Value.oneCell']) ?_)|go_in)
 have hb3:Below W1.heap.size W1 w4:=by have:=HG4.out;rw[Hgw.out] at this;exact gr_new Hb2.out this
 have hbw:=Hb1.out.trans (hb3.mono hw0)
 have hRne:∀q,(Value.slice on M.length mc).ownBlock=some q→q≠R:=rnb HO.out hR4 (by decide)
 refine bodyPost_ret (v:=.tuple #[.string msg,.agg #[.string d,.string s,.int .i64 Ax,.int .i64 Bx,.slice on M.length mc,.int .i64 hh,.int .i64 bb]]) (results_tmp_row Tryz.results4 _ _ R 27 _ (0,0) _ _ rfl (setRow_heap _ _ _ _ _ _ hR4) Tryz.underlying27 rfl (by kernel_rfl) rfl) rfl ?_
 have hf:=Hfit.out
 have HO5:OwnX w3.heap.size (.slice on M.length mc) M (w4.setRow R #[.string d,.string s,.int .i64 Ax,.int .i64 Bx,.slice on M.length mc,.int .i64 hh,.int .i64 bb]):=row_stay HO.out (fun k hk=>setRow_other _ _ _ _ (hRne k hk))
 exact⟨msg,d,s,Ax,Bx,hh,bb,on,M,mc,rfl,by omega,Nat.le_trans hf.d (by decide),Nat.le_trans hf.s (by decide),Nat.le_trans hf.n (by decide),fun t ht=>Nat.le_trans (hf.p t ht) (by decide),(OwnX.txL HO5).tx,⟨hbw.os,hbw.tape,hbw.output,by simpa using hbw.size,fun i hi=>(setRow_other w4 R i _ (by omega)).trans (hbw.block i hi)⟩⟩
end Bm
end Go.Proofs.YtibbpmhbgbafhaaGreatDoor
namespace Go.Proofs.YtibbpmhbgbafhaaGreatDoor
open Go.ChangeShapes Go.WideShapes Go.ChangeAt Go.RowKit
theorem wf8 (n:Int)(h:(Lit.int .u8 n).wf=true):0≤n∧n<256:=by
 have h':(decide (IntKind.u8.min≤n) && decide (n≤IntKind.u8.max))=true:=h
 simp only[Bool.and_eq_true,decide_eq_true_eq] at h'
 have e0:IntKind.u8.min=0:=by decide
 have e1:IntKind.u8.max=255:=by decide
 omega
theorem open_code {H:Type} {enc:TypeId × Value→H} {P:Program} {W:World} {sp:Nat→Bool} {t e:TypeId} {v:Value} {d:DataW H} {ps:List MemPlace}
  (ht:P.underlying t=some (.slice e)) (he:P.underlying e=some (.int .u8)) (ce:P.cellsOf e=1) {r:Reach} {b0:Nat} (hval:Value.okWide P W r b0 t v) (h:DataW.Trod enc P W 0 sp true t v d ps) :
  ∃ o c cap,v=.slice o c.length cap∧Code W.heap.size W o c∧c.length≤maxLen:=by
 obtain⟨a,len,cap,rfl⟩:=okWide_slice ht hval
 obtain⟨fuel,hx⟩:=h
 rcases open_ints ht he ce hx with ⟨hc,-⟩|⟨a',len',cap',zs,hc,-,hl,hm,hz,-,hcell,hwf⟩
 ·simp[Value.cells] at hc
  obtain⟨rfl,rfl,rfl⟩:=hc
  exact⟨none,[],0,rfl,fun i hi=>absurd hi (Nat.not_lt_zero _),Nat.zero_le _⟩
 ·simp[Value.cells] at hc
  obtain⟨rfl,rfl,rfl⟩:=hc
  have hlz:len≤zs.length:=by rw[hz];split<;>omega
  refine⟨some a',(zs.take len).map fun n=>UInt8.ofNat n.toNat,cap,by rw[List.length_map,List.length_take];simp;omega,?_,by rw[List.length_map,List.length_take];omega⟩
  intro i hi
  rw[List.length_map,List.length_take] at hi
  have hc:=hcell i (by omega)
  refine⟨a',rfl,?_,?_⟩
  ·have hlt:(a'.add i).block<W.heap.size:=World.block_lt_of_cell? _ _ hc
   rw[← addr_block a' i];exact hlt
  ·have hw:=wf8 zs[i] (hwf _ (List.getElem_mem (by omega)))
   have e:(((zs.take len).map fun n=>UInt8.ofNat n.toNat)[i]'(by rw[List.length_map,List.length_take];omega)).toNat=zs[i].toNat:=by
    rw[List.getElem_map,List.getElem_take]
    simp[UInt8.toNat_ofNat']
    omega
   rw[e,hc,List.getD_eq_getElem?_getD,List.getElem?_eq_getElem (by omega)]
   show some (Value.int .u8 zs[i])=_
   congr 2
   omega
end Go.Proofs.YtibbpmhbgbafhaaGreatDoor
namespace Go.Proofs.YtibbpmhbgbafhaaGreatDoor
open Go Go.ChangeShapes Go.WideShapes Go.ChangeAt Go.WideMaps Go.WideElems Go.RowKit Go.Lib
namespace fnForged
theorem laidOut:laidOutB Tryz.prog=true:=by kernel_rfl
theorem own:ownKnob Tryz.prog.godebug=none:=by kernel_rfl
def laidF:List (String × DataW Unit):=[("math/bits.deBruijn32tab",Rows.laid_math_bits_deBruijn32tab),("math/bits.deBruijn64tab",Rows.laid_math_bits_deBruijn64tab),("internal/strconv.uint64pow10",Rows.laid_internal_strconv_uint64pow10),("unicode/utf8.acceptRanges",Rows.laid_unicode_utf8_acceptRanges),("strconv.ErrRange",Rows.laid_strconv_ErrRange),("strconv.ErrSyntax",Rows.laid_strconv_ErrSyntax),("unicode/utf8.first",Rows.laid_unicode_utf8_first)]
theorem gY:Tryz.prog.globalNamed "strconv.ErrSyntax" = some 3:=by kernel_rfl
theorem tY:(Tryz.prog.globals[3]?).map (·.type)=some 165:=by kernel_rfl
theorem gR:Tryz.prog.globalNamed "strconv.ErrRange" = some 4:=by kernel_rfl
theorem tR:(Tryz.prog.globals[4]?).map (·.type)=some 165:=by kernel_rfl
theorem tP:(Tryz.prog.globals[5]?).map (·.type)=some 235:=by kernel_rfl
theorem laidF_tab {W:World} (h:laidMetH Tryz.prog laidF W):PTab W:=by
 have h1:=h.filter (fun x=>x.1 == "internal/strconv.uint64pow10")
 rw[show(laidF.filter fun x=>x.1 == "internal/strconv.uint64pow10")=[("internal/strconv.uint64pow10",Rows.laid_internal_strconv_uint64pow10)] from by simp[laidF]] at h1
 rw[MakeChecks.laidMetH_plain _ _ _ (by kernel_rfl)] at h1
 obtain⟨ps,⟨g2,t2,cs2,f2,p2,q2,hg2,ht2,hv2,hd2,-,-⟩,-,-⟩:=h1
 obtain rfl:=Option.some.inj (pGlob.symm.trans hg2)
 obtain rfl:=Option.some.inj (tP.symm.trans ht2)
 have e2:=cells_of_tab (k:=.u64) (zs:=pow10Tab) Tryz.underlying235 Tryz.underlying207 (by kernel_rfl) (by kernel_rfl) hd2
 unfold PTab Lib.TabIs
 rw[hv2,← e2]
theorem laidF_syn {W:World} (h:laidMetH Tryz.prog laidF W):ErrAt 3 W:=by
 have h1:=h.filter (fun x=>x.1 == "strconv.ErrSyntax")
 rw[show(laidF.filter fun x=>x.1 == "strconv.ErrSyntax")=[("strconv.ErrSyntax",Rows.laid_strconv_ErrSyntax)] from by simp[laidF]] at h1
 rw[MakeChecks.laidMetH_plain _ _ _ (by kernel_rfl)] at h1
 obtain⟨ps,⟨g0,t0,cs0,f0,p0,q0,hg0,ht0,hv0,hd0,hq,e0⟩,hnd,hrows⟩:=h1
 obtain rfl:=Option.some.inj (gY.symm.trans hg0)
 obtain rfl:=Option.some.inj (tY.symm.trans ht0)
 obtain⟨f1,u,v,hcs,-,-⟩:=iface_of_trod Tryz.underlying165 hd0
 have hc:=World.var?_cell hg0 hv0 0
 have hc2:cs0[0]?=some (.iface u v):=by rw[← Array.getElem?_toList,hcs];rfl
 rw[hc2] at hc
 exact⟨World.block_lt_of_cell? _ _ hc,_,hc,.inr ⟨u,v,rfl⟩⟩
theorem laidF_rng {W:World} (h:laidMetH Tryz.prog laidF W):ErrAt 4 W:=by
 have h1:=h.filter (fun x=>x.1 == "strconv.ErrRange")
 rw[show(laidF.filter fun x=>x.1 == "strconv.ErrRange")=[("strconv.ErrRange",Rows.laid_strconv_ErrRange)] from by simp[laidF]] at h1
 rw[MakeChecks.laidMetH_plain _ _ _ (by kernel_rfl)] at h1
 obtain⟨ps,⟨g0,t0,cs0,f0,p0,q0,hg0,ht0,hv0,hd0,hq,e0⟩,hnd,hrows⟩:=h1
 obtain rfl:=Option.some.inj (gR.symm.trans hg0)
 obtain rfl:=Option.some.inj (tR.symm.trans ht0)
 obtain⟨f1,u,v,hcs,-,-⟩:=iface_of_trod Tryz.underlying165 hd0
 have hc:=World.var?_cell hg0 hv0 0
 have hc2:cs0[0]?=some (.iface u v):=by rw[← Array.getElem?_toList,hcs];rfl
 rw[hc2] at hc
 exact⟨World.block_lt_of_cell? _ _ hc,_,hc,.inr ⟨u,v,rfl⟩⟩
theorem long (v0:Option Addr)(n0 c0:Nat)(v1:Option Addr)(n1 c1:Nat)(w:World)(h0:n0≤maxLen)(h1:n1≤maxLen)(h:1048576<n0∨1048576<n1) :
  Calls Tryz.prog 3 #[.slice v0 n0 c0,.slice v1 n1 c1] w fun e w'=>e=.returned (.bool true)∧Below w.heap.size w w':=by
 unfold maxLen at h0 h1
 by_cases hA:1048576<n0
 ·have e0:(1048576:Int)<(n0:Int):=by omega
  clear h
  go_enter Tryz.func3,Tryz.ntmps3
  go_wp2
  go_ret
  exact⟨rfl,Below.refl _ _⟩
 ·have e0:¬(1048576:Int)<(n0:Int):=by omega
  have e1:(1048576:Int)<(n1:Int):=by omega
  clear h
  go_enter Tryz.func3,Tryz.ntmps3
  go_wp2
  go_ret
  exact⟨rfl,Below.refl _ _⟩
set_option maxRecDepth 100000 in
theorem lifted (os:Os)(started:os.Started)(H:Type)(enc:TypeId × Value→H) :
  ReturnsInHanded {} Tryz.checked os 3 .any (fun w args=>(Rows.fnForgedSpec.pre enc Tryz.prog Tryz.f3 [] false w args∧laidMetH Tryz.prog laidF w)∧sizedMet enc Tryz.prog Tryz.f3 (OpenSpec.ofChange Rows.fnForgedSpec) false w args)
   (Rows.fnForgedSpec.post enc Tryz.prog Tryz.f3 false true false false):=by
 refine returnsInHanded_of_calls (C:=Tryz.checked) own started (by kernel_rfl)
  (ChangeSpec.witness_shaped (enc:=enc) (C:=Tryz.checked) (os:=os) (X:=fun w _=>laidMetH Tryz.prog laidF w) false (World.laidAll Tryz.prog os laidF) #[.slice none 0 0,.slice none 0 0] 8 (World.laidAll_os _ _ _)
   (World.shaped_of_ZipB (by kernel_rfl) (by kernel_rfl)) (by kernel_rfl) (by kernel_rfl) (by kernel_rfl)
   (by rw[MakeChecks.laidMetH_plain _ _ _ (by kernel_rfl)];exact laidMet_laidAll _ (by kernel_rfl) (by kernel_rfl))) ?_
 intro w tape inp _ hsh _ hok hpre _
 obtain⟨_,_,_,fn',hfn',_,_,_,_,hval0⟩:=hok
 obtain rfl:fn'=Tryz.f3:=Option.some.inj (hfn'.symm.trans Tryz.func3)
 obtain⟨⟨⟨ds,gs,before,hw,-⟩,hL⟩,-⟩:=hpre
 have hW:=DataW.Whole.of_heap (w':=w.forCall tape inp) (by rfl) hw
 have hL':laidMetH Tryz.prog laidF (w.forCall tape inp):=laidMetH.of_heap (by rfl) hL
 obtain⟨m,hm⟩:=Tryz.laysM219.s1_3 _ hsh
 generalize w.forCall tape inp=W at hsh hval0 hW hm hL' ⊢
 generalize inp.args=args at hval0 hW ⊢
 have hval:∀(j:Nat) t v,Tryz.f3.params[j]?=some t→args[j]?=some v→Value.okWide Tryz.prog W .any w.heap.size t v:=hval0
 have hW':=hW
 obtain⟨p,q,hA0,hV,rfl,hfz,hnd⟩:=hW
 have hA:DataW.TrodAll enc Tryz.prog W 0 (fun _=>true) true Tryz.f3.params.toList args.toList ds p:=hA0
 rw[Tryz.params3] at hA hval
 obtain⟨v0,vs0,d0,ds0,p0,q0,hargs,rfl,rfl,h0,r0⟩:=trodAll_cons hA
 obtain⟨v1,vs1,d1,ds1,p1,q1,hargs1,rfl,rfl,h1,r1⟩:=trodAll_cons r0
 obtain⟨rfl,rfl,rfl⟩:=trodAll_nil r1
 obtain rfl:args=#[v0,v1]:=by cases args;simp_all
 obtain⟨rfl,rfl⟩:=trodVars_none hV
 have hlt0:∀x ∈ p0,x.block<W.heap.size:=by obtain⟨fuel,hx⟩:=h0;exact DataW.trod_lt fuel _ _ _ hx
 have hlt1:∀x ∈ p1,x.block<W.heap.size:=by obtain⟨fuel,hx⟩:=h1;exact DataW.trod_lt fuel _ _ _ hx
 obtain⟨o1,c1,cap1,rfl,hC1,hl1⟩:=open_code Tryz.underlying22 Tryz.underlying5 (by kernel_rfl) (hval 0 22 v0 rfl rfl) h0
 obtain⟨o2,c2,cap2,rfl,hC2,hl2⟩:=open_code Tryz.underlying22 Tryz.underlying5 (by kernel_rfl) (hval 1 22 v1 rfl rfl) h1
 clear hA0 hval0
 simp only[List.append_nil] at hW'
 have hK:CkW W:=⟨⟨m,hm⟩,laidF_tab hL',laidF_syn hL',laidF_rng hL'⟩
 have hcall:Calls Tryz.prog 3 #[.slice o1 c1.length cap1,.slice o2 c2.length cap2] W fun e w'=>e=.returned (.bool true)∧Below W.heap.size W w':=by
  by_cases hb:1048576<c1.length∨1048576<c2.length
  ·exact long o1 c1.length cap1 o2 c2.length cap2 W hl1 hl2 hb
  ·exact walkForged o1 o2 c1 c2 cap1 cap2 W (by omega) (by omega) hC2 hK (Bm.specDrawSign o1 c1 cap1 W hC1 (by omega))
 refine hcall.mono fun e W' ⟨he,bel⟩=>?_
 subst he
 exact ChangeSpec.post_blind ⟨_,_,_,[],_,[],hW',trodAll_mk1 (shut_bool Tryz.underlying4 _),(trodAll_cons_mk (Below.trod laidOut (by kernel_rfl) (of_decide_eq_true (by kernel_rfl)) h0 bel hlt0) (trodAll_cons_mk (Below.trod laidOut (by kernel_rfl) (of_decide_eq_true (by kernel_rfl)) h1 bel hlt1) trodAll_mk0)),rfl,bel.frame _,fun h=>by cases h⟩
theorem row:Rows.FnForgedSaid:=
 OpenClaim.holds_of_wide 3 Tryz.f3 rfl rfl rfl rfl rfl rfl rfl ⟨rfl,rfl,rfl,rfl,rfl⟩ rfl rfl rfl rfl rfl (by kernel_rfl) Tryz.func3 (by kernel_rfl)
  (of_decide_eq_true (by kernel_rfl)) (by unfold Func.isWrapper;first|(rw[if_pos (by decide +kernel)];kernel_rfl)|(rw[if_neg (by decide +kernel)];exact⟨rfl,rfl⟩))
  (fun os started H enc _=>lifted os started H enc)
theorem holds:Rows.FnForgedCardSaid:=
 Claim7.holds_tied_plain_at .later [] [.data,.data,.data,.data,.sentinel,.sentinel,.pinned] true (true,"dd47e97ca606582260131c8ad31e06408a097b2c777517c3e10310fc07b7355d") true
  row (fun _ h=>by cases h) (by kernel_rfl) (fun _ h=>by cases h) fnForged_row_tie rfl ⟨rfl,rfl⟩ (by kernel_rfl) rfl
  (fun f fn hf hfn=>by
   obtain rfl:f=3:=Option.some.inj ((show Tryz.prog.funcNamed "loop.example/g00013/laws.FnForged" = some 3 by kernel_rfl).symm.trans hf) |>.symm
   obtain rfl:fn=Tryz.f3:=(Option.some.inj (Tryz.func3.symm.trans hfn)).symm
   exact⟨by kernel_rfl,fun j t ht=>by
    rw[Tryz.params3] at ht
    have hm:t ∈ [22,22]:=by simpa using Array.mem_of_getElem? ht
    have hall:([22,22].all fun u=>!Tryz.prog.wantsStandIn u)=true:=by kernel_rfl
    exact(show Tryz.prog.wantsStandIn t=false by simpa using List.all_eq_true.1 hall t hm)⟩)
  (by kernel_rfl)
end fnForged
theorem forged_holds:Rows.FnForgedCardSaid:=fnForged.holds
#print axioms forged_holds
end Go.Proofs.YtibbpmhbgbafhaaGreatDoor
