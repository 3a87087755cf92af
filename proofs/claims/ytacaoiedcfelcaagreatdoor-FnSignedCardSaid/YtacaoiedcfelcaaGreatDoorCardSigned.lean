import Derived.Test.YtacaoiedcfelcaaGreatDoorRows
import Derived.Test.YtacaoiedcfelcaaGreatDoorDrawOpA
import Derived.Test.YtacaoiedcfelcaaGreatDoorCodeArg
import Derived.Test.YtacaoiedcfelcaaGreatDoorTie
import Derived.Test.YtacaoiedcfelcaaGreatDoorCards
import Derived.WalkKit
import Derived.ProofKit
import Derived.OpenShut
import Derived.ShutString
import Derived.ChangeOld
import Derived.Below
import Derived.Handed
import Derived.Lay
import Derived.LaidMore
import Derived.LaidSub
import Derived.LaidLaws
import Derived.Stop.Joined
import Derived.SevenTiedAt
import Derived.Lib.LaidTab
import Derived.Carry
set_option maxRecDepth 20000
namespace Go.Proofs.YtacaoiedcfelcaaGreatDoor
open Go Go.ChangeShapes Go.WideShapes Go.ChangeAt Go.WideMaps Go.WideElems Go.RowKit Go.Lib
namespace fnSigned
theorem laidOut:laidOutB Tryz.prog=true:=by kernel_rfl
theorem own:ownKnob Tryz.prog.godebug=none:=by kernel_rfl
def laidF:List (String × DataW Unit):=[("math/bits.deBruijn32tab",Rows.laid_math_bits_deBruijn32tab),("math/bits.deBruijn64tab",Rows.laid_math_bits_deBruijn64tab),("internal/strconv.uint64pow10",Rows.laid_internal_strconv_uint64pow10),("unicode/utf8.acceptRanges",Rows.laid_unicode_utf8_acceptRanges),("strconv.ErrRange",Rows.laid_strconv_ErrRange),("strconv.ErrSyntax",Rows.laid_strconv_ErrSyntax),("unicode/utf8.first",Rows.laid_unicode_utf8_first)]
theorem gY:Tryz.prog.globalNamed "strconv.ErrSyntax" = some 6:=by kernel_rfl
theorem tY:(Tryz.prog.globals[6]?).map (·.type)=some 128:=by kernel_rfl
theorem gR:Tryz.prog.globalNamed "strconv.ErrRange" = some 7:=by kernel_rfl
theorem tR:(Tryz.prog.globals[7]?).map (·.type)=some 128:=by kernel_rfl
theorem tP:(Tryz.prog.globals[1]?).map (·.type)=some 209:=by kernel_rfl
theorem laidF_tab {W:World} (h:laidMetH Tryz.prog laidF W):PTab W:=by
 have h1:=h.filter (fun x=>x.1 == "internal/strconv.uint64pow10")
 rw[show(laidF.filter fun x=>x.1 == "internal/strconv.uint64pow10")=[("internal/strconv.uint64pow10",Rows.laid_internal_strconv_uint64pow10)] from by simp[laidF]] at h1
 rw[MakeChecks.laidMetH_plain _ _ _ (by kernel_rfl)] at h1
 obtain⟨ps,⟨g2,t2,cs2,f2,p2,q2,hg2,ht2,hv2,hd2,-,-⟩,-,-⟩:=h1
 obtain rfl:=Option.some.inj (pGlob.symm.trans hg2)
 obtain rfl:=Option.some.inj (tP.symm.trans ht2)
 have e2:=cells_of_tab (k:=.u64) (zs:=pow10Tab) Tryz.underlying209 Tryz.underlying188 (by kernel_rfl) (by kernel_rfl) hd2
 unfold PTab Lib.TabIs
 rw[hv2,← e2]
theorem laidF_syn {W:World} (h:laidMetH Tryz.prog laidF W):ErrAt 6 W:=by
 have h1:=h.filter (fun x=>x.1 == "strconv.ErrSyntax")
 rw[show(laidF.filter fun x=>x.1 == "strconv.ErrSyntax")=[("strconv.ErrSyntax",Rows.laid_strconv_ErrSyntax)] from by simp[laidF]] at h1
 rw[MakeChecks.laidMetH_plain _ _ _ (by kernel_rfl)] at h1
 obtain⟨ps,⟨g0,t0,cs0,f0,p0,q0,hg0,ht0,hv0,hd0,hq,e0⟩,hnd,hrows⟩:=h1
 obtain rfl:=Option.some.inj (gY.symm.trans hg0)
 obtain rfl:=Option.some.inj (tY.symm.trans ht0)
 obtain⟨f1,u,v,hcs,-,-⟩:=iface_of_trod Tryz.underlying128 hd0
 have hc:=World.var?_cell hg0 hv0 0
 have hc2:cs0[0]?=some (.iface u v):=by rw[← Array.getElem?_toList,hcs];rfl
 rw[hc2] at hc
 exact⟨World.block_lt_of_cell? _ _ hc,_,hc,.inr ⟨u,v,rfl⟩⟩
theorem laidF_rng {W:World} (h:laidMetH Tryz.prog laidF W):ErrAt 7 W:=by
 have h1:=h.filter (fun x=>x.1 == "strconv.ErrRange")
 rw[show(laidF.filter fun x=>x.1 == "strconv.ErrRange")=[("strconv.ErrRange",Rows.laid_strconv_ErrRange)] from by simp[laidF]] at h1
 rw[MakeChecks.laidMetH_plain _ _ _ (by kernel_rfl)] at h1
 obtain⟨ps,⟨g0,t0,cs0,f0,p0,q0,hg0,ht0,hv0,hd0,hq,e0⟩,hnd,hrows⟩:=h1
 obtain rfl:=Option.some.inj (gR.symm.trans hg0)
 obtain rfl:=Option.some.inj (tR.symm.trans ht0)
 obtain⟨f1,u,v,hcs,-,-⟩:=iface_of_trod Tryz.underlying128 hd0
 have hc:=World.var?_cell hg0 hv0 0
 have hc2:cs0[0]?=some (.iface u v):=by rw[← Array.getElem?_toList,hcs];rfl
 rw[hc2] at hc
 exact⟨World.block_lt_of_cell? _ _ hc,_,hc,.inr ⟨u,v,rfl⟩⟩
set_option maxHeartbeats 4000000 in
theorem long (v0:Option Addr)(n0 c0:Nat)(w:World)(h0:n0≤maxLen)(h:1048576<n0) :
  Calls Tryz.prog 3 #[.slice v0 n0 c0] w fun e w'=>e=.returned (.bool true)∧Below w.heap.size w w':=by
 unfold maxLen at h0
 have e0:(1048576:Int)<(n0:Int):=by omega
 clear h
 go_enter Tryz.func3,Tryz.ntmps3
 go_wp2
 go_ret
 exact⟨rfl,Below.refl _ _⟩
set_option maxRecDepth 100000 in
theorem lifted (os:Os)(started:os.Started)(H:Type)(enc:TypeId × Value→H) :
  ReturnsInHanded {} Tryz.checked os 3 .any (fun w args=>(Rows.fnSignedSpec.pre enc Tryz.prog Tryz.f3 [] false w args∧laidMetH Tryz.prog laidF w)∧sizedMet enc Tryz.prog Tryz.f3 (OpenSpec.ofChange Rows.fnSignedSpec) false w args)
   (Rows.fnSignedSpec.post enc Tryz.prog Tryz.f3 false true false false):=by
 refine returnsInHanded_of_calls (C:=Tryz.checked) own started (by kernel_rfl)
  (ChangeSpec.witness_shaped (enc:=enc) (C:=Tryz.checked) (os:=os) (X:=fun w _=>laidMetH Tryz.prog laidF w) false (World.laidAll Tryz.prog os laidF) #[.slice none 0 0] 8 (World.laidAll_os _ _ _)
   (World.shaped_of_ZipB (by kernel_rfl) (by kernel_rfl)) (by kernel_rfl) (by kernel_rfl) (by kernel_rfl)
   (by rw[MakeChecks.laidMetH_plain _ _ _ (by kernel_rfl)];exact laidMet_laidAll _ (by kernel_rfl) (by kernel_rfl))) ?_
 intro w tape inp _ hsh _ hok hpre _
 obtain⟨_,_,_,fn',hfn',_,_,_,_,hval0⟩:=hok
 obtain rfl:fn'=Tryz.f3:=Option.some.inj (hfn'.symm.trans Tryz.func3)
 obtain⟨⟨⟨ds,gs,before,hw,-⟩,hL⟩,-⟩:=hpre
 have hW:=DataW.Whole.of_heap (w':=w.forCall tape inp) (by rfl) hw
 have hL':laidMetH Tryz.prog laidF (w.forCall tape inp):=laidMetH.of_heap (by rfl) hL
 obtain⟨m,hm⟩:=Tryz.laysM219.s1_3 _ hsh
 generalize w.forCall tape inp=W at hsh hval0 hW hm hL' ⊢
 generalize inp.args=args at hval0 hW ⊢
 have hval:∀(j:Nat) t v,Tryz.f3.params[j]?=some t→args[j]?=some v→Value.okWide Tryz.prog W .any w.heap.size t v:=hval0
 have hW':=hW
 obtain⟨p,q,hA0,hV,rfl,hfz,hnd⟩:=hW
 have hA:DataW.TrodAll enc Tryz.prog W 0 (fun _=>true) true Tryz.f3.params.toList args.toList ds p:=hA0
 rw[Tryz.params3] at hA hval
 obtain⟨v0,vs0,d0,ds0,p0,q0,hargs,rfl,rfl,h0,r0⟩:=trodAll_cons hA
 obtain⟨rfl,rfl,rfl⟩:=trodAll_nil r0
 obtain rfl:args=#[v0]:=by cases args;simp_all
 obtain⟨rfl,rfl⟩:=trodVars_none hV
 have hlt0:∀x ∈ p0,x.block<W.heap.size:=by obtain⟨fuel,hx⟩:=h0;exact DataW.trod_lt fuel _ _ _ hx
 obtain⟨o1,c1,cap1,rfl,hC1,hl1⟩:=open_code Tryz.underlying22 Tryz.underlying5 (by kernel_rfl) (hval 0 22 v0 rfl rfl) h0
 clear hA0 hval0
 simp only[List.append_nil] at hW'
 have hK:CkW W:=⟨⟨m,hm⟩,laidF_tab hL',laidF_syn hL',laidF_rng hL'⟩
 have hcall:Calls Tryz.prog 3 #[.slice o1 c1.length cap1] W fun e w'=>e=.returned (.bool true)∧Below W.heap.size W w':=by
  by_cases hb:1048576<c1.length
  ·exact long o1 c1.length cap1 W hl1 hb
  ·exact walkSigned o1 c1 cap1 W (by omega) hK (Bm.specDrawSign o1 c1 cap1 W hC1 (by omega))
 refine hcall.mono fun e W' ⟨he,bel⟩=>?_
 subst he
 exact ChangeSpec.post_blind ⟨_,_,_,[],_,[],hW',trodAll_mk1 (shut_bool Tryz.underlying4 _),(trodAll_cons_mk (Below.trod laidOut (by kernel_rfl) (of_decide_eq_true (by kernel_rfl)) h0 bel hlt0) trodAll_mk0),rfl,bel.frame _,fun h=>by cases h⟩
theorem row:Rows.FnSignedSaid:=
 OpenClaim.holds_of_wide 3 Tryz.f3 rfl rfl rfl rfl rfl rfl rfl ⟨rfl,rfl,rfl,rfl,rfl⟩ rfl rfl rfl rfl rfl (by kernel_rfl) Tryz.func3 (by kernel_rfl)
  (of_decide_eq_true (by kernel_rfl)) (by unfold Func.isWrapper;first|(rw[if_pos (by decide +kernel)];kernel_rfl)|(rw[if_neg (by decide +kernel)];exact⟨rfl,rfl⟩))
  (fun os started H enc _=>lifted os started H enc)
theorem holds:Rows.FnSignedCardSaid:=
 Claim7.holds_tied_plain_at .later [] [.data,.data,.data,.data,.sentinel,.sentinel,.pinned] true (true,"ab7828bd9b0cbae691811b000de75f9910cd913c0353c7d6b665e5d52660e173") true
  row (fun _ h=>by cases h) (by kernel_rfl) (fun _ h=>by cases h) fnSigned_row_tie rfl ⟨rfl,rfl⟩ (by kernel_rfl) rfl
  (fun f fn hf hfn=>by
   obtain rfl:f=3:=Option.some.inj ((show Tryz.prog.funcNamed "loop.example/g00013/laws.FnSigned" = some 3 by kernel_rfl).symm.trans hf) |>.symm
   obtain rfl:fn=Tryz.f3:=(Option.some.inj (Tryz.func3.symm.trans hfn)).symm
   exact⟨by kernel_rfl,fun j t ht=>by
    rw[Tryz.params3] at ht
    have hm:t ∈ [22]:=by simpa using Array.mem_of_getElem? ht
    have hall:([22].all fun u=>!Tryz.prog.wantsStandIn u)=true:=by kernel_rfl
    exact(show Tryz.prog.wantsStandIn t=false by simpa using List.all_eq_true.1 hall t hm)⟩)
  (by kernel_rfl)
end fnSigned
theorem signed_holds:Rows.FnSignedCardSaid:=fnSigned.holds
#print axioms signed_holds
end Go.Proofs.YtacaoiedcfelcaaGreatDoor
