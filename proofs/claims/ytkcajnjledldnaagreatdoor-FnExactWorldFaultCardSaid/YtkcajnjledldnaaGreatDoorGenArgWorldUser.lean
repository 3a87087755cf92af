import Derived.Test.YtkcajnjledldnaaGreatDoorTk
import Derived.Test.YtkcajnjledldnaaGreatDoorRpGreat
import Derived.OrdersHeld
import Derived.Defers
import Derived.Recover
import Derived.Laws.Pointers
import Derived.Test.YtkcajnjledldnaaGreatDoorOwnX
import Derived.Test.YtkcajnjledldnaaGreatDoorScan2G
import Derived.Test.YtkcajnjledldnaaGreatDoorGenBase
import Derived.Deep.Slices
import Derived.SliceStrings
import Derived.ChangeSlices
import Derived.ChangeMaps5
import Derived.Carry
import Derived.ChangeOld
import Derived.Lib.SmallJoins
import Derived.Test.YtkcajnjledldnaaGreatDoorGenQueueConfig
import Derived.Test.YtkcajnjledldnaaGreatDoorGenSignKey
set_option maxRecDepth 20000
set_option maxHeartbeats 4000000
namespace Go.Proofs.YtkcajnjledldnaaGreatDoor
open Go.RowKit Go.Lib Go.Maps
theorem faultYes (c b:Int)(w:World) :
  Calls Tryz.prog 115 #[.iface 167 (.agg #[.int .i64 c,.int .i64 b])] w fun e w'=>e=.returned (.tuple #[.agg #[.int .i64 c,.int .i64 b],.bool true])∧Below w.heap.size w w':=by
 have hta:∀w:World,(Instr.typeAssert (.iface 167 (.agg #[.int .i64 c,.int .i64 b])) 20 167 true).run Tryz.prog w=.ok (.tuple #[.agg #[.int .i64 c,.int .i64 b],.bool true]) w:=fun w=>by kernel_rfl
 go_enter Tryz.func115,Tryz.ntmps115
 go_wp2
 refine bodyPost_ret (v:=.tuple #[.agg #[.int .i64 c,.int .i64 b],.bool true]) (by simp[results,Tryz.results115,go_sem]) rfl ⟨rfl,?_⟩
 exact((Below.refl _ _).alloc (Nat.le_refl _) _).alloc (by simp) _
theorem faultNo (w:World) :
  Calls Tryz.prog 115 #[.nilIface] w fun e w'=>e=.returned (.tuple #[.agg #[.int .i64 0,.int .i64 0],.bool false])∧Below w.heap.size w w':=by
 have hta:∀w:World,(Instr.typeAssert .nilIface 20 167 true).run Tryz.prog w=.ok (.tuple #[.agg #[.int .i64 0,.int .i64 0],.bool false]) w:=fun w=>by kernel_rfl
 go_enter Tryz.func115,Tryz.ntmps115
 go_wp2
 refine bodyPost_ret (v:=.tuple #[.agg #[.int .i64 0,.int .i64 0],.bool false]) (by simp[results,Tryz.results115,go_sem]) rfl ⟨rfl,?_⟩
 exact((Below.refl _ _).alloc (Nat.le_refl _) _).alloc (by simp) _
abbrev tr0:Obj:=.cells #[.int .i64 0,.int .i64 0,.slice none 0 0] 69
theorem rfCatchNo (p q:Nat)(w:World) :
  CallsD Tryz.prog 114 #[.pointer (some ⟨p,0,none⟩),.pointer (some ⟨q,0,none⟩)] .returning w fun e u' w'=>e=.returned (.tuple #[])∧u'=.returning∧Below w.heap.size w w':=by
 refine callsD_of_wpS Tryz.func114 rfl fun c₀ cs hu=>?_
 apply wpS_seq
 apply wpS_region
 simp[wpOpsS,go_sem,recoverD,hu,Tryz.ntmps114,Exit.thenS]
 refine(faultNo w).mono ?_
 rintro e w1 ⟨rfl,hb1⟩
 simp[go_sem,Array.replicate]
 refine wpS_of_wp ?_
 go_wp2
 refine⟨rfl,.returning,?_,.tuple #[],by simp[results,Tryz.results114,go_sem],rfl,rfl,hb1.alloc hb1.size _⟩
 cases c₀
 simp_all
theorem rfCatchYes (p q b:Nat)(s:ByteArray)(w:World)(hp:w.heap[p]?=some (.cells #[.string s] 9 (0,0)))(h:w.heap[q]?=some tr0)(hpq:p≠q)(hb:b≤s.size)(hs:s.size≤100000) :
  CallsD Tryz.prog 114 #[.pointer (some ⟨p,0,none⟩),.pointer (some ⟨q,0,none⟩)] (.panicking [{ v:=.iface 167 (.agg #[.int .i64 3,.int .i64 b]),recovered:=false }]) w fun e u' w'=>e=.returned (.tuple #[])∧u'=.panicking [{ v:=.iface 167 (.agg #[.int .i64 3,.int .i64 b]),recovered:=true }] ∧
   w'.heap[q]?=some (.cells #[.int .i64 3,.int .i64 (Rf.line s.data.toList b:Int),.slice none 0 0] 69 (0,0))∧w.grownBy w' (some q):=by
 obtain⟨ll,hll⟩:∃ll,Rf.line s.data.toList b=ll:=⟨_,rfl⟩
 have kL:=mkHid (fun W=>implLine s b W hb hs)
 rw[hll] at kL ⊢
 clear hll
 refine callsD_of_wpS Tryz.func114 rfl fun c₀ cs hu=>?_
 apply wpS_seq
 apply wpS_region
 simp[wpOpsS,go_sem,recoverD,hu,Tryz.ntmps114,Exit.thenS]
 refine(faultYes 3 b w).mono ?_
 rintro e w1 ⟨rfl,hb1⟩
 simp[go_sem,Array.replicate]
 have hpl:=heap_ltM hp
 have hql:=heap_ltM h
 have hbA:Below w.heap.size w (w1.alloc (.cells #[.int .i64 3,.int .i64 b] 167)):=hb1.alloc hb1.size _
 have hf:(w1.alloc (.cells #[.int .i64 3,.int .i64 b] 167)).heap[w1.heap.size]?=some (.cells #[.int .i64 3,.int .i64 b] 167 (0,0)):=heap_alloc_at _ _
 have hr:=(hbA.block q hql).trans h
 have hp1:=(hbA.block p hpl).trans hp
 have hfq:w1.heap.size≠q:=by have:=hb1.size;omega
 have HbA:=mkHid hbA
 obtain⟨V,hV⟩:∃V,w1.alloc (.cells #[.int .i64 3,.int .i64 b] 167)=V:=⟨_,rfl⟩
 obtain⟨k,hk⟩:∃k,w1.heap.size=k:=⟨_,rfl⟩
 rw[hV] at hf hr hp1 HbA
 rw[hk] at hf hfq
 have hS:V.cell? ⟨k,0,none⟩=some (.int .i64 3)∧V.cell? ⟨k,1,none⟩=some (.int .i64 b)∧V.cell? ⟨p,0,none⟩=some (.string s):=⟨by simp[World.cell?,hf],by simp[World.cell?,hf],by simp[World.cell?,hp1]⟩
 have HV:=mkHid hV
 have Hk:=mkHid hk
 have Hr:=mkHid hr
 clear hV hk h hp hbA hb1 hr
 refine wpS_of_wp ?_
 go_wp2
 rw[HV.out,Hk.out]
 refine wp_region_held (S:=fun w=>w.cell? ⟨k,0,none⟩=some (.int .i64 3)∧w.cell? ⟨k,1,none⟩=some (.int .i64 b)∧w.cell? ⟨p,0,none⟩=some (.string s)) (by kernel_rfl) ?_
 refine tk 0 (.pointer (some ⟨k,0,none⟩)) hS ?_ ?_
 ·rintro w ⟨s1,s2,s3⟩
  go_simp
  all_goals omega
 go_simp
 refine tk 1 (.int .i64 3) hS ?_ ?_
 ·rintro w ⟨s1,s2,s3⟩
  go_simp
  all_goals omega
 go_simp
 refine tk 2 (.string s) hS ?_ ?_
 ·rintro w ⟨s1,s2,s3⟩
  go_simp
  all_goals omega
 go_simp
 refine tk 3 (.pointer (some ⟨k,1,none⟩)) hS ?_ ?_
 ·rintro w ⟨s1,s2,s3⟩
  go_simp
  all_goals omega
 go_simp
 refine tk 4 (.int .i64 b) hS ?_ ?_
 ·rintro w ⟨s1,s2,s3⟩
  go_simp
  all_goals omega
 go_simp
 refine wpAnyH_all (rs:=[5]) (by kernel_rfl) (by simp) ?_
 intro j hj
 simp only[List.mem_cons,List.not_mem_nil,or_false] at hj
 subst hj
 refine wpOp_step rfl (fun K hK=>?_)
 go_simp
 refine(kL.out _).mono ?_
 rintro e w2 ⟨rfl,rfl⟩
 go_simp
 refine hK _ _ ⟨hS,?_⟩
 clear hK K
 go_simp
 refine tk 6 (.agg #[.int .i64 3,.int .i64 (ll:Int),.slice none 0 0]) hS ?_ ?_
 ·rintro w ⟨s1,s2,s3⟩
  go_simp
  all_goals omega
 go_simp
 refine wpAnyH_all (rs:=[7]) (by kernel_rfl) (by simp) ?_
 intro j hj
 simp only[List.mem_cons,List.not_mem_nil,or_false] at hj
 subst hj
 refine wpOp_step rfl (fun K hK=>?_)
 refine wp_store_row 69 _ _ rfl q #[.int .i64 3,.int .i64 (ll:Int),.slice none 0 0] rfl rfl 69 _ Hr.out (by kernel_rfl) rfl (by simp[Value.oneCell']) ?_
 refine hK _ _ ⟨?_,?_⟩
 ·have kp:∀(b n:Nat) (x:Value),b≠q→V.cell? ⟨b,n,none⟩=some x→(V.setRow q #[.int .i64 3,.int .i64 (ll:Int),.slice none 0 0]).cell? ⟨b,n,none⟩=some x:=fun b n x hb hx=>(World.cell?_of_block (a:=⟨b,n,none⟩) ((grown_setRow V q _).block b (World.block_lt_of_cell? _ _ hx) (by simpa using hb))).trans hx
  exact⟨kp k 0 _ hfq hS.1,kp k 1 _ hfq hS.2.1,kp p 0 _ hpq hS.2.2⟩
 clear hK K
 go_simp
 refine wpAnyH_done (by kernel_rfl) ?_ _
 refine⟨rfl,_,?_,.tuple #[],by simp[results,Tryz.results114,go_sem],rfl,rfl,?_,?_⟩
 ·rfl
 ·exact setRow_heap _ _ _ _ _ _ Hr.out
 ·exact grown_trans (grown_below (below_drew HbA.out)) (grown_setRow _ _ _)
theorem alloc_last (w:World)(o:Obj):(w.alloc o).heap[w.heap.size]?=some o:=by simp only[World.alloc,Array.getElem?_push_size]
theorem grown_to {w w':World} {g B:Nat} (h:w.grownBy w' (some g))(hB:B≤g)(hw:B≤w.heap.size):Below B w w':=
 ⟨h.os,h.tape,h.output,h.size,fun k hk=>h.block k (by omega) (by intro e;have:=Option.some.inj e;omega)⟩
theorem three_cells {w:World} {g:Nat} {a b c:Value} {t:TypeId} (h:w.heap[g]?=some (.cells #[a,b,c] t (0,0))) :
  (w.cell? ⟨g,0,none⟩=some a∧w.cell? ⟨g,1,none⟩=some b∧w.cell? ⟨g,2,none⟩=some c)∧w.frozen? ⟨g,0,none⟩=false∧w.frozen? ⟨g,1,none⟩=false∧w.frozen? ⟨g,2,none⟩=false:=by
 simp[World.cell?,World.frozen?,h]
abbrev rd0 (s:ByteArray):Obj:=.cells #[.string s,.int .i64 0,.int .i64 0,.int .i64 0,.string ⟨#[]⟩,.slice none 0 0] 176
abbrev bx9 (s:ByteArray):Obj:=.cells #[.string s] 9
theorem pos_le {l:List UInt8} {T:List Rf.Tk} (h:Rf.Tok1 l T)(j:Nat):Rf.pos T j≤l.length:=by
 unfold Rf.pos
 by_cases hj:j<T.length
 ·rw[List.getElem?_eq_getElem hj]
  exact h.place _ (List.getElem_mem hj)
 ·rw[List.getElem?_eq_none (by omega)]
  exact Nat.zero_le _
theorem implReadBig (s:ByteArray)(w:World)(hs:10000<s.size) :
  Calls Tryz.prog 66 #[.string s] w fun e w'=>e=.returned (.agg #[.int .i64 2,.int .i64 0,.slice none 0 0])∧Below w.heap.size w w':=by
 have f1:(10000:Int)<(s.size:Int):=by omega
 clear hs
 go_enter_defers Tryz.func66,Tryz.ntmps66
 go_wp2
 have hr:((w.alloc (.cells #[.string s] 9)).alloc (.cells #[.int .i64 2,.int .i64 0,.slice none 0 0] 69)).heap[w.heap.size+1]?=some (.cells #[.int .i64 2,.int .i64 0,.slice none 0 0] 69 (0,0)):=by
  have h1:=alloc_last (w.alloc (.cells #[.string s] 9)) (.cells #[.int .i64 2,.int .i64 0,.slice none 0 0] 69)
  rwa [show(w.alloc (.cells #[.string s] 9)).heap.size=w.heap.size+1 from by simp] at h1
 have hb:Below w.heap.size w ((w.alloc (.cells #[.string s] 9)).alloc (.cells #[.int .i64 2,.int .i64 0,.slice none 0 0] 69)):=((Below.refl w.heap.size w).alloc (Nat.le_refl _) _).alloc (by simp) _
 obtain⟨V,hV⟩:∃V,(w.alloc (.cells #[.string s] 9)).alloc (.cells #[.int .i64 2,.int .i64 0,.slice none 0 0] 69)=V:=⟨_,rfl⟩
 rw[hV] at hr hb ⊢
 obtain⟨⟨q0,q1,q2⟩,z0,z1,z2⟩:=three_cells hr
 have Hb:=mkHid hb
 clear hV hr hb
 simp[bodyPostD,Leaves,results,Tryz.results66,go_sem,q0,q1,q2]
 exact Hb.out
theorem implReadF (s:ByteArray)(w:World)(hs:s.size≤10000)(hF:FTab w)(hM:MTab w)(hE:Er w) :
  Calls Tryz.prog 66 #[.string s] w fun e w'=>∃ v E,e=.returned (.agg #[.int .i64 (Rf.ans s.data.toList).1,.int .i64 ((Rf.ans s.data.toList).2.1:Int),v])∧Nt w.heap.size v E w'∧E.map (·.1)=(Rf.ans s.data.toList).2.2∧Below w.heap.size w w':=by
 obtain⟨l,hl⟩:∃l,s.data.toList=l:=⟨_,rfl⟩
 have hn:l.length=s.size:=by rw[← hl];simp
 obtain⟨T,hT⟩:∃T,Rf.tk l=T:=⟨_,rfl⟩
 obtain⟨Z,hZ⟩:∃Z,Rf.ans l=Z:=⟨_,rfl⟩
 obtain⟨R,hR⟩:∃R,Rf.script T=R:=⟨_,rfl⟩
 have hZR:Z=Rf.fin l T R:=by rw[← hZ,← hR,← hT];rfl
 rw[hl,hZ]
 have hone:=Rf.tk_one l
 rw[hT] at hone
 have hTl:T.length≤30000:=by have:=hone.2;omega
 have hsm:=tks_small l (by omega)
 rw[hT] at hsm
 have hmf:∀(fn:Fn) (first cap:Array Value) (w:World),(Instr.makeFunc fn first cap).run Tryz.prog w=.ok (.func fn first cap) w:=fun _ _ _ _=>rfl
 have f1:¬(10000:Int)<(s.size:Int):=by omega
 have hz:(((w.alloc (bx9 s)).alloc tr0).alloc (rd0 s)).heap.size=w.heap.size+3:=by simp
 obtain⟨W,hW⟩:∃W,((w.alloc (bx9 s)).alloc tr0).alloc (rd0 s)=W:=⟨_,rfl⟩
 have hb0:Below w.heap.size w W:=by rw[← hW];exact(((Below.refl w.heap.size w).alloc (Nat.le_refl _) _).alloc (by simp) _).alloc (by simp;omega) _
 have hg0:W.heap[w.heap.size+2]?=some (rd0 s):=by
  have h1:=alloc_last ((w.alloc (bx9 s)).alloc tr0) (rd0 s)
  rw[show((w.alloc (bx9 s)).alloc tr0).heap.size=w.heap.size+2 from by simp] at h1
  rw[← hW]
  exact h1
 have hq0:W.heap[w.heap.size+1]?=some tr0:=by
  have h1:=alloc_last (w.alloc (bx9 s)) tr0
  rw[show(w.alloc (bx9 s)).heap.size=w.heap.size+1 from by simp] at h1
  rw[← hW]
  exact(Below.heap_alloc ((w.alloc (bx9 s)).alloc tr0) _ (w.heap.size+1) (by simp)).trans h1
 have hp0:W.heap[w.heap.size]?=some (bx9 s):=by
  rw[← hW]
  exact((Below.heap_alloc ((w.alloc (bx9 s)).alloc tr0) _ w.heap.size (by simp;omega)).trans (Below.heap_alloc (w.alloc (bx9 s)) _ w.heap.size (by simp))).trans (alloc_last w (bx9 s))
 rw[hW] at hz
 obtain⟨g,hg⟩:∃g,w.heap.size+2=g:=⟨_,rfl⟩
 rw[hg] at hg0
 have hsc:Sc (prR 0 ⟨#[]⟩ (.slice none 0 0)) W g s 0 0:=⟨hg0⟩
 have hG:Gl g W:=by
  obtain⟨t1,fr1,hF⟩:=hF
  obtain⟨t2,fr2,hM⟩:=hM
  have a1:=heap_ltM hF
  have a2:=heap_ltM hM
  obtain⟨ev,b1,b2⟩:=hE.syn
  obtain⟨er,c1,c2⟩:=hE.rng
  have a3:=World.block_lt_of_cell? _ _ b1
  have a4:=World.block_lt_of_cell? _ _ c1
  dsimp only at a3 a4
  exact⟨⟨t1,fr1,(hb0.block _ a1).trans hF⟩,⟨t2,fr2,(hb0.block _ a2).trans hM⟩,⟨⟨ev,(World.cell?_of_block (hb0.block _ a3)).trans b1,b2⟩,⟨er,(World.cell?_of_block (hb0.block _ a4)).trans c1,c2⟩⟩,by omega,by omega,by omega,by omega⟩
 have hGT:GoodT T:=hone.1.num
 have kS:=prScript g s l T (Rf.lv T T.length).2 hl (by omega) hTl hT (Rf.lv_x T T.length).2 (prLv g s l T hl (by omega) hTl hGT T.length).2 W hsc hG
 rw[← Rf.script_eq,hR] at kS
 replace kS:=mkHid kS
 have Hp0:=mkHid hp0
 have Hq0:=mkHid hq0
 have Hb0:=mkHid hb0
 have HZ:=mkHid hZR
 have Hone:=mkHid hone
 have Hgood:Hid (∀j N,R=.ok j N→Rf.Good T N∧0<N.length):=fun j N e=>Rf.script_ok hsm (hR.trans e)
 have HW:=mkHid hW
 have Hg:=mkHid hg
 have Hz:=mkHid hz
 have Hl:=mkHid hl
 have Hn:=mkHid hn
 clear hF hM hE hp0 hq0 hb0 hZR hone hW hg hz hl hn hG hsc hg0 hT hR hZ hsm hGT
 go_enter_defers Tryz.func66,Tryz.ntmps66
 go_wp2_with (go_at_call 117;fail)
 rw[HW.out,Hg.out]
 refine kS.out.mono ?_
 rintro e w3 ⟨e3,h3⟩
 have hg:=Hg.out
 have hz:=Hz.out
 have hsz3:=e3.size
 have hp3:=mkHid ((e3.keep w.heap.size (by omega) (by omega) (by simp)).trans Hp0.out)
 have hq3:=mkHid ((e3.keep (w.heap.size+1) (by omega) (by omega) (by simp)).trans Hq0.out)
 have hb3:Hid (Below w.heap.size w w3):=⟨e3.os.trans Hb0.out.os,e3.tape.trans Hb0.out.tape,e3.output.trans Hb0.out.output,Nat.le_trans Hb0.out.size e3.size,fun k hk=>(e3.keep k (by omega) (by omega) (by simp)).trans (Hb0.out.block k hk)⟩
 clear kS Hp0 Hq0 Hb0 HW
 cases R with
 | bad j=>
  obtain rfl:e=_:=h3
  have hple:Rf.pos T j≤s.size:=by rw[← Hn.out];exact pos_le Hone.out.1 j
  have hy:=rfCatchYes w.heap.size (w.heap.size+1) (Rf.pos T j) s w3 hp3.out hq3.out (by omega) hple (by omega)
  rw[Hl.out] at hy
  refine leaves_cons (f:=114) (args:=#[.pointer (some ⟨w.heap.size,0,none⟩),.pointer (some ⟨w.heap.size+1,0,none⟩)]) (by simp) (by simp[go_sem]) ?_
  refine hy.mono ?_
  rintro e u' w'' ⟨rfl,rfl,h4,g4⟩
  obtain⟨⟨q0,q1,q2⟩,z0,z1,z2⟩:=three_cells h4
  have hbz:=mkHid (hb3.out.trans (grown_to g4 (by omega) (by omega)))
  have hz2:Hid (Z=(3,Rf.line l (Rf.pos T j),[])):=HZ.out
  clear g4 h4 hy hp3 hq3 hb3 HZ
  simp[Leaves,settle,results,Tryz.results66,go_sem,q0,q1,q2]
  exact⟨_,⟨by rw[hz2.out],by rw[hz2.out],rfl⟩,[],Nt.nil _ _,by rw[hz2.out];rfl,hbz.out⟩
 | ok j N=>
  obtain⟨v',A,rfl,hN,hlA,hnt⟩:=h3
  obtain⟨o,cap,hsh⟩:=hnt.shape
  subst hsh
  have hAN:A.length=N.length:=by rw[hN];simp
  have hnds:=hnt.nds
  rw[← hN] at hnds
  obtain⟨hgo,hpos⟩:=Hgood.out j N rfl
  obtain⟨hfi,hin⟩:=good_fits hgo hTl
  have kG:=implGreat o N cap w3 hnds (by rw[← hAN];omega) hpos hfi hin
  obtain⟨y,hy⟩:∃y,(N.any Rf.long || (decide (2000<N.length) || decide (20<Tr.depTo (Fn.kids N) N.length (N.length-1))))=y:=⟨_,rfl⟩
  rw[hy,← hAN] at kG
  replace kG:=mkHid kG
  have hZ1:Hid (Z=if y=true then (4,0,[]) else (0,0,N)):=by
   show Z=_
   rw[HZ.out,← hy]
   rfl
  replace hnt:=mkHid (hnt.lower (B':=w.heap.size+2) (by omega))
  replace hN:=mkHid hN
  clear hnds hgo hpos hfi hin hy HZ Hgood Hone hAN
  go_wp2_with (go_at_call 118;fail)
  refine kG.out.mono ?_
  rintro e w4 ⟨rfl,hb4⟩
  have hq4:=(hb4.block _ (heap_ltM hq3.out)).trans hq3.out
  have hb5:=mkHid (hb3.out.trans (hb4.mono (by omega)))
  have hn4:=mkHid (hnt.out.below hb4)
  obtain⟨⟨q0,q1,q2⟩,z0,z1,z2⟩:=three_cells hq4
  have Hq:=mkHid hq4
  have hs4:=hb4.size
  clear hb4 hq4 hb3 hq3 hp3 hnt kG e3
  cases y with
  | true=>
   obtain⟨V,hV⟩:∃V,((w4.setCell ⟨w.heap.size+1,0,none⟩ (.int .i64 4)).setCell ⟨w.heap.size+1,1,none⟩ (.int .i64 0)).setCell ⟨w.heap.size+1,2,none⟩ (.slice none 0 0)=V:=⟨_,rfl⟩
   have h5:V.heap[w.heap.size+1]?=some (.cells #[.int .i64 4,.int .i64 0,.slice none 0 0] 69 (0,0)):=by
    have:=Hq.out
    rw[← hV]
    simp[World.setCell,Array.getElem?_modify,this]
   have g5:w4.grownBy V (some (w.heap.size+1)):=by rw[← hV];exact grown_trans (grown_trans (grown_set _ _ _ _) (grown_set _ _ _ _)) (grown_set _ _ _ _)
   have HV:=mkHid hV
   clear hV
   go_wp2
   rw[HV.out]
   clear q0 q1 q2 z0 z1 z2
   refine leaves_cons (f:=114) (args:=#[.pointer (some ⟨w.heap.size,0,none⟩),.pointer (some ⟨w.heap.size+1,0,none⟩)]) (by simp) (by simp[go_sem]) ?_
   refine(rfCatchNo w.heap.size (w.heap.size+1) V).mono ?_
   rintro e u' w6 ⟨rfl,rfl,hb6⟩
   obtain⟨⟨q0,q1,q2⟩,z0,z1,z2⟩:=three_cells ((hb6.block _ (heap_ltM h5)).trans h5)
   have hg5s:=g5.size
   have hbz:=mkHid ((hb5.out.trans (grown_to g5 (by omega) (by omega))).trans (hb6.mono (by omega)))
   have hz2:=mkHid (show Z=(4,0,[]) from hZ1.out)
   clear hb6 g5 h5 hb5 hn4 HV Hq hZ1
   simp[Leaves,settle,results,Tryz.results66,go_sem,q0,q1,q2]
   exact⟨_,⟨by rw[hz2.out],by rw[hz2.out];rfl,rfl⟩,[],Nt.nil _ _,by rw[hz2.out];rfl,hbz.out⟩
  | false=>
   obtain⟨V,hV⟩:∃V,((w4.setCell ⟨w.heap.size+1,0,none⟩ (.int .i64 0)).setCell ⟨w.heap.size+1,1,none⟩ (.int .i64 0)).setCell ⟨w.heap.size+1,2,none⟩ (.slice o A.length cap)=V:=⟨_,rfl⟩
   have h5:V.heap[w.heap.size+1]?=some (.cells #[.int .i64 0,.int .i64 0,.slice o A.length cap] 69 (0,0)):=by
    have:=Hq.out
    rw[← hV]
    simp[World.setCell,Array.getElem?_modify,this]
   have g5:w4.grownBy V (some (w.heap.size+1)):=by rw[← hV];exact grown_trans (grown_trans (grown_set _ _ _ _) (grown_set _ _ _ _)) (grown_set _ _ _ _)
   have n5:Nt (w.heap.size+2) (.slice o A.length cap) A V:=by rw[← hV];exact((hn4.out.set (by omega)).set (by omega)).set (by omega)
   have HV:=mkHid hV
   clear hV
   go_wp2
   rw[HV.out]
   clear q0 q1 q2 z0 z1 z2
   refine leaves_cons (f:=114) (args:=#[.pointer (some ⟨w.heap.size,0,none⟩),.pointer (some ⟨w.heap.size+1,0,none⟩)]) (by simp) (by simp[go_sem]) ?_
   refine(rfCatchNo w.heap.size (w.heap.size+1) V).mono ?_
   rintro e u' w6 ⟨rfl,rfl,hb6⟩
   obtain⟨⟨q0,q1,q2⟩,z0,z1,z2⟩:=three_cells ((hb6.block _ (heap_ltM h5)).trans h5)
   have hg5s:=g5.size
   have hbz:=mkHid ((hb5.out.trans (grown_to g5 (by omega) (by omega))).trans (hb6.mono (by omega)))
   have hnz:=mkHid ((n5.below hb6).lower (B':=w.heap.size) (by omega))
   have hz2:=mkHid (show Z=(0,0,N) from hZ1.out)
   clear hb6 g5 h5 hb5 hn4 HV Hq hZ1 n5
   simp[Leaves,settle,results,Tryz.results66,go_sem,q0,q1,q2]
   exact⟨_,⟨by rw[hz2.out],by rw[hz2.out];rfl,rfl⟩,A,hnz.out,by rw[hz2.out];exact hN.out.symm,hbz.out⟩
def Wf.code (f:ByteArray):Int:=if 10000<f.size then 2 else (Rf.ans f.data.toList).1
abbrev plWorldFault (n:GWorldConfig):Int:=plWorldFaultC Wf.code n
structure WfW (w:World):Prop where
 most:∃m:Int,w.cell? ⟨0,0,none⟩=some (.int .i64 m)
 ft:FTab w
 mt:MTab w
 er:Er w
theorem WfW.below {w w':World} (h:WfW w)(hb:Below w.heap.size w w'):WfW w' where
 most:=by
  obtain⟨m,hm⟩:=h.most
  exact⟨m,(hb.cell (p:=⟨0,0,none⟩) (World.block_lt_of_cell? _ _ hm)).trans hm⟩
 ft:=h.ft.below hb
 mt:=by
  obtain⟨t,fr,hh⟩:=h.mt
  exact⟨t,fr,(hb.block _ (by obtain⟨hl,-⟩:=Array.getElem?_eq_some_iff.1 hh;exact hl)).trans hh⟩
 er:=by
  obtain⟨⟨e1,h1,k1⟩,⟨e2,h2,k2⟩⟩:=h.er
  exact⟨⟨e1,(hb.cell (p:=⟨3,0,none⟩) (World.block_lt_of_cell? _ _ h1)).trans h1,k1⟩,⟨e2,(hb.cell (p:=⟨4,0,none⟩) (World.block_lt_of_cell? _ _ h2)).trans h2,k2⟩⟩
theorem implFCode (s:ByteArray)(w:World)(hW:WfW w):Calls Tryz.prog 66 #[.string s] w (FCode Wf.code s w):=by
 unfold FCode Wf.code
 by_cases h:10000<s.size
 ·rw[if_pos h]
  refine(implReadBig s w h).mono ?_
  rintro e w' ⟨rfl,hb⟩
  exact⟨_,_,rfl,hb⟩
 ·rw[if_neg h]
  refine(implReadF s w (by omega) hW.ft hW.mt hW.er).mono ?_
  rintro e w' ⟨v,E,rfl,-,-,hb⟩
  exact⟨_,_,rfl,hb⟩
theorem specFCode (s:ByteArray)(w:World):Calls Tryz.prog 19 #[.string s] w (FCode Wf.code s w):=by
 unfold FCode Wf.code
 by_cases h:10000<s.size
 ·rw[if_pos h]
  refine(specReadBig s w h).mono ?_
  rintro e w' ⟨rfl,hb⟩
  exact⟨_,_,rfl,hb⟩
 ·rw[if_neg h]
  refine(specReadF s w (by omega)).mono ?_
  rintro e w' ⟨v,E,rfl,-,-,hb⟩
  exact⟨_,_,rfl,hb⟩
theorem specWorldFault (n:GWorldConfig)(v3 v6 v7 v8 v10 v13:Value)(lo:Nat)(w:World)(hI:GWorldConfigIn lo w.heap.size w n v3 v6 v7 v8 v10 v13)(hf:n.fits 1048576) :
  Calls Tryz.prog 5 #[GWorldConfigV n v3 v6 v7 v8 v10 v13] w fun e w'=>e=.returned (.int .i64 (plWorldFault n))∧Below w.heap.size w w':=
 specWorldC Wf.code n v3 v6 v7 v8 v10 v13 lo w hI hf fun s W _=>specFCode s W
theorem implWorldFault (n:GWorldConfig)(v3 v6 v7 v8 v10 v13:Value)(lo:Nat)(w:World)(hI:GWorldConfigIn lo w.heap.size w n v3 v6 v7 v8 v10 v13)(hf:n.fits 1048576)(hW:WfW w) :
  Calls Tryz.prog 7 #[GWorldConfigV n v3 v6 v7 v8 v10 v13] w fun e w'=>e=.returned (.int .i64 (plWorldFault n))∧Below w.heap.size w w':=by
 obtain⟨mx,hm⟩:=hW.most
 exact implWorldC Wf.code n v3 v6 v7 v8 v10 v13 lo mx w hI hf hm fun s W hb=>implFCode s W (hW.below hb)
theorem walkWorldFault (n:GWorldConfig)(v3:Value)(v6:Value)(v7:Value)(v8:Value)(v10:Value)(v13:Value)(w:World)(hW0:WfW w)(hI:GWorldConfigIn 0 w.heap.size w n v3 v6 v7 v8 v10 v13)(hf:n.fits maxLen) :
  Calls Tryz.prog 3 #[GWorldConfigV n v3 v6 v7 v8 v10 v13] w fun e w'=>e=.returned (.bool true)∧Below w.heap.size w w':=by
 have HW0:=mkHid hW0
 clear hW0
 obtain⟨⟨a3,c3,rfl,i3⟩,⟨a6,c6,rfl,i6⟩,⟨a7,c7,rfl,i7⟩,⟨a8,c8,rfl,i8⟩,⟨a10,c10,rfl,i10⟩,⟨a13,c13,rfl,i13⟩⟩:=hI
 have HI:Hid (GWorldConfigIn 0 w.heap.size w n (.slice a3 n.transfer.users.length c3) (.slice a6 n.queue.aliases.length c6) (.slice a7 n.queue.mx.length c7) (.slice a8 n.queue.delays.length c8) (.slice a10 n.users.length c10) (.slice a13 n.table.words.length c13)):=⟨⟨_,_,rfl,i3⟩,⟨_,_,rfl,i6⟩,⟨_,_,rfl,i7⟩,⟨_,_,rfl,i8⟩,⟨_,_,rfl,i10⟩,⟨_,_,rfl,i13⟩⟩
 clear i3 i6 i7 i8 i10 i13
 obtain⟨W,hW⟩:∃W,W=w.alloc (.cells #[.string n.transfer.locF,.bool n.transfer.relay,.int .i64 n.transfer.maxBytes,.slice a3 n.transfer.users.length c3,.int .i64 n.transfer.seed,.string n.queue.locF,.slice a6 n.queue.aliases.length c6,.slice a7 n.queue.mx.length c7,.slice a8 n.queue.delays.length c8,.int .i64 n.queue.maxAge,.slice a10 n.users.length c10,.int .i64 n.table.good,.int .i64 n.table.bad,.slice a13 n.table.words.length c13,.int .i64 n.percent] 35):=⟨_,rfl⟩
 have hbA:Below w.heap.size w W:=by rw[hW];exact(Below.refl _ _).alloc (Nat.le_refl _) _
 have hWs:w.heap.size<W.heap.size:=by rw[hW];simp
 have t0:W.cell? ⟨w.heap.size,0,none⟩=some (.string n.transfer.locF):=by rw[hW];simp
 have t1:W.cell? ⟨w.heap.size,1,none⟩=some (.bool n.transfer.relay):=by rw[hW];simp
 have t2:W.cell? ⟨w.heap.size,2,none⟩=some (.int .i64 n.transfer.maxBytes):=by rw[hW];simp
 have t3:W.cell? ⟨w.heap.size,3,none⟩=some (.slice a3 n.transfer.users.length c3):=by rw[hW];simp
 have t4:W.cell? ⟨w.heap.size,4,none⟩=some (.int .i64 n.transfer.seed):=by rw[hW];simp
 have t5:W.cell? ⟨w.heap.size,5,none⟩=some (.string n.queue.locF):=by rw[hW];simp
 have t6:W.cell? ⟨w.heap.size,6,none⟩=some (.slice a6 n.queue.aliases.length c6):=by rw[hW];simp
 have t7:W.cell? ⟨w.heap.size,7,none⟩=some (.slice a7 n.queue.mx.length c7):=by rw[hW];simp
 have t8:W.cell? ⟨w.heap.size,8,none⟩=some (.slice a8 n.queue.delays.length c8):=by rw[hW];simp
 have t9:W.cell? ⟨w.heap.size,9,none⟩=some (.int .i64 n.queue.maxAge):=by rw[hW];simp
 have t10:W.cell? ⟨w.heap.size,10,none⟩=some (.slice a10 n.users.length c10):=by rw[hW];simp
 have t11:W.cell? ⟨w.heap.size,11,none⟩=some (.int .i64 n.table.good):=by rw[hW];simp
 have t12:W.cell? ⟨w.heap.size,12,none⟩=some (.int .i64 n.table.bad):=by rw[hW];simp
 have t13:W.cell? ⟨w.heap.size,13,none⟩=some (.slice a13 n.table.words.length c13):=by rw[hW];simp
 have t14:W.cell? ⟨w.heap.size,14,none⟩=some (.int .i64 n.percent):=by rw[hW];simp
 replace HI:=mkHid ((HI.out.same (Same.of_below hbA (Nat.le_refl _))).mono (Nat.le_refl _) hbA.size)
 have hS:=mkHid (lawSzWorldConfig n (.slice a3 n.transfer.users.length c3) (.slice a6 n.queue.aliases.length c6) (.slice a7 n.queue.mx.length c7) (.slice a8 n.queue.delays.length c8) (.slice a10 n.users.length c10) (.slice a13 n.table.words.length c13) 1048576 0 W HI.out hf (Nat.le_refl _))
 replace hW:=mkHid hW
 clear hf
 unfold GWorldConfigV at hS ⊢
 go_enter Tryz.func3,Tryz.ntmps3
 go_wp2_with fail
 rw[← hW.out]
 refine hS.out.mono ?_
 rintro e w1 ⟨r,rfl,hr,hb1⟩
 have s0_:=(hb1.cell (p:=⟨w.heap.size,0,none⟩) hWs).trans t0
 have s1_:=(hb1.cell (p:=⟨w.heap.size,1,none⟩) hWs).trans t1
 have s2_:=(hb1.cell (p:=⟨w.heap.size,2,none⟩) hWs).trans t2
 have s3_:=(hb1.cell (p:=⟨w.heap.size,3,none⟩) hWs).trans t3
 have s4_:=(hb1.cell (p:=⟨w.heap.size,4,none⟩) hWs).trans t4
 have s5_:=(hb1.cell (p:=⟨w.heap.size,5,none⟩) hWs).trans t5
 have s6_:=(hb1.cell (p:=⟨w.heap.size,6,none⟩) hWs).trans t6
 have s7_:=(hb1.cell (p:=⟨w.heap.size,7,none⟩) hWs).trans t7
 have s8_:=(hb1.cell (p:=⟨w.heap.size,8,none⟩) hWs).trans t8
 have s9_:=(hb1.cell (p:=⟨w.heap.size,9,none⟩) hWs).trans t9
 have s10_:=(hb1.cell (p:=⟨w.heap.size,10,none⟩) hWs).trans t10
 have s11_:=(hb1.cell (p:=⟨w.heap.size,11,none⟩) hWs).trans t11
 have s12_:=(hb1.cell (p:=⟨w.heap.size,12,none⟩) hWs).trans t12
 have s13_:=(hb1.cell (p:=⟨w.heap.size,13,none⟩) hWs).trans t13
 have s14_:=(hb1.cell (p:=⟨w.heap.size,14,none⟩) hWs).trans t14
 clear hS
 rcases hr.out with rfl|⟨m,rfl,_hm,hf⟩
 ·clear hr
  go_wp2
  go_ret
  exact⟨rfl,hbA.trans (hb1.mono (Nat.le_of_lt hWs))⟩
 ·clear hr
  replace hf:=mkHid hf
  have hB1:=hb1
  have cT:=mkHid (lawToWorldConfig n (.slice a3 n.transfer.users.length c3) (.slice a6 n.queue.aliases.length c6) (.slice a7 n.queue.mx.length c7) (.slice a8 n.queue.delays.length c8) (.slice a10 n.users.length c10) (.slice a13 n.table.words.length c13) 0 w1 ((HI.out.same (Same.of_below hB1 (Nat.le_refl _))).mono (Nat.le_refl _) hB1.size) hf.out)
  unfold GWorldConfigV at cT
  go_wp2_with fail
  refine cT.out.mono ?_
  rintro e w2 ⟨y3,y6,y7,y8,y10,y13,rfl,n2,hb2⟩
  have n2o:=n2.out
  obtain⟨⟨d3,e3,rfl,-⟩,⟨d6,e6,rfl,-⟩,⟨d7,e7,rfl,-⟩,⟨d8,e8,rfl,-⟩,⟨d10,e10,rfl,-⟩,⟨d13,e13,rfl,-⟩⟩:=n2o
  have hB2:=hB1.trans (hb2.mono hB1.size)
  clear cT s0_ s1_ s2_ s3_ s4_ s5_ s6_ s7_ s8_ s9_ s10_ s11_ s12_ s13_ s14_
  have s0_:=(hB2.cell (p:=⟨w.heap.size,0,none⟩) hWs).trans t0
  have s1_:=(hB2.cell (p:=⟨w.heap.size,1,none⟩) hWs).trans t1
  have s2_:=(hB2.cell (p:=⟨w.heap.size,2,none⟩) hWs).trans t2
  have s3_:=(hB2.cell (p:=⟨w.heap.size,3,none⟩) hWs).trans t3
  have s4_:=(hB2.cell (p:=⟨w.heap.size,4,none⟩) hWs).trans t4
  have s5_:=(hB2.cell (p:=⟨w.heap.size,5,none⟩) hWs).trans t5
  have s6_:=(hB2.cell (p:=⟨w.heap.size,6,none⟩) hWs).trans t6
  have s7_:=(hB2.cell (p:=⟨w.heap.size,7,none⟩) hWs).trans t7
  have s8_:=(hB2.cell (p:=⟨w.heap.size,8,none⟩) hWs).trans t8
  have s9_:=(hB2.cell (p:=⟨w.heap.size,9,none⟩) hWs).trans t9
  have s10_:=(hB2.cell (p:=⟨w.heap.size,10,none⟩) hWs).trans t10
  have s11_:=(hB2.cell (p:=⟨w.heap.size,11,none⟩) hWs).trans t11
  have s12_:=(hB2.cell (p:=⟨w.heap.size,12,none⟩) hWs).trans t12
  have s13_:=(hB2.cell (p:=⟨w.heap.size,13,none⟩) hWs).trans t13
  have s14_:=(hB2.cell (p:=⟨w.heap.size,14,none⟩) hWs).trans t14
  have cS:=mkHid (specWorldFault n (.slice d3 n.transfer.users.length e3) (.slice d6 n.queue.aliases.length e6) (.slice d7 n.queue.mx.length e7) (.slice d8 n.queue.delays.length e8) (.slice d10 n.users.length e10) (.slice d13 n.table.words.length e13) _ w2 n2.out hf.out)
  unfold GWorldConfigV at cS
  go_wp2_with fail
  refine cS.out.mono ?_
  rintro e w3 ⟨rfl,hb3⟩
  have hB3:=hB2.trans (hb3.mono hB2.size)
  clear cS n2 s0_ s1_ s2_ s3_ s4_ s5_ s6_ s7_ s8_ s9_ s10_ s11_ s12_ s13_ s14_
  have s0_:=(hB3.cell (p:=⟨w.heap.size,0,none⟩) hWs).trans t0
  have s1_:=(hB3.cell (p:=⟨w.heap.size,1,none⟩) hWs).trans t1
  have s2_:=(hB3.cell (p:=⟨w.heap.size,2,none⟩) hWs).trans t2
  have s3_:=(hB3.cell (p:=⟨w.heap.size,3,none⟩) hWs).trans t3
  have s4_:=(hB3.cell (p:=⟨w.heap.size,4,none⟩) hWs).trans t4
  have s5_:=(hB3.cell (p:=⟨w.heap.size,5,none⟩) hWs).trans t5
  have s6_:=(hB3.cell (p:=⟨w.heap.size,6,none⟩) hWs).trans t6
  have s7_:=(hB3.cell (p:=⟨w.heap.size,7,none⟩) hWs).trans t7
  have s8_:=(hB3.cell (p:=⟨w.heap.size,8,none⟩) hWs).trans t8
  have s9_:=(hB3.cell (p:=⟨w.heap.size,9,none⟩) hWs).trans t9
  have s10_:=(hB3.cell (p:=⟨w.heap.size,10,none⟩) hWs).trans t10
  have s11_:=(hB3.cell (p:=⟨w.heap.size,11,none⟩) hWs).trans t11
  have s12_:=(hB3.cell (p:=⟨w.heap.size,12,none⟩) hWs).trans t12
  have s13_:=(hB3.cell (p:=⟨w.heap.size,13,none⟩) hWs).trans t13
  have s14_:=(hB3.cell (p:=⟨w.heap.size,14,none⟩) hWs).trans t14
  have cT:=mkHid (lawToWorldConfig n (.slice a3 n.transfer.users.length c3) (.slice a6 n.queue.aliases.length c6) (.slice a7 n.queue.mx.length c7) (.slice a8 n.queue.delays.length c8) (.slice a10 n.users.length c10) (.slice a13 n.table.words.length c13) 0 w3 ((HI.out.same (Same.of_below hB3 (Nat.le_refl _))).mono (Nat.le_refl _) hB3.size) hf.out)
  unfold GWorldConfigV at cT
  go_wp2_with fail
  refine cT.out.mono ?_
  rintro e w4 ⟨y3,y6,y7,y8,y10,y13,rfl,n4,hb4⟩
  have n4o:=n4.out
  obtain⟨⟨f3,g3,rfl,-⟩,⟨f6,g6,rfl,-⟩,⟨f7,g7,rfl,-⟩,⟨f8,g8,rfl,-⟩,⟨f10,g10,rfl,-⟩,⟨f13,g13,rfl,-⟩⟩:=n4o
  have hB4:=hB3.trans (hb4.mono hB3.size)
  clear cT s0_ s1_ s2_ s3_ s4_ s5_ s6_ s7_ s8_ s9_ s10_ s11_ s12_ s13_ s14_
  have s0_:=(hB4.cell (p:=⟨w.heap.size,0,none⟩) hWs).trans t0
  have s1_:=(hB4.cell (p:=⟨w.heap.size,1,none⟩) hWs).trans t1
  have s2_:=(hB4.cell (p:=⟨w.heap.size,2,none⟩) hWs).trans t2
  have s3_:=(hB4.cell (p:=⟨w.heap.size,3,none⟩) hWs).trans t3
  have s4_:=(hB4.cell (p:=⟨w.heap.size,4,none⟩) hWs).trans t4
  have s5_:=(hB4.cell (p:=⟨w.heap.size,5,none⟩) hWs).trans t5
  have s6_:=(hB4.cell (p:=⟨w.heap.size,6,none⟩) hWs).trans t6
  have s7_:=(hB4.cell (p:=⟨w.heap.size,7,none⟩) hWs).trans t7
  have s8_:=(hB4.cell (p:=⟨w.heap.size,8,none⟩) hWs).trans t8
  have s9_:=(hB4.cell (p:=⟨w.heap.size,9,none⟩) hWs).trans t9
  have s10_:=(hB4.cell (p:=⟨w.heap.size,10,none⟩) hWs).trans t10
  have s11_:=(hB4.cell (p:=⟨w.heap.size,11,none⟩) hWs).trans t11
  have s12_:=(hB4.cell (p:=⟨w.heap.size,12,none⟩) hWs).trans t12
  have s13_:=(hB4.cell (p:=⟨w.heap.size,13,none⟩) hWs).trans t13
  have s14_:=(hB4.cell (p:=⟨w.heap.size,14,none⟩) hWs).trans t14
  obtain⟨V,hV⟩:∃V,V=w4.alloc (.cells #[.string n.transfer.locF,.bool n.transfer.relay,.int .i64 n.transfer.maxBytes,.slice f3 n.transfer.users.length g3,.int .i64 n.transfer.seed,.string n.queue.locF,.slice f6 n.queue.aliases.length g6,.slice f7 n.queue.mx.length g7,.slice f8 n.queue.delays.length g8,.int .i64 n.queue.maxAge,.slice f10 n.users.length g10,.int .i64 n.table.good,.int .i64 n.table.bad,.slice f13 n.table.words.length g13,.int .i64 n.percent] 50):=⟨_,rfl⟩
  have hbV:Below w4.heap.size w4 V:=by rw[hV];exact(Below.refl _ _).alloc (Nat.le_refl _) _
  have hVs:w4.heap.size<V.heap.size:=by rw[hV];simp
  have y0_:V.cell? ⟨w4.heap.size,0,none⟩=some (.string n.transfer.locF):=by rw[hV];simp
  have y1_:V.cell? ⟨w4.heap.size,1,none⟩=some (.bool n.transfer.relay):=by rw[hV];simp
  have y2_:V.cell? ⟨w4.heap.size,2,none⟩=some (.int .i64 n.transfer.maxBytes):=by rw[hV];simp
  have y3_:V.cell? ⟨w4.heap.size,3,none⟩=some (.slice f3 n.transfer.users.length g3):=by rw[hV];simp
  have y4_:V.cell? ⟨w4.heap.size,4,none⟩=some (.int .i64 n.transfer.seed):=by rw[hV];simp
  have y5_:V.cell? ⟨w4.heap.size,5,none⟩=some (.string n.queue.locF):=by rw[hV];simp
  have y6_:V.cell? ⟨w4.heap.size,6,none⟩=some (.slice f6 n.queue.aliases.length g6):=by rw[hV];simp
  have y7_:V.cell? ⟨w4.heap.size,7,none⟩=some (.slice f7 n.queue.mx.length g7):=by rw[hV];simp
  have y8_:V.cell? ⟨w4.heap.size,8,none⟩=some (.slice f8 n.queue.delays.length g8):=by rw[hV];simp
  have y9_:V.cell? ⟨w4.heap.size,9,none⟩=some (.int .i64 n.queue.maxAge):=by rw[hV];simp
  have y10_:V.cell? ⟨w4.heap.size,10,none⟩=some (.slice f10 n.users.length g10):=by rw[hV];simp
  have y11_:V.cell? ⟨w4.heap.size,11,none⟩=some (.int .i64 n.table.good):=by rw[hV];simp
  have y12_:V.cell? ⟨w4.heap.size,12,none⟩=some (.int .i64 n.table.bad):=by rw[hV];simp
  have y13_:V.cell? ⟨w4.heap.size,13,none⟩=some (.slice f13 n.table.words.length g13):=by rw[hV];simp
  have y14_:V.cell? ⟨w4.heap.size,14,none⟩=some (.int .i64 n.percent):=by rw[hV];simp
  have hBV:=hB4.trans (hbV.mono hB4.size)
  have nV:=mkHid ((n4.out.same (Same.of_below hbV (Nat.le_refl _))).mono (Nat.le_refl _) hbV.size)
  replace hV:=mkHid hV
  clear n4
  have cI:=mkHid (implWorldFault n (.slice f3 n.transfer.users.length g3) (.slice f6 n.queue.aliases.length g6) (.slice f7 n.queue.mx.length g7) (.slice f8 n.queue.delays.length g8) (.slice f10 n.users.length g10) (.slice f13 n.table.words.length g13) _ V nV.out hf.out (HW0.out.below (hbA.trans (hBV.mono (Nat.le_of_lt hWs)))))
  unfold GWorldConfigV at cI
  go_wp2_with fail
  rw[← hV.out]
  refine cI.out.mono ?_
  rintro e w5 ⟨rfl,hb5⟩
  have hB5:=hBV.trans (hb5.mono hBV.size)
  have n5:=mkHid ((nV.out.same (Same.of_below hb5 (Nat.le_refl _))).mono (Nat.le_refl _) hb5.size)
  have x0_:=(hb5.cell (p:=⟨w4.heap.size,0,none⟩) hVs).trans y0_
  have x1_:=(hb5.cell (p:=⟨w4.heap.size,1,none⟩) hVs).trans y1_
  have x2_:=(hb5.cell (p:=⟨w4.heap.size,2,none⟩) hVs).trans y2_
  have x3_:=(hb5.cell (p:=⟨w4.heap.size,3,none⟩) hVs).trans y3_
  have x4_:=(hb5.cell (p:=⟨w4.heap.size,4,none⟩) hVs).trans y4_
  have x5_:=(hb5.cell (p:=⟨w4.heap.size,5,none⟩) hVs).trans y5_
  have x6_:=(hb5.cell (p:=⟨w4.heap.size,6,none⟩) hVs).trans y6_
  have x7_:=(hb5.cell (p:=⟨w4.heap.size,7,none⟩) hVs).trans y7_
  have x8_:=(hb5.cell (p:=⟨w4.heap.size,8,none⟩) hVs).trans y8_
  have x9_:=(hb5.cell (p:=⟨w4.heap.size,9,none⟩) hVs).trans y9_
  have x10_:=(hb5.cell (p:=⟨w4.heap.size,10,none⟩) hVs).trans y10_
  have x11_:=(hb5.cell (p:=⟨w4.heap.size,11,none⟩) hVs).trans y11_
  have x12_:=(hb5.cell (p:=⟨w4.heap.size,12,none⟩) hVs).trans y12_
  have x13_:=(hb5.cell (p:=⟨w4.heap.size,13,none⟩) hVs).trans y13_
  have x14_:=(hb5.cell (p:=⟨w4.heap.size,14,none⟩) hVs).trans y14_
  have hs5:w4.heap.size<w5.heap.size:=Nat.lt_of_lt_of_le hVs hb5.size
  clear cI nV hV s0_ s1_ s2_ s3_ s4_ s5_ s6_ s7_ s8_ s9_ s10_ s11_ s12_ s13_ s14_ y0_ y1_ y2_ y3_ y4_ y5_ y6_ y7_ y8_ y9_ y10_ y11_ y12_ y13_ y14_
  have s0_:=(hB5.cell (p:=⟨w.heap.size,0,none⟩) hWs).trans t0
  have s1_:=(hB5.cell (p:=⟨w.heap.size,1,none⟩) hWs).trans t1
  have s2_:=(hB5.cell (p:=⟨w.heap.size,2,none⟩) hWs).trans t2
  have s3_:=(hB5.cell (p:=⟨w.heap.size,3,none⟩) hWs).trans t3
  have s4_:=(hB5.cell (p:=⟨w.heap.size,4,none⟩) hWs).trans t4
  have s5_:=(hB5.cell (p:=⟨w.heap.size,5,none⟩) hWs).trans t5
  have s6_:=(hB5.cell (p:=⟨w.heap.size,6,none⟩) hWs).trans t6
  have s7_:=(hB5.cell (p:=⟨w.heap.size,7,none⟩) hWs).trans t7
  have s8_:=(hB5.cell (p:=⟨w.heap.size,8,none⟩) hWs).trans t8
  have s9_:=(hB5.cell (p:=⟨w.heap.size,9,none⟩) hWs).trans t9
  have s10_:=(hB5.cell (p:=⟨w.heap.size,10,none⟩) hWs).trans t10
  have s11_:=(hB5.cell (p:=⟨w.heap.size,11,none⟩) hWs).trans t11
  have s12_:=(hB5.cell (p:=⟨w.heap.size,12,none⟩) hWs).trans t12
  have s13_:=(hB5.cell (p:=⟨w.heap.size,13,none⟩) hWs).trans t13
  have s14_:=(hB5.cell (p:=⟨w.heap.size,14,none⟩) hWs).trans t14
  generalize plWorldFault n=z at *
  have z1:(z != z)=false:=by simp
  have z2:(z==z)=true:=by simp
  have cT:Hid (∀W':World,Below w5.heap.size w5 W'→Calls Tryz.prog 6 #[.agg #[.string n.transfer.locF,.bool n.transfer.relay,.int .i64 n.transfer.maxBytes,.slice a3 n.transfer.users.length c3,.int .i64 n.transfer.seed,.string n.queue.locF,.slice a6 n.queue.aliases.length c6,.slice a7 n.queue.mx.length c7,.slice a8 n.queue.delays.length c8,.int .i64 n.queue.maxAge,.slice a10 n.users.length c10,.int .i64 n.table.good,.int .i64 n.table.bad,.slice a13 n.table.words.length c13,.int .i64 n.percent]] W' fun e w''=>∃ v3 v6 v7 v8 v10 v13:Value,e=.returned (GWorldConfigV n v3 v6 v7 v8 v10 v13)∧Hid (GWorldConfigIn 0 w''.heap.size w'' n v3 v6 v7 v8 v10 v13)∧Below w5.heap.size w5 w''):=fun W' hb'=>
   (lawToWorldConfig n (.slice a3 n.transfer.users.length c3) (.slice a6 n.queue.aliases.length c6) (.slice a7 n.queue.mx.length c7) (.slice a8 n.queue.delays.length c8) (.slice a10 n.users.length c10) (.slice a13 n.table.words.length c13) 0 W' (((HI.out.same (Same.of_below hB5 (Nat.le_refl _))).mono (Nat.le_refl _) hB5.size).same (Same.of_below hb' (Nat.le_refl _)) |>.mono (Nat.le_refl _) hb'.size) hf.out).mono fun e w'' ⟨v3,v6,v7,v8,v10,v13,e1,e2,e3⟩=>⟨v3,v6,v7,v8,v10,v13,e1,e2.out.mono (Nat.zero_le _) (Nat.le_refl _),hb'.trans (e3.mono hb'.size)⟩
  have cE:Hid (∀(W':World) (v3 v6 v7 v8 v10 v13:Value),Below w5.heap.size w5 W'→GWorldConfigIn 0 W'.heap.size W' n v3 v6 v7 v8 v10 v13→Calls Tryz.prog 8 #[.agg #[.string n.transfer.locF,.bool n.transfer.relay,.int .i64 n.transfer.maxBytes,.slice f3 n.transfer.users.length g3,.int .i64 n.transfer.seed,.string n.queue.locF,.slice f6 n.queue.aliases.length g6,.slice f7 n.queue.mx.length g7,.slice f8 n.queue.delays.length g8,.int .i64 n.queue.maxAge,.slice f10 n.users.length g10,.int .i64 n.table.good,.int .i64 n.table.bad,.slice f13 n.table.words.length g13,.int .i64 n.percent],GWorldConfigV n v3 v6 v7 v8 v10 v13] W' fun e w''=>e=.returned (.bool true)∧Below w5.heap.size w5 w''):=fun W' v3 v6 v7 v8 v10 v13 hb' hk=>
   (lawEqWorldConfig n (.slice f3 n.transfer.users.length g3) (.slice f6 n.queue.aliases.length g6) (.slice f7 n.queue.mx.length g7) (.slice f8 n.queue.delays.length g8) (.slice f10 n.users.length g10) (.slice f13 n.table.words.length g13) v3 v6 v7 v8 v10 v13 _ 0 W' ((n5.out.same (Same.of_below hb' (Nat.le_refl _))).mono (Nat.le_refl _) hb'.size) hk hf.out).mono fun e w'' ⟨e1,e2⟩=>⟨e1,hb'.trans (e2.mono hb'.size)⟩
  have hb0:Below w5.heap.size w5 w5:=Below.refl _ _
  unfold GWorldConfigV at cT cE
  clear n5
  go_wp2
  refine wp_region_any (by kernel_rfl) ?_
  refine wpAny_ready (rs:=[0,1]) (by kernel_rfl) (by simp) ?_
  refine AllReady.cons rfl (fun K hK=>?_) (AllReady.cons rfl (fun K hK=>?_) AllReady.nil)
  ·go_simp
   refine hK _ _ ?_
   clear hK K
   go_simp
   refine r1 1 (fun K hK=>?_)
   go_simp
   refine hK _ _ ?_
   clear hK K
   go_simp
   refine r1 2 (fun K hK=>?_)
   go_simp
   go_wp2_with fail
   refine(cT.out _ (by first|exact hb0|exact hb0.drew|exact hb0.drew.drew)).mono ?_
   rintro e w6 ⟨y3,y6,y7,y8,y10,y13,rfl,n6,hb6⟩
   have n6o:=n6.out
   obtain⟨⟨k3,l3,rfl,-⟩,⟨k6,l6,rfl,-⟩,⟨k7,l7,rfl,-⟩,⟨k8,l8,rfl,-⟩,⟨k10,l10,rfl,-⟩,⟨k13,l13,rfl,-⟩⟩:=n6o
   have v0_:=(hb6.cell (p:=⟨w4.heap.size,0,none⟩) hs5).trans x0_
   have v1_:=(hb6.cell (p:=⟨w4.heap.size,1,none⟩) hs5).trans x1_
   have v2_:=(hb6.cell (p:=⟨w4.heap.size,2,none⟩) hs5).trans x2_
   have v3_:=(hb6.cell (p:=⟨w4.heap.size,3,none⟩) hs5).trans x3_
   have v4_:=(hb6.cell (p:=⟨w4.heap.size,4,none⟩) hs5).trans x4_
   have v5_:=(hb6.cell (p:=⟨w4.heap.size,5,none⟩) hs5).trans x5_
   have v6_:=(hb6.cell (p:=⟨w4.heap.size,6,none⟩) hs5).trans x6_
   have v7_:=(hb6.cell (p:=⟨w4.heap.size,7,none⟩) hs5).trans x7_
   have v8_:=(hb6.cell (p:=⟨w4.heap.size,8,none⟩) hs5).trans x8_
   have v9_:=(hb6.cell (p:=⟨w4.heap.size,9,none⟩) hs5).trans x9_
   have v10_:=(hb6.cell (p:=⟨w4.heap.size,10,none⟩) hs5).trans x10_
   have v11_:=(hb6.cell (p:=⟨w4.heap.size,11,none⟩) hs5).trans x11_
   have v12_:=(hb6.cell (p:=⟨w4.heap.size,12,none⟩) hs5).trans x12_
   have v13_:=(hb6.cell (p:=⟨w4.heap.size,13,none⟩) hs5).trans x13_
   have v14_:=(hb6.cell (p:=⟨w4.heap.size,14,none⟩) hs5).trans x14_
   show K _ w6
   refine hK _ _ ?_
   clear hK K
   go_simp
   refine r1 3 (fun K hK=>?_)
   go_simp
   go_wp2_with fail
   refine(cE.out _ _ _ _ _ _ _ (by first|exact hb6|exact hb6.drew|exact hb6.drew.drew) (by first|exact n6.out|exact n6.out.same (Same.of_below (Below.refl _ _).drew (Nat.le_refl _)))).mono ?_
   rintro e w7 ⟨rfl,hb7⟩
   show K _ w7
   refine hK _ _ ?_
   clear hK K
   go_simp
   refine ta 4 (.bool false) ?_ ?_
   ·intro w
    go_simp
   go_simp
   refine wpAny_done (by kernel_rfl) ?_ _
   have hbe:=mkHid (hbA.trans ((hB5.trans (hb7.mono hB5.size)).mono (Nat.le_of_lt hWs)))
   go_wp2
   go_ret
   exact⟨rfl,hbe.out⟩
  ·go_simp
   refine hK _ _ ?_
   clear hK K
   go_simp
   refine wpAny_ready (rs:=[0,2]) (by kernel_rfl) (by simp) ?_
   refine AllReady.cons rfl (fun K hK=>?_) (AllReady.cons rfl (fun K hK=>?_) AllReady.nil)
   ·go_simp
    refine hK _ _ ?_
    clear hK K
    go_simp
    refine r1 2 (fun K hK=>?_)
    go_simp
    go_wp2_with fail
    refine(cT.out _ (by first|exact hb0|exact hb0.drew|exact hb0.drew.drew)).mono ?_
    rintro e w6 ⟨y3,y6,y7,y8,y10,y13,rfl,n6,hb6⟩
    have n6o:=n6.out
    obtain⟨⟨k3,l3,rfl,-⟩,⟨k6,l6,rfl,-⟩,⟨k7,l7,rfl,-⟩,⟨k8,l8,rfl,-⟩,⟨k10,l10,rfl,-⟩,⟨k13,l13,rfl,-⟩⟩:=n6o
    have v0_:=(hb6.cell (p:=⟨w4.heap.size,0,none⟩) hs5).trans x0_
    have v1_:=(hb6.cell (p:=⟨w4.heap.size,1,none⟩) hs5).trans x1_
    have v2_:=(hb6.cell (p:=⟨w4.heap.size,2,none⟩) hs5).trans x2_
    have v3_:=(hb6.cell (p:=⟨w4.heap.size,3,none⟩) hs5).trans x3_
    have v4_:=(hb6.cell (p:=⟨w4.heap.size,4,none⟩) hs5).trans x4_
    have v5_:=(hb6.cell (p:=⟨w4.heap.size,5,none⟩) hs5).trans x5_
    have v6_:=(hb6.cell (p:=⟨w4.heap.size,6,none⟩) hs5).trans x6_
    have v7_:=(hb6.cell (p:=⟨w4.heap.size,7,none⟩) hs5).trans x7_
    have v8_:=(hb6.cell (p:=⟨w4.heap.size,8,none⟩) hs5).trans x8_
    have v9_:=(hb6.cell (p:=⟨w4.heap.size,9,none⟩) hs5).trans x9_
    have v10_:=(hb6.cell (p:=⟨w4.heap.size,10,none⟩) hs5).trans x10_
    have v11_:=(hb6.cell (p:=⟨w4.heap.size,11,none⟩) hs5).trans x11_
    have v12_:=(hb6.cell (p:=⟨w4.heap.size,12,none⟩) hs5).trans x12_
    have v13_:=(hb6.cell (p:=⟨w4.heap.size,13,none⟩) hs5).trans x13_
    have v14_:=(hb6.cell (p:=⟨w4.heap.size,14,none⟩) hs5).trans x14_
    show K _ w6
    refine hK _ _ ?_
    clear hK K
    go_simp
    refine r1 3 (fun K hK=>?_)
    go_simp
    go_wp2_with fail
    refine(cE.out _ _ _ _ _ _ _ (by first|exact hb6|exact hb6.drew|exact hb6.drew.drew) (by first|exact n6.out|exact n6.out.same (Same.of_below (Below.refl _ _).drew (Nat.le_refl _)))).mono ?_
    rintro e w7 ⟨rfl,hb7⟩
    show K _ w7
    refine hK _ _ ?_
    clear hK K
    go_simp
    refine ta 4 (.bool false) ?_ ?_
    ·intro w
     go_simp
    go_simp
    refine wpAny_done (by kernel_rfl) ?_ _
    have hbe:=mkHid (hbA.trans ((hB5.trans (hb7.mono hB5.size)).mono (Nat.le_of_lt hWs)))
    go_wp2
    go_ret
    exact⟨rfl,hbe.out⟩
   ·go_simp
    go_wp2_with fail
    refine(cT.out _ (by first|exact hb0|exact hb0.drew|exact hb0.drew.drew)).mono ?_
    rintro e w6 ⟨y3,y6,y7,y8,y10,y13,rfl,n6,hb6⟩
    have n6o:=n6.out
    obtain⟨⟨k3,l3,rfl,-⟩,⟨k6,l6,rfl,-⟩,⟨k7,l7,rfl,-⟩,⟨k8,l8,rfl,-⟩,⟨k10,l10,rfl,-⟩,⟨k13,l13,rfl,-⟩⟩:=n6o
    have v0_:=(hb6.cell (p:=⟨w4.heap.size,0,none⟩) hs5).trans x0_
    have v1_:=(hb6.cell (p:=⟨w4.heap.size,1,none⟩) hs5).trans x1_
    have v2_:=(hb6.cell (p:=⟨w4.heap.size,2,none⟩) hs5).trans x2_
    have v3_:=(hb6.cell (p:=⟨w4.heap.size,3,none⟩) hs5).trans x3_
    have v4_:=(hb6.cell (p:=⟨w4.heap.size,4,none⟩) hs5).trans x4_
    have v5_:=(hb6.cell (p:=⟨w4.heap.size,5,none⟩) hs5).trans x5_
    have v6_:=(hb6.cell (p:=⟨w4.heap.size,6,none⟩) hs5).trans x6_
    have v7_:=(hb6.cell (p:=⟨w4.heap.size,7,none⟩) hs5).trans x7_
    have v8_:=(hb6.cell (p:=⟨w4.heap.size,8,none⟩) hs5).trans x8_
    have v9_:=(hb6.cell (p:=⟨w4.heap.size,9,none⟩) hs5).trans x9_
    have v10_:=(hb6.cell (p:=⟨w4.heap.size,10,none⟩) hs5).trans x10_
    have v11_:=(hb6.cell (p:=⟨w4.heap.size,11,none⟩) hs5).trans x11_
    have v12_:=(hb6.cell (p:=⟨w4.heap.size,12,none⟩) hs5).trans x12_
    have v13_:=(hb6.cell (p:=⟨w4.heap.size,13,none⟩) hs5).trans x13_
    have v14_:=(hb6.cell (p:=⟨w4.heap.size,14,none⟩) hs5).trans x14_
    show K _ w6
    refine hK _ _ ?_
    clear hK K
    go_simp
    refine r1 0 (fun K hK=>?_)
    go_simp
    refine hK _ _ ?_
    clear hK K
    go_simp
    refine r1 3 (fun K hK=>?_)
    go_simp
    go_wp2_with fail
    refine(cE.out _ _ _ _ _ _ _ (by first|exact hb6|exact hb6.drew|exact hb6.drew.drew) (by first|exact n6.out|exact n6.out.same (Same.of_below (Below.refl _ _).drew (Nat.le_refl _)))).mono ?_
    rintro e w7 ⟨rfl,hb7⟩
    show K _ w7
    refine hK _ _ ?_
    clear hK K
    go_simp
    refine ta 4 (.bool false) ?_ ?_
    ·intro w
     go_simp
    go_simp
    refine wpAny_done (by kernel_rfl) ?_ _
    have hbe:=mkHid (hbA.trans ((hB5.trans (hb7.mono hB5.size)).mono (Nat.le_of_lt hWs)))
    go_wp2
    go_ret
    exact⟨rfl,hbe.out⟩
open Go.RowKit Go.Lib Go.ChangeShapes Go.WideShapes
theorem add_zeroG (a:Addr):a.add 0=a:=by simp[Addr.add]
theorem add_moreG (a:Addr)(j:Nat):a.add (j+1)=⟨a.block,a.off+(j+1),none⟩:=by
 unfold Addr.add
 simp
theorem block_lt_atG {W:World} {a:Addr} {i:Nat} {v:Value} (h:W.cell? (a.add i)=some v):a.block<W.heap.size:=by
 have hlt:(a.add i).block<W.heap.size:=World.block_lt_of_cell? _ _ h
 rw[add_blockG] at hlt
 exact hlt
theorem Tryz.cells2:Tryz.prog.cellsOf 2=1:=by kernel_rfl
theorem Tryz.cells4:Tryz.prog.cellsOf 4=1:=by kernel_rfl
theorem Tryz.cells9:Tryz.prog.cellsOf 9=1:=by kernel_rfl
theorem Tryz.cells_sStr:Tryz.prog.cellsOf 107=1:=by kernel_rfl
theorem Tryz.cells_sInt:Tryz.prog.cellsOf 27=1:=by kernel_rfl
theorem open_SStr {H:Type} {enc:TypeId × Value→H} {W:World} {sp:Nat→Bool} {v:Value} {y:DataW H × List MemPlace} {fuel:Nat} (hx:DataW.trod enc Tryz.prog W 0 sp true fuel 107 [v]=some y) :
  ∃ o F cap,v=.slice o F.length cap∧TxL 0 W.heap.size W o F∧F.length≤maxLen∧∀f ∈ F,f.size≤maxLen:=by
 rcases Go.ChangeShapes.open_strings Tryz.underlying107 Tryz.underlying9 Tryz.cells9 hx with ⟨hc,-⟩|⟨a',len',cap',zs,hc,-,hl,hm,hz,-,hcell,hsz⟩
 ·simp at hc
  subst hc
  exact⟨none,[],0,rfl,fun i hi=>absurd hi (Nat.not_lt_zero _),Nat.zero_le _,fun f hf=>by cases hf⟩
 ·simp at hc
  subst hc
  have hlz:len'≤zs.length:=by rw[hz];split<;>omega
  refine⟨some a',zs.take len',cap',by rw[List.length_take];simp;omega,?_,by rw[List.length_take];omega,fun f hf=>hsz f (List.mem_of_mem_take hf)⟩
  intro i hi
  rw[List.length_take] at hi
  have hc:=hcell i (by omega)
  refine⟨a',rfl,Nat.zero_le _,block_lt_atG hc,?_⟩
  rw[hc,List.getElem_take,List.getD_eq_getElem?_getD,List.getElem?_eq_getElem (by omega)]
  rfl
theorem open_SInt {H:Type} {enc:TypeId × Value→H} {W:World} {sp:Nat→Bool} {v:Value} {y:DataW H × List MemPlace} {fuel:Nat} (hx:DataW.trod enc Tryz.prog W 0 sp true fuel 27 [v]=some y) :
  ∃ o F cap,v=.slice o F.length cap∧InL 0 W.heap.size W o F∧F.length≤maxLen:=by
 rcases open_ints Tryz.underlying27 Tryz.underlying2 Tryz.cells2 hx with ⟨hc,-⟩|⟨a',len',cap',zs,hc,-,hl,hm,hz,-,hcell,-⟩
 ·simp at hc
  subst hc
  exact⟨none,[],0,rfl,fun i hi=>absurd hi (Nat.not_lt_zero _),Nat.zero_le _⟩
 ·simp at hc
  subst hc
  have hlz:len'≤zs.length:=by rw[hz];split<;>omega
  refine⟨some a',zs.take len',cap',by rw[List.length_take];simp;omega,?_,by rw[List.length_take];omega⟩
  intro i hi
  rw[List.length_take] at hi
  have hc:=hcell i (by omega)
  refine⟨a',rfl,Nat.zero_le _,block_lt_atG hc,?_⟩
  rw[hc,List.getElem_take,List.getD_eq_getElem?_getD,List.getElem?_eq_getElem (by omega)]
  rfl
theorem Tryz.cells_Alias:Tryz.prog.cellsOf 140=2:=by kernel_rfl
theorem Tryz.cells_sAlias:Tryz.prog.cellsOf 25=1:=by kernel_rfl
theorem GAlias_list {α:Type} {l:List α} (h:l.length=2):∃c0 c1,l=[c0,c1]:=by
 match l,h with
 | [c0,c1],_=>exact⟨c0,c1,rfl⟩
theorem GAlias_of {H:Type} {enc:TypeId × Value→H} {W:World} {sp:Nat→Bool} {k0:Nat} {cs:List Value} {y:DataW H × List MemPlace} (hlen:cs.length=2)(h2:DataW.trod enc Tryz.prog W 0 sp true k0 140 cs=some y) :
  ∃ (q:GAlias) (v1:Value),cs=[.string q.name,v1]∧GAliasIn 0 W.heap.size W q v1∧q.fits maxLen:=by
 obtain⟨xs,k,-,-,-,hxl,hf⟩:=DataW.trod_struct Tryz.underlying140 h2
 obtain⟨x0,x1,rfl⟩:=GAlias_list hlen
 obtain⟨y0,y1,rfl⟩:=GAlias_list (hxl.trans rfl)
 have g0:=hf 0 _ rfl
 simp[Tryz.cells9] at g0
 obtain⟨z0,e0,-,b0⟩:=DataW.trod_string Tryz.underlying9 g0
 have e0:x0=.string z0:=by simpa using e0
 have g1:=hf 1 _ rfl
 simp[Tryz.cells_sStr] at g1
 obtain⟨o1,z1,c1,e1,t1,l1,b1⟩:=open_SStr g1
 subst e0 e1
 exact⟨⟨z0,z1⟩,_,rfl,⟨⟨_,_,rfl,t1⟩⟩,⟨b0,l1,b1⟩⟩
theorem open_SAlias {H:Type} {enc:TypeId × Value→H} {W:World} {sp:Nat→Bool} {v:Value} {y:DataW H × List MemPlace} {fuel:Nat} (hx:DataW.trod enc Tryz.prog W 0 sp true fuel 25 [v]=some y) :
  ∃ o F cap,v=.slice o F.length cap∧GAliassL 0 W.heap.size W o F∧F.length≤maxLen∧∀f ∈ F,f.fits maxLen:=by
 rcases Go.Deep.open_slice Tryz.underlying25 hx with ⟨hc,-⟩|⟨a',len,cap,m,n,D,Pl,hc,-,hl,hm,hmm,-,hall⟩
 ·simp at hc
  subst hc
  exact⟨none,[],0,rfl,fun i hi=>absurd hi (Nat.not_lt_zero _),Nat.zero_le _,fun f hf=>by cases hf⟩
 ·simp at hc
  subst hc
  have hlm:len≤m:=by rw[hmm];split<;>omega
  have each:∀i,i<m→∃q:GAlias,(∃v1,GAliasAt W (a'.add (i*2)) q v1∧GAliasIn 0 W.heap.size W q v1)∧q.fits maxLen∧a'.block<W.heap.size:=by
   intro i hi
   obtain⟨cs',h1,h2⟩:=hall i hi
   rw[Tryz.cells_Alias] at h1
   obtain⟨_,hlen,hcell⟩:=World.cells?_some h1
   obtain⟨q,v1,rfl,hIn,hfit⟩:=GAlias_of hlen h2
   have d0:=hcell 0 (by omega)
   have d1:=hcell 1 (by omega)
   rw[show(a'.add (i*2)).add 0=a'.add (i*2) from add_zeroG _] at d0
   rw[add_moreG _ 0] at d1
   exact⟨q,⟨v1,⟨by simpa using d0,by simpa using d1⟩,hIn⟩,hfit,by have:=World.block_lt_of_cell? _ _ d0;rw[add_blockG] at this;exact this⟩
  haveI:Inhabited GAlias:=⟨⟨⟨#[]⟩,[]⟩⟩
  obtain⟨q,hq⟩:=Go.Deep.choose_lt each
  refine⟨some a',(List.range len).map q,cap,by simp,?_,by simp;omega,?_⟩
  ·intro i hi
   simp at hi
   obtain⟨⟨v1,x1,x2⟩,-,x3⟩:=hq i (by omega)
   exact⟨a',v1,rfl,Nat.zero_le _,x3,by simpa using x1,by simpa using x2⟩
  ·intro f hf
   simp only[List.mem_map,List.mem_range] at hf
   obtain⟨i,hi,rfl⟩:=hf
   exact(hq i (by omega)).2.1
theorem Tryz.cells_Mx:Tryz.prog.cellsOf 142=3:=by kernel_rfl
theorem Tryz.cells_sMx:Tryz.prog.cellsOf 26=1:=by kernel_rfl
theorem GMx_list {α:Type} {l:List α} (h:l.length=3):∃c0 c1 c2,l=[c0,c1,c2]:=by
 match l,h with
 | [c0,c1,c2],_=>exact⟨c0,c1,c2,rfl⟩
theorem GMx_of {H:Type} {enc:TypeId × Value→H} {W:World} {sp:Nat→Bool} {k0:Nat} {cs:List Value} {y:DataW H × List MemPlace} (hlen:cs.length=3)(h2:DataW.trod enc Tryz.prog W 0 sp true k0 142 cs=some y) :
  ∃ (q:GMx),cs=[.string q.domain,.int .i64 q.prefer,.string q.host]∧q.fits maxLen:=by
 obtain⟨xs,k,-,-,-,hxl,hf⟩:=DataW.trod_struct Tryz.underlying142 h2
 obtain⟨x0,x1,x2,rfl⟩:=GMx_list hlen
 obtain⟨y0,y1,y2,rfl⟩:=GMx_list (hxl.trans rfl)
 have g0:=hf 0 _ rfl
 simp[Tryz.cells9] at g0
 obtain⟨z0,e0,-,b0⟩:=DataW.trod_string Tryz.underlying9 g0
 have e0:x0=.string z0:=by simpa using e0
 have g1:=hf 1 _ rfl
 simp[Tryz.cells2] at g1
 obtain⟨z1,e1,-⟩:=DataW.trod_int Tryz.underlying2 g1
 have e1:x1=.int .i64 z1:=by simpa using e1
 have g2:=hf 2 _ rfl
 simp[Tryz.cells9] at g2
 obtain⟨z2,e2,-,b2⟩:=DataW.trod_string Tryz.underlying9 g2
 have e2:x2=.string z2:=by simpa using e2
 subst e0 e1 e2
 exact⟨⟨z0,z1,z2⟩,rfl,⟨b0,b2⟩⟩
theorem open_SMx {H:Type} {enc:TypeId × Value→H} {W:World} {sp:Nat→Bool} {v:Value} {y:DataW H × List MemPlace} {fuel:Nat} (hx:DataW.trod enc Tryz.prog W 0 sp true fuel 26 [v]=some y) :
  ∃ o F cap,v=.slice o F.length cap∧GMxsL 0 W.heap.size W o F∧F.length≤maxLen∧∀f ∈ F,f.fits maxLen:=by
 rcases Go.Deep.open_slice Tryz.underlying26 hx with ⟨hc,-⟩|⟨a',len,cap,m,n,D,Pl,hc,-,hl,hm,hmm,-,hall⟩
 ·simp at hc
  subst hc
  exact⟨none,[],0,rfl,fun i hi=>absurd hi (Nat.not_lt_zero _),Nat.zero_le _,fun f hf=>by cases hf⟩
 ·simp at hc
  subst hc
  have hlm:len≤m:=by rw[hmm];split<;>omega
  have each:∀i,i<m→∃q:GMx,(GMxAt W (a'.add (i*3)) q)∧q.fits maxLen∧a'.block<W.heap.size:=by
   intro i hi
   obtain⟨cs',h1,h2⟩:=hall i hi
   rw[Tryz.cells_Mx] at h1
   obtain⟨_,hlen,hcell⟩:=World.cells?_some h1
   obtain⟨q,rfl,hfit⟩:=GMx_of hlen h2
   have d0:=hcell 0 (by omega)
   have d1:=hcell 1 (by omega)
   have d2:=hcell 2 (by omega)
   rw[show(a'.add (i*3)).add 0=a'.add (i*3) from add_zeroG _] at d0
   rw[add_moreG _ 0] at d1
   rw[add_moreG _ 1] at d2
   exact⟨q,⟨by simpa using d0,by simpa using d1,by simpa using d2⟩,hfit,by have:=World.block_lt_of_cell? _ _ d0;rw[add_blockG] at this;exact this⟩
  haveI:Inhabited GMx:=⟨⟨⟨#[]⟩,0,⟨#[]⟩⟩⟩
  obtain⟨q,hq⟩:=Go.Deep.choose_lt each
  refine⟨some a',(List.range len).map q,cap,by simp,?_,by simp;omega,?_⟩
  ·intro i hi
   simp at hi
   obtain⟨x1,-,x3⟩:=hq i (by omega)
   exact⟨a',rfl,Nat.zero_le _,x3,by simpa using x1⟩
  ·intro f hf
   simp only[List.mem_map,List.mem_range] at hf
   obtain⟨i,hi,rfl⟩:=hf
   exact(hq i (by omega)).2.1
theorem Tryz.cells_QueueConfig:Tryz.prog.cellsOf 29=5:=by kernel_rfl
theorem GQueueConfig_list {α:Type} {l:List α} (h:l.length=5):∃c0 c1 c2 c3 c4,l=[c0,c1,c2,c3,c4]:=by
 match l,h with
 | [c0,c1,c2,c3,c4],_=>exact⟨c0,c1,c2,c3,c4,rfl⟩
theorem GQueueConfig_of {H:Type} {enc:TypeId × Value→H} {W:World} {sp:Nat→Bool} {k0:Nat} {cs:List Value} {y:DataW H × List MemPlace} (hlen:cs.length=5)(h2:DataW.trod enc Tryz.prog W 0 sp true k0 29 cs=some y) :
  ∃ (q:GQueueConfig) (v1 v2 v3:Value),cs=[.string q.locF,v1,v2,v3,.int .i64 q.maxAge]∧GQueueConfigIn 0 W.heap.size W q v1 v2 v3∧q.fits maxLen:=by
 obtain⟨xs,k,-,-,-,hxl,hf⟩:=DataW.trod_struct Tryz.underlying29 h2
 obtain⟨x0,x1,x2,x3,x4,rfl⟩:=GQueueConfig_list hlen
 obtain⟨y0,y1,y2,y3,y4,rfl⟩:=GQueueConfig_list (hxl.trans rfl)
 have g0:=hf 0 _ rfl
 simp[Tryz.cells9] at g0
 obtain⟨z0,e0,-,b0⟩:=DataW.trod_string Tryz.underlying9 g0
 have e0:x0=.string z0:=by simpa using e0
 have g1:=hf 1 _ rfl
 simp[Tryz.cells_sAlias] at g1
 obtain⟨o1,z1,c1,e1,t1,l1,b1⟩:=open_SAlias g1
 have g2:=hf 2 _ rfl
 simp[Tryz.cells_sMx] at g2
 obtain⟨o2,z2,c2,e2,t2,l2,b2⟩:=open_SMx g2
 have g3:=hf 3 _ rfl
 simp[Tryz.cells_sInt] at g3
 obtain⟨o3,z3,c3,e3,t3,l3⟩:=open_SInt g3
 have g4:=hf 4 _ rfl
 simp[Tryz.cells2] at g4
 obtain⟨z4,e4,-⟩:=DataW.trod_int Tryz.underlying2 g4
 have e4:x4=.int .i64 z4:=by simpa using e4
 subst e0 e1 e2 e3 e4
 exact⟨⟨z0,z1,z2,z3,z4⟩,_,_,_,rfl,⟨⟨_,_,rfl,t1⟩,⟨_,_,rfl,t2⟩,⟨_,_,rfl,t3⟩⟩,⟨b0,l1,b1,l2,b2,l3⟩⟩
theorem Tryz.cells_WorldUser:Tryz.prog.cellsOf 87=4:=by kernel_rfl
theorem Tryz.cells_sWorldUser:Tryz.prog.cellsOf 30=1:=by kernel_rfl
theorem GWorldUser_list {α:Type} {l:List α} (h:l.length=4):∃c0 c1 c2 c3,l=[c0,c1,c2,c3]:=by
 match l,h with
 | [c0,c1,c2,c3],_=>exact⟨c0,c1,c2,c3,rfl⟩
theorem GWorldUser_of {H:Type} {enc:TypeId × Value→H} {W:World} {sp:Nat→Bool} {k0:Nat} {cs:List Value} {y:DataW H × List MemPlace} (hlen:cs.length=4)(h2:DataW.trod enc Tryz.prog W 0 sp true k0 87 cs=some y) :
  ∃ (q:GWorldUser),cs=[.string q.name,.string q.password,.bool q.readOnly,.string q.filter]∧q.fits maxLen:=by
 obtain⟨xs,k,-,-,-,hxl,hf⟩:=DataW.trod_struct Tryz.underlying87 h2
 obtain⟨x0,x1,x2,x3,rfl⟩:=GWorldUser_list hlen
 obtain⟨y0,y1,y2,y3,rfl⟩:=GWorldUser_list (hxl.trans rfl)
 have g0:=hf 0 _ rfl
 simp[Tryz.cells9] at g0
 obtain⟨z0,e0,-,b0⟩:=DataW.trod_string Tryz.underlying9 g0
 have e0:x0=.string z0:=by simpa using e0
 have g1:=hf 1 _ rfl
 simp[Tryz.cells9] at g1
 obtain⟨z1,e1,-,b1⟩:=DataW.trod_string Tryz.underlying9 g1
 have e1:x1=.string z1:=by simpa using e1
 have g2:=hf 2 _ rfl
 simp[Tryz.cells4] at g2
 obtain⟨z2,e2,-⟩:=DataW.trod_bool Tryz.underlying4 g2
 have e2:x2=.bool z2:=by simpa using e2
 have g3:=hf 3 _ rfl
 simp[Tryz.cells9] at g3
 obtain⟨z3,e3,-,b3⟩:=DataW.trod_string Tryz.underlying9 g3
 have e3:x3=.string z3:=by simpa using e3
 subst e0 e1 e2 e3
 exact⟨⟨z0,z1,z2,z3⟩,rfl,⟨b0,b1,b3⟩⟩
theorem open_SWorldUser {H:Type} {enc:TypeId × Value→H} {W:World} {sp:Nat→Bool} {v:Value} {y:DataW H × List MemPlace} {fuel:Nat} (hx:DataW.trod enc Tryz.prog W 0 sp true fuel 30 [v]=some y) :
  ∃ o F cap,v=.slice o F.length cap∧GWorldUsersL 0 W.heap.size W o F∧F.length≤maxLen∧∀f ∈ F,f.fits maxLen:=by
 rcases Go.Deep.open_slice Tryz.underlying30 hx with ⟨hc,-⟩|⟨a',len,cap,m,n,D,Pl,hc,-,hl,hm,hmm,-,hall⟩
 ·simp at hc
  subst hc
  exact⟨none,[],0,rfl,fun i hi=>absurd hi (Nat.not_lt_zero _),Nat.zero_le _,fun f hf=>by cases hf⟩
 ·simp at hc
  subst hc
  have hlm:len≤m:=by rw[hmm];split<;>omega
  have each:∀i,i<m→∃q:GWorldUser,(GWorldUserAt W (a'.add (i*4)) q)∧q.fits maxLen∧a'.block<W.heap.size:=by
   intro i hi
   obtain⟨cs',h1,h2⟩:=hall i hi
   rw[Tryz.cells_WorldUser] at h1
   obtain⟨_,hlen,hcell⟩:=World.cells?_some h1
   obtain⟨q,rfl,hfit⟩:=GWorldUser_of hlen h2
   have d0:=hcell 0 (by omega)
   have d1:=hcell 1 (by omega)
   have d2:=hcell 2 (by omega)
   have d3:=hcell 3 (by omega)
   rw[show(a'.add (i*4)).add 0=a'.add (i*4) from add_zeroG _] at d0
   rw[add_moreG _ 0] at d1
   rw[add_moreG _ 1] at d2
   rw[add_moreG _ 2] at d3
   exact⟨q,⟨by simpa using d0,by simpa using d1,by simpa using d2,by simpa using d3⟩,hfit,by have:=World.block_lt_of_cell? _ _ d0;rw[add_blockG] at this;exact this⟩
  haveI:Inhabited GWorldUser:=⟨⟨⟨#[]⟩,⟨#[]⟩,false,⟨#[]⟩⟩⟩
  obtain⟨q,hq⟩:=Go.Deep.choose_lt each
  refine⟨some a',(List.range len).map q,cap,by simp,?_,by simp;omega,?_⟩
  ·intro i hi
   simp at hi
   obtain⟨x1,-,x3⟩:=hq i (by omega)
   exact⟨a',rfl,Nat.zero_le _,x3,by simpa using x1⟩
  ·intro f hf
   simp only[List.mem_map,List.mem_range] at hf
   obtain⟨i,hi,rfl⟩:=hf
   exact(hq i (by omega)).2.1
end Go.Proofs.YtkcajnjledldnaaGreatDoor
