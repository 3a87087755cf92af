import Derived.Test.YtkcajnjledldnaaGreatDoorGenArgWorldUser
import Derived.Test.YtkcajnjledldnaaGreatDoorGenSignKey
import Derived.Test.YtkcajnjledldnaaGreatDoorTk
import Derived.Test.YtkcajnjledldnaaGreatDoorRows
import Derived.Test.YtkcajnjledldnaaGreatDoorTie
import Derived.Test.YtkcajnjledldnaaGreatDoorCards
import Derived.WalkKit
import Derived.ProofKit
import Derived.OpenShut
import Derived.ShutString
import Derived.ChangeOld
import Derived.Below
import Derived.Handed
import Derived.Lay
import Derived.LaidMore
import Derived.LaidSub
import Derived.LaidLaws
import Derived.Stop.Joined
import Derived.SevenTiedAt
import Derived.Lib.LaidTab
import Derived.Carry
import Derived.ChangeArms
import Derived.ChangeSame
set_option maxRecDepth 20000
namespace Go.Proofs.YtkcajnjledldnaaGreatDoor
open Go.RowKit Go.Lib Go.ChangeShapes Go.WideShapes
theorem Tryz.cells_WordCount:Tryz.prog.cellsOf 144=3:=by kernel_rfl
theorem Tryz.cells_sWordCount:Tryz.prog.cellsOf 31=1:=by kernel_rfl
theorem GWordCount_list {α:Type} {l:List α} (h:l.length=3):∃c0 c1 c2,l=[c0,c1,c2]:=by
 match l,h with
 | [c0,c1,c2],_=>exact⟨c0,c1,c2,rfl⟩
theorem GWordCount_of {H:Type} {enc:TypeId × Value→H} {W:World} {sp:Nat→Bool} {k0:Nat} {cs:List Value} {y:DataW H × List MemPlace} (hlen:cs.length=3)(h2:DataW.trod enc Tryz.prog W 0 sp true k0 144 cs=some y) :
  ∃ (q:GWordCount),cs=[.string q.word,.int .i64 q.good,.int .i64 q.bad]∧q.fits maxLen:=by
 obtain⟨xs,k,-,-,-,hxl,hf⟩:=DataW.trod_struct Tryz.underlying144 h2
 obtain⟨x0,x1,x2,rfl⟩:=GWordCount_list hlen
 obtain⟨y0,y1,y2,rfl⟩:=GWordCount_list (hxl.trans rfl)
 have g0:=hf 0 _ rfl
 simp[Tryz.cells9] at g0
 obtain⟨z0,e0,-,b0⟩:=DataW.trod_string Tryz.underlying9 g0
 have e0:x0=.string z0:=by simpa using e0
 have g1:=hf 1 _ rfl
 simp[Tryz.cells2] at g1
 obtain⟨z1,e1,-⟩:=DataW.trod_int Tryz.underlying2 g1
 have e1:x1=.int .i64 z1:=by simpa using e1
 have g2:=hf 2 _ rfl
 simp[Tryz.cells2] at g2
 obtain⟨z2,e2,-⟩:=DataW.trod_int Tryz.underlying2 g2
 have e2:x2=.int .i64 z2:=by simpa using e2
 subst e0 e1 e2
 exact⟨⟨z0,z1,z2⟩,rfl,b0⟩
theorem open_SWordCount {H:Type} {enc:TypeId × Value→H} {W:World} {sp:Nat→Bool} {v:Value} {y:DataW H × List MemPlace} {fuel:Nat} (hx:DataW.trod enc Tryz.prog W 0 sp true fuel 31 [v]=some y) :
  ∃ o F cap,v=.slice o F.length cap∧GWordCountsL 0 W.heap.size W o F∧F.length≤maxLen∧∀f ∈ F,f.fits maxLen:=by
 rcases Go.Deep.open_slice Tryz.underlying31 hx with ⟨hc,-⟩|⟨a',len,cap,m,n,D,Pl,hc,-,hl,hm,hmm,-,hall⟩
 ·simp at hc
  subst hc
  exact⟨none,[],0,rfl,fun i hi=>absurd hi (Nat.not_lt_zero _),Nat.zero_le _,fun f hf=>by cases hf⟩
 ·simp at hc
  subst hc
  have hlm:len≤m:=by rw[hmm];split<;>omega
  have each:∀i,i<m→∃q:GWordCount,(GWordCountAt W (a'.add (i*3)) q)∧q.fits maxLen∧a'.block<W.heap.size:=by
   intro i hi
   obtain⟨cs',h1,h2⟩:=hall i hi
   rw[Tryz.cells_WordCount] at h1
   obtain⟨_,hlen,hcell⟩:=World.cells?_some h1
   obtain⟨q,rfl,hfit⟩:=GWordCount_of hlen h2
   have d0:=hcell 0 (by omega)
   have d1:=hcell 1 (by omega)
   have d2:=hcell 2 (by omega)
   rw[show(a'.add (i*3)).add 0=a'.add (i*3) from add_zeroG _] at d0
   rw[add_moreG _ 0] at d1
   rw[add_moreG _ 1] at d2
   exact⟨q,⟨by simpa using d0,by simpa using d1,by simpa using d2⟩,hfit,by have:=World.block_lt_of_cell? _ _ d0;rw[add_blockG] at this;exact this⟩
  haveI:Inhabited GWordCount:=⟨⟨⟨#[]⟩,0,0⟩⟩
  obtain⟨q,hq⟩:=Go.Deep.choose_lt each
  refine⟨some a',(List.range len).map q,cap,by simp,?_,by simp;omega,?_⟩
  ·intro i hi
   simp at hi
   obtain⟨x1,-,x3⟩:=hq i (by omega)
   exact⟨a',rfl,Nat.zero_le _,x3,by simpa using x1⟩
  ·intro f hf
   simp only[List.mem_map,List.mem_range] at hf
   obtain⟨i,hi,rfl⟩:=hf
   exact(hq i (by omega)).2.1
theorem Tryz.cells_ScoreTable:Tryz.prog.cellsOf 33=3:=by kernel_rfl
theorem GScoreTable_list {α:Type} {l:List α} (h:l.length=3):∃c0 c1 c2,l=[c0,c1,c2]:=by
 match l,h with
 | [c0,c1,c2],_=>exact⟨c0,c1,c2,rfl⟩
theorem GScoreTable_of {H:Type} {enc:TypeId × Value→H} {W:World} {sp:Nat→Bool} {k0:Nat} {cs:List Value} {y:DataW H × List MemPlace} (hlen:cs.length=3)(h2:DataW.trod enc Tryz.prog W 0 sp true k0 33 cs=some y) :
  ∃ (q:GScoreTable) (v2:Value),cs=[.int .i64 q.good,.int .i64 q.bad,v2]∧GScoreTableIn 0 W.heap.size W q v2∧q.fits maxLen:=by
 obtain⟨xs,k,-,-,-,hxl,hf⟩:=DataW.trod_struct Tryz.underlying33 h2
 obtain⟨x0,x1,x2,rfl⟩:=GScoreTable_list hlen
 obtain⟨y0,y1,y2,rfl⟩:=GScoreTable_list (hxl.trans rfl)
 have g0:=hf 0 _ rfl
 simp[Tryz.cells2] at g0
 obtain⟨z0,e0,-⟩:=DataW.trod_int Tryz.underlying2 g0
 have e0:x0=.int .i64 z0:=by simpa using e0
 have g1:=hf 1 _ rfl
 simp[Tryz.cells2] at g1
 obtain⟨z1,e1,-⟩:=DataW.trod_int Tryz.underlying2 g1
 have e1:x1=.int .i64 z1:=by simpa using e1
 have g2:=hf 2 _ rfl
 simp[Tryz.cells_sWordCount] at g2
 obtain⟨o2,z2,c2,e2,t2,l2,b2⟩:=open_SWordCount g2
 subst e0 e1 e2
 exact⟨⟨z0,z1,z2⟩,_,rfl,⟨⟨_,_,rfl,t2⟩⟩,⟨l2,b2⟩⟩
theorem Tryz.cells_SignKey:Tryz.prog.cellsOf 137=4:=by kernel_rfl
theorem Tryz.cells_sSignKey:Tryz.prog.cellsOf 22=1:=by kernel_rfl
theorem GSignKey_list {α:Type} {l:List α} (h:l.length=4):∃c0 c1 c2 c3,l=[c0,c1,c2,c3]:=by
 match l,h with
 | [c0,c1,c2,c3],_=>exact⟨c0,c1,c2,c3,rfl⟩
theorem GSignKey_of {H:Type} {enc:TypeId × Value→H} {W:World} {sp:Nat→Bool} {k0:Nat} {cs:List Value} {y:DataW H × List MemPlace} (hlen:cs.length=4)(h2:DataW.trod enc Tryz.prog W 0 sp true k0 137 cs=some y) :
  ∃ (q:GSignKey),cs=[.string q.domain,.string q.selector,.int .i64 q.a,.int .i64 q.b]∧q.fits maxLen:=by
 obtain⟨xs,k,-,-,-,hxl,hf⟩:=DataW.trod_struct Tryz.underlying137 h2
 obtain⟨x0,x1,x2,x3,rfl⟩:=GSignKey_list hlen
 obtain⟨y0,y1,y2,y3,rfl⟩:=GSignKey_list (hxl.trans rfl)
 have g0:=hf 0 _ rfl
 simp[Tryz.cells9] at g0
 obtain⟨z0,e0,-,b0⟩:=DataW.trod_string Tryz.underlying9 g0
 have e0:x0=.string z0:=by simpa using e0
 have g1:=hf 1 _ rfl
 simp[Tryz.cells9] at g1
 obtain⟨z1,e1,-,b1⟩:=DataW.trod_string Tryz.underlying9 g1
 have e1:x1=.string z1:=by simpa using e1
 have g2:=hf 2 _ rfl
 simp[Tryz.cells2] at g2
 obtain⟨z2,e2,-⟩:=DataW.trod_int Tryz.underlying2 g2
 have e2:x2=.int .i64 z2:=by simpa using e2
 have g3:=hf 3 _ rfl
 simp[Tryz.cells2] at g3
 obtain⟨z3,e3,-⟩:=DataW.trod_int Tryz.underlying2 g3
 have e3:x3=.int .i64 z3:=by simpa using e3
 subst e0 e1 e2 e3
 exact⟨⟨z0,z1,z2,z3⟩,rfl,⟨b0,b1⟩⟩
theorem open_SSignKey {H:Type} {enc:TypeId × Value→H} {W:World} {sp:Nat→Bool} {v:Value} {y:DataW H × List MemPlace} {fuel:Nat} (hx:DataW.trod enc Tryz.prog W 0 sp true fuel 22 [v]=some y) :
  ∃ o F cap,v=.slice o F.length cap∧GSignKeysL 0 W.heap.size W o F∧F.length≤maxLen∧∀f ∈ F,f.fits maxLen:=by
 rcases Go.Deep.open_slice Tryz.underlying22 hx with ⟨hc,-⟩|⟨a',len,cap,m,n,D,Pl,hc,-,hl,hm,hmm,-,hall⟩
 ·simp at hc
  subst hc
  exact⟨none,[],0,rfl,fun i hi=>absurd hi (Nat.not_lt_zero _),Nat.zero_le _,fun f hf=>by cases hf⟩
 ·simp at hc
  subst hc
  have hlm:len≤m:=by rw[hmm];split<;>omega
  have each:∀i,i<m→∃q:GSignKey,(GSignKeyAt W (a'.add (i*4)) q)∧q.fits maxLen∧a'.block<W.heap.size:=by
   intro i hi
   obtain⟨cs',h1,h2⟩:=hall i hi
   rw[Tryz.cells_SignKey] at h1
   obtain⟨_,hlen,hcell⟩:=World.cells?_some h1
   obtain⟨q,rfl,hfit⟩:=GSignKey_of hlen h2
   have d0:=hcell 0 (by omega)
   have d1:=hcell 1 (by omega)
   have d2:=hcell 2 (by omega)
   have d3:=hcell 3 (by omega)
   rw[show(a'.add (i*4)).add 0=a'.add (i*4) from add_zeroG _] at d0
   rw[add_moreG _ 0] at d1
   rw[add_moreG _ 1] at d2
   rw[add_moreG _ 2] at d3
   exact⟨q,⟨by simpa using d0,by simpa using d1,by simpa using d2,by simpa using d3⟩,hfit,by have:=World.block_lt_of_cell? _ _ d0;rw[add_blockG] at this;exact this⟩
  haveI:Inhabited GSignKey:=⟨⟨⟨#[]⟩,⟨#[]⟩,0,0⟩⟩
  obtain⟨q,hq⟩:=Go.Deep.choose_lt each
  refine⟨some a',(List.range len).map q,cap,by simp,?_,by simp;omega,?_⟩
  ·intro i hi
   simp at hi
   obtain⟨x1,-,x3⟩:=hq i (by omega)
   exact⟨a',rfl,Nat.zero_le _,x3,by simpa using x1⟩
  ·intro f hf
   simp only[List.mem_map,List.mem_range] at hf
   obtain⟨i,hi,rfl⟩:=hf
   exact(hq i (by omega)).2.1
theorem Tryz.cells_TransferConfig:Tryz.prog.cellsOf 24=5:=by kernel_rfl
theorem GTransferConfig_list {α:Type} {l:List α} (h:l.length=5):∃c0 c1 c2 c3 c4,l=[c0,c1,c2,c3,c4]:=by
 match l,h with
 | [c0,c1,c2,c3,c4],_=>exact⟨c0,c1,c2,c3,c4,rfl⟩
theorem GTransferConfig_of {H:Type} {enc:TypeId × Value→H} {W:World} {sp:Nat→Bool} {k0:Nat} {cs:List Value} {y:DataW H × List MemPlace} (hlen:cs.length=5)(h2:DataW.trod enc Tryz.prog W 0 sp true k0 24 cs=some y) :
  ∃ (q:GTransferConfig) (v3:Value),cs=[.string q.locF,.bool q.relay,.int .i64 q.maxBytes,v3,.int .i64 q.seed]∧GTransferConfigIn 0 W.heap.size W q v3∧q.fits maxLen:=by
 obtain⟨xs,k,-,-,-,hxl,hf⟩:=DataW.trod_struct Tryz.underlying24 h2
 obtain⟨x0,x1,x2,x3,x4,rfl⟩:=GTransferConfig_list hlen
 obtain⟨y0,y1,y2,y3,y4,rfl⟩:=GTransferConfig_list (hxl.trans rfl)
 have g0:=hf 0 _ rfl
 simp[Tryz.cells9] at g0
 obtain⟨z0,e0,-,b0⟩:=DataW.trod_string Tryz.underlying9 g0
 have e0:x0=.string z0:=by simpa using e0
 have g1:=hf 1 _ rfl
 simp[Tryz.cells4] at g1
 obtain⟨z1,e1,-⟩:=DataW.trod_bool Tryz.underlying4 g1
 have e1:x1=.bool z1:=by simpa using e1
 have g2:=hf 2 _ rfl
 simp[Tryz.cells2] at g2
 obtain⟨z2,e2,-⟩:=DataW.trod_int Tryz.underlying2 g2
 have e2:x2=.int .i64 z2:=by simpa using e2
 have g3:=hf 3 _ rfl
 simp[Tryz.cells_sSignKey] at g3
 obtain⟨o3,z3,c3,e3,t3,l3,b3⟩:=open_SSignKey g3
 have g4:=hf 4 _ rfl
 simp[Tryz.cells2] at g4
 obtain⟨z4,e4,-⟩:=DataW.trod_int Tryz.underlying2 g4
 have e4:x4=.int .i64 z4:=by simpa using e4
 subst e0 e1 e2 e3 e4
 exact⟨⟨z0,z1,z2,z3,z4⟩,_,rfl,⟨⟨_,_,rfl,t3⟩⟩,⟨b0,l3,b3⟩⟩
theorem GWorldConfig_list {α:Type} {l:List α} (h:l.length=15):∃c0 c1 c2 c3 c4 c5 c6 c7 c8 c9 c10 c11 c12 c13 c14,l=[c0,c1,c2,c3,c4,c5,c6,c7,c8,c9,c10,c11,c12,c13,c14]:=by
 match l,h with
 | [c0,c1,c2,c3,c4,c5,c6,c7,c8,c9,c10,c11,c12,c13,c14],_=>exact⟨c0,c1,c2,c3,c4,c5,c6,c7,c8,c9,c10,c11,c12,c13,c14,rfl⟩
theorem GWorldConfig_listF {α:Type} {l:List α} (h:l.length=5):∃c0 c1 c2 c3 c4,l=[c0,c1,c2,c3,c4]:=by
 match l,h with
 | [c0,c1,c2,c3,c4],_=>exact⟨c0,c1,c2,c3,c4,rfl⟩
theorem GWorldConfig_of {H:Type} {enc:TypeId × Value→H} {W:World} {sp:Nat→Bool} {k0:Nat} {cs:List Value} {y:DataW H × List MemPlace} (hlen:cs.length=15)(h2:DataW.trod enc Tryz.prog W 0 sp true k0 35 cs=some y) :
  ∃ (q:GWorldConfig) (v3 v6 v7 v8 v10 v13:Value),cs=[.string q.transfer.locF,.bool q.transfer.relay,.int .i64 q.transfer.maxBytes,v3,.int .i64 q.transfer.seed,.string q.queue.locF,v6,v7,v8,.int .i64 q.queue.maxAge,v10,.int .i64 q.table.good,.int .i64 q.table.bad,v13,.int .i64 q.percent]∧GWorldConfigIn 0 W.heap.size W q v3 v6 v7 v8 v10 v13∧q.fits maxLen:=by
 obtain⟨xs,k,-,-,-,hxl,hf⟩:=DataW.trod_struct Tryz.underlying35 h2
 obtain⟨x0,x1,x2,x3,x4,x5,x6,x7,x8,x9,x10,x11,x12,x13,x14,rfl⟩:=GWorldConfig_list hlen
 obtain⟨y0,y1,y2,y3,y4,rfl⟩:=GWorldConfig_listF (hxl.trans rfl)
 have g0:=hf 0 _ rfl
 simp[Tryz.cells_TransferConfig] at g0
 obtain⟨z0,v3,e0,s0,b0⟩:=GTransferConfig_of (by simp) g0
 simp only[List.cons.injEq,and_true] at e0
 obtain⟨e0_0,e0_1,e0_2,e0_3,e0_4⟩:=e0
 have g1:=hf 1 _ rfl
 simp[Tryz.cells_QueueConfig] at g1
 obtain⟨z5,v6,v7,v8,e5,s5,b5⟩:=GQueueConfig_of (by simp) g1
 simp only[List.cons.injEq,and_true] at e5
 obtain⟨e5_0,e5_1,e5_2,e5_3,e5_4⟩:=e5
 have g2:=hf 2 _ rfl
 simp[Tryz.cells_sWorldUser] at g2
 obtain⟨o10,z10,c10,e10,t10,l10,b10⟩:=open_SWorldUser g2
 have g3:=hf 3 _ rfl
 simp[Tryz.cells_ScoreTable] at g3
 obtain⟨z11,v13,e11,s11,b11⟩:=GScoreTable_of (by simp) g3
 simp only[List.cons.injEq,and_true] at e11
 obtain⟨e11_0,e11_1,e11_2⟩:=e11
 have g4:=hf 4 _ rfl
 simp[Tryz.cells2] at g4
 obtain⟨z14,e14,-⟩:=DataW.trod_int Tryz.underlying2 g4
 have e14:x14=.int .i64 z14:=by simpa using e14
 subst e0_0 e0_1 e0_2 e0_3 e0_4 e5_0 e5_1 e5_2 e5_3 e5_4 e10 e11_0 e11_1 e11_2 e14
 exact⟨⟨z0,z5,z10,z11,z14⟩,_,_,_,_,_,_,rfl,⟨s0.s3,s5.s1,s5.s2,s5.s3,⟨_,_,rfl,t10⟩,s11.s2⟩,⟨b0.1,b0.2.1,b0.2.2,b5.1,b5.2.1,b5.2.2.1,b5.2.2.2.1,b5.2.2.2.2.1,b5.2.2.2.2.2,l10,b10,b11.1,b11.2⟩⟩
theorem GWorldConfig_arg {H:Type} {enc:TypeId × Value→H} {W:World} {sp:Nat→Bool} {v:Value} {d:DataW H} {ps:List MemPlace} {r:Reach} {b0:Nat} (hval:Value.okWide Tryz.prog W r b0 35 v)(h:DataW.Trod enc Tryz.prog W 0 sp true 35 v d ps) :
  ∃ (q:GWorldConfig) (v3 v6 v7 v8 v10 v13:Value),v=GWorldConfigV q v3 v6 v7 v8 v10 v13∧GWorldConfigIn 0 W.heap.size W q v3 v6 v7 v8 v10 v13∧q.fits maxLen:=by
 obtain⟨cs,rfl,hsz⟩:=Go.WideShapes.okWide_struct Tryz.underlying35 hval
 obtain⟨fuel,hf⟩:=h
 obtain⟨q,v3,v6,v7,v8,v10,v13,e,hIn,hfit⟩:=GWorldConfig_of (by simp only[Value.cells];rw[Array.length_toList];exact hsz.trans (by kernel_rfl)) hf
 simp only[Value.cells] at e
 have e2:=congrArg List.toArray e
 rw[Array.toArray_toList] at e2
 subst e2
 exact⟨q,v3,v6,v7,v8,v10,v13,rfl,hIn,hfit⟩
open Go Go.ChangeShapes Go.WideShapes Go.ChangeAt Go.WideMaps Go.WideElems Go.RowKit Go.Lib
open Go.ChangeMaps (open_string shut_string)
theorem laidOut:laidOutB Tryz.prog=true:=by kernel_rfl
theorem own:ownKnob Tryz.prog.godebug=none:=by kernel_rfl
theorem cells_of_strs {H:Type} {enc:TypeId × Value→H} {P:Program} {w:World} {base:Nat} {sp:Nat→Bool} {held:Bool} {fuel:Nat} {t e:TypeId} {n:Nat} {cs:List Value} {ss:List (List UInt8)} {p:List MemPlace}
  (ht:P.underlying t=some (.array n e)) (he:P.underlying e=some .string) (hce:P.cellsOf e=1) (hct:P.cellsOf t=n)
  (h:DataW.trod enc P w base sp held fuel t cs=some (.agg (ss.map fun s=>.lit (.string s)),p)):cs=ss.map fun s=>Value.string ⟨s.toArray⟩:=by
 cases fuel with
 | zero=>simp[DataW.trod] at h
 | succ fuel=>
  simp only[DataW.trod,ht,hce,hct,Nat.mul_one] at h
  split at h
  ·rename_i hl
   obtain⟨xs,hm,hx⟩:=Option.map_eq_some_iff.1 h
   have hxs:xs.map (·.1)=ss.map fun s=>(DataW.lit (.string s):DataW H):=by
    have:=congrArg Prod.fst hx
    simpa using this
   have hxl:xs.length=n:=by simpa using mapM_length hm
   have hzl:ss.length=n:=by
    have:=congrArg List.length hxs
    simp at this
    omega
   apply List.ext_getElem?
   intro i
   by_cases hi:i<n
   ·obtain⟨b,hb,hf⟩:=mapM_at hm i i (by simp[hi])
    obtain⟨s,hc,rfl,_⟩:=DataW.trod_string he hf
    have h1:cs[i]?=some (.string s):=by
     have:=congrArg (·[0]?) hc
     simpa [List.getElem?_take,List.getElem?_drop] using this
    have h2:(xs.map (·.1))[i]?=some (DataW.lit (.string s.data.toList):DataW H):=by simp[hb]
    rw[hxs] at h2
    simp only[List.getElem?_map,Option.map_eq_some_iff,DataW.lit.injEq,Lit.string.injEq] at h2
    obtain⟨s',hs',rfl⟩:=h2
    simp[h1,hs']
   ·rw[List.getElem?_eq_none (by omega),List.getElem?_eq_none (by simp;omega)]
  ·cases h
def mWords:List (List UInt8):=[[58,105,115],[58,99,111,110,116,97,105,110,115],[58,109,97,116,99,104,101,115]]
def fWords:List (Int × List UInt8):=(List.range 22).map fun i=>(fwK i,fwT i)
def rowData {H:Type} (zs:List (Int × List UInt8)):DataW H:=.agg (zs.map fun z=>.agg [.lit (.int .i64 z.1),.lit (.string z.2)])
def rowCell (z:Int × List UInt8):List Value:=[.int .i64 z.1,.string ⟨z.2.toArray⟩]
theorem cells_join2:∀(zs:List (Int × List UInt8))(cs:List Value),cs.length=zs.length*2→(∀(i:Nat)(hi:i<zs.length),(cs.drop (i*2)).take 2=rowCell zs[i])→cs=zs.flatMap rowCell:=by
 intro zs
 induction zs with
 | nil=>intro cs h _;exact List.length_eq_zero_iff.1 (by simpa using h)
 | cons z r ih=>
  intro cs h hz
  have h0:=hz 0 (by simp)
  have e:=ih (cs.drop 2) (by simp at h ⊢;omega) (fun i hi=>by
   have:=hz (i+1) (by simpa using hi)
   rw[show(i+1)*2=2+i*2 by omega,← List.drop_drop] at this
   simpa using this)
  rw[List.flatMap_cons,← e]
  simp only[Nat.zero_mul,List.drop_zero,List.getElem_cons_zero] at h0
  rw[← h0,List.take_append_drop]
theorem cells_of_rows {H:Type} {enc:TypeId × Value→H} {P:Program} {w:World} {base:Nat} {sp:Nat→Bool} {held:Bool} {fuel:Nat} {t e:TypeId} {n:Nat} {f0 f1:Field} {cs:List Value} {zs:List (Int × List UInt8)} {p:List MemPlace}
  (ht:P.underlying t=some (.array n e)) (he:P.underlying e=some (.struct #[f0,f1])) (h0:P.underlying f0.type=some (.int .i64)) (h1:P.underlying f1.type=some .string)
  (o0:f0.offset=0) (o1:f1.offset=1) (c0:P.cellsOf f0.type=1) (c1:P.cellsOf f1.type=1) (ce:P.cellsOf e=2) (ct:P.cellsOf t=zs.length*2)
  (h:DataW.trod enc P w base sp held fuel t cs=some (rowData zs,p)):cs=zs.flatMap rowCell:=by
 obtain⟨xs,m,rfl,hx,hl,hn,hel⟩:=DataW.trod_array ht h
 have hx1:zs.map (fun z=>(DataW.agg [.lit (.int .i64 z.1),.lit (.string z.2)]:DataW H))=xs.map (·.1):=by
  have:=congrArg Prod.fst hx
  simpa [rowData] using this
 have hxl:xs.length=zs.length:=by
  have:=congrArg List.length hx1
  simpa using this.symm
 refine cells_join2 zs cs (by omega) fun i hi=>?_
 have hi':=hel i (by omega)
 rw[ce] at hi'
 rw[List.getElem?_eq_getElem (by omega)] at hi'
 obtain⟨y0,y1,n',hy,hl',e0,e1⟩:=trod_struct2 he hi'
 rw[o0,c0] at e0
 rw[o1,c1] at e1
 obtain⟨z,ez,rfl,_⟩:=DataW.trod_int h0 e0
 obtain⟨u,eu,rfl,_⟩:=DataW.trod_string h1 e1
 have hxi:(xs.map (·.1))[i]?=some (DataW.agg [.lit (.int .i64 zs[i].1),.lit (.string zs[i].2)]:DataW H):=by
  rw[← hx1]
  simp[hi]
 rw[List.getElem?_map,List.getElem?_eq_getElem (by omega),hy] at hxi
 simp only[Option.map_some,Option.some.injEq,DataW.agg.injEq,List.cons.injEq,DataW.lit.injEq,Lit.string.injEq,Lit.int.injEq,true_and,and_true] at hxi
 obtain⟨hz,hu⟩:=hxi
 have hlen:((cs.drop (i*2)).take 2).length=2:=by rw[hl',ce]
 generalize (cs.drop (i*2)).take 2=l at *
 match l,hlen with
 | [a,b],_=>
  simp at ez eu
  subst ez eu
  have e2:u=⟨zs[i].2.toArray⟩:=by
   apply ByteArray.ext
   apply Array.toList_inj.1
   rw[hu]
  rw[e2,hz]
  rfl
theorem gF:Tryz.prog.globalNamed "loop.example/g00013/impl.filterWords" = some 1:=by kernel_rfl
theorem gW:Tryz.prog.globalNamed "loop.example/g00013/impl.matchWords" = some 2:=by kernel_rfl
theorem gY:Tryz.prog.globalNamed "strconv.ErrSyntax" = some 3:=by kernel_rfl
theorem gR:Tryz.prog.globalNamed "strconv.ErrRange" = some 4:=by kernel_rfl
theorem tF:(Tryz.prog.globals[1]?).map (·.type)=some 229:=by kernel_rfl
theorem tW:(Tryz.prog.globals[2]?).map (·.type)=some 239:=by kernel_rfl
theorem tY:(Tryz.prog.globals[3]?).map (·.type)=some 232:=by kernel_rfl
theorem tR:(Tryz.prog.globals[4]?).map (·.type)=some 232:=by kernel_rfl
theorem farr_eq:fWords.flatMap rowCell=farr.toList:=by kernel_rfl
theorem marr_eq:(mWords.map fun s=>Value.string ⟨s.toArray⟩)=marr.toList:=by kernel_rfl
theorem laidF_eq:(Rows.laid_loop_example_g00013_impl_filterWords:DataW Unit)=rowData fWords:=by kernel_rfl
theorem blk_of_var {w:World} {n:String} {g:Nat} {cs ar:Array Value} (hg:Tryz.prog.globalNamed n=some g)(h:w.var? Tryz.prog n=some cs)(hcs:cs.toList=ar.toList):∃t fr,w.heap[g]?=some (.cells ar t fr):=by
 have e:cs=ar:=Array.toList_inj.1 hcs
 unfold World.var? at h
 rw[hg] at h
 simp only[Option.bind_some] at h
 split at h
 ·rename_i c t fr hh
  cases h
  exact⟨t,fr,by rw[hh,e]⟩
 ·cases h
theorem lt_of_var {w:World} {n:String} {g:Nat} {cs:Array Value} (hg:Tryz.prog.globalNamed n=some g)(h:w.var? Tryz.prog n=some cs):g<w.heap.size:=by
 unfold World.var? at h
 rw[hg] at h
 simp only[Option.bind_some] at h
 by_cases hz:g<w.heap.size
 ·exact hz
 ·rw[Array.getElem?_eq_none (by omega)] at h;cases h
def laidS:List (String × DataW Unit):=[("math/bits.deBruijn32tab",Rows.laid_math_bits_deBruijn32tab),("math/bits.deBruijn64tab",Rows.laid_math_bits_deBruijn64tab),("internal/strconv.uint64pow10",Rows.laid_internal_strconv_uint64pow10),("unicode/utf8.acceptRanges",Rows.laid_unicode_utf8_acceptRanges),("strconv.ErrRange",Rows.laid_strconv_ErrRange),("strconv.ErrSyntax",Rows.laid_strconv_ErrSyntax),("loop.example/g00013/impl.filterWords",Rows.laid_loop_example_g00013_impl_filterWords),("loop.example/g00013/impl.matchWords",Rows.laid_loop_example_g00013_impl_matchWords),("unicode/utf8.first",Rows.laid_unicode_utf8_first)]
theorem laidS_gives {W:World} (h:laidMetH Tryz.prog laidS W):FTab W∧MTab W∧Er W:=by
 refine⟨?_,?_,?_,?_⟩
 ·have h1:=h.filter (fun x=>x.1 == "loop.example/g00013/impl.filterWords")
  rw[show(laidS.filter fun x=>x.1 == "loop.example/g00013/impl.filterWords")=[("loop.example/g00013/impl.filterWords",Rows.laid_loop_example_g00013_impl_filterWords)] from by simp[laidS]] at h1
  rw[MakeChecks.laidMetH_plain _ _ _ (by kernel_rfl)] at h1
  obtain⟨ps,⟨g0,t0,cs0,f0,p0,q0,hg0,ht0,hv0,hd0,hq,e0⟩,hnd,hrows⟩:=h1
  obtain rfl:=Option.some.inj (gF.symm.trans hg0)
  obtain rfl:=Option.some.inj (tF.symm.trans ht0)
  rw[laidF_eq] at hd0
  have e4:=cells_of_rows (zs:=fWords) Tryz.underlying229 Tryz.underlying228 Tryz.underlying2 Tryz.underlying9 rfl rfl (by kernel_rfl) (by kernel_rfl) (by kernel_rfl) (by kernel_rfl) hd0
  exact blk_of_var hg0 hv0 (e4.trans farr_eq)
 ·have h1:=h.filter (fun x=>x.1 == "loop.example/g00013/impl.matchWords")
  rw[show(laidS.filter fun x=>x.1 == "loop.example/g00013/impl.matchWords")=[("loop.example/g00013/impl.matchWords",Rows.laid_loop_example_g00013_impl_matchWords)] from by simp[laidS]] at h1
  rw[MakeChecks.laidMetH_plain _ _ _ (by kernel_rfl)] at h1
  obtain⟨ps,⟨g0,t0,cs0,f0,p0,q0,hg0,ht0,hv0,hd0,hq,e0⟩,hnd,hrows⟩:=h1
  obtain rfl:=Option.some.inj (gW.symm.trans hg0)
  obtain rfl:=Option.some.inj (tW.symm.trans ht0)
  have e4:=cells_of_strs (ss:=mWords) Tryz.underlying239 Tryz.underlying9 (by kernel_rfl) (by kernel_rfl) hd0
  exact blk_of_var hg0 hv0 (e4.trans marr_eq)
 ·have h1:=h.filter (fun x=>x.1 == "strconv.ErrSyntax")
  rw[show(laidS.filter fun x=>x.1 == "strconv.ErrSyntax")=[("strconv.ErrSyntax",Rows.laid_strconv_ErrSyntax)] from by simp[laidS]] at h1
  rw[MakeChecks.laidMetH_plain _ _ _ (by kernel_rfl)] at h1
  obtain⟨ps,⟨g0,t0,cs0,f0,p0,q0,hg0,ht0,hv0,hd0,hq,e0⟩,hnd,hrows⟩:=h1
  obtain rfl:=Option.some.inj (gY.symm.trans hg0)
  obtain rfl:=Option.some.inj (tY.symm.trans ht0)
  obtain⟨f1,u,v,hcs,-,-⟩:=iface_of_trod Tryz.underlying232 hd0
  have hc:=World.var?_cell hg0 hv0 0
  have hc2:cs0[0]?=some (.iface u v):=by rw[← Array.getElem?_toList,hcs];rfl
  rw[hc2] at hc
  exact⟨_,hc,.inr ⟨u,v,rfl⟩⟩
 ·have h1:=h.filter (fun x=>x.1 == "strconv.ErrRange")
  rw[show(laidS.filter fun x=>x.1 == "strconv.ErrRange")=[("strconv.ErrRange",Rows.laid_strconv_ErrRange)] from by simp[laidS]] at h1
  rw[MakeChecks.laidMetH_plain _ _ _ (by kernel_rfl)] at h1
  obtain⟨ps,⟨g0,t0,cs0,f0,p0,q0,hg0,ht0,hv0,hd0,hq,e0⟩,hnd,hrows⟩:=h1
  obtain rfl:=Option.some.inj (gR.symm.trans hg0)
  obtain rfl:=Option.some.inj (tR.symm.trans ht0)
  obtain⟨f1,u,v,hcs,-,-⟩:=iface_of_trod Tryz.underlying232 hd0
  have hc:=World.var?_cell hg0 hv0 0
  have hc2:cs0[0]?=some (.iface u v):=by rw[← Array.getElem?_toList,hcs];rfl
  rw[hc2] at hc
  exact⟨_,hc,.inr ⟨u,v,rfl⟩⟩
theorem varFM_on {H:Type} {enc:TypeId × Value→H} {W W':World} {gs:List (DataW H)} {q:List MemPlace} (hV:DataW.TrodVars enc Tryz.prog W (fun _=>true) ["loop.example/g00013/impl.filterWords","loop.example/g00013/impl.matchWords"] gs q)(bel:Below W.heap.size W W') :
  ∃ d0 d1,gs=[d0,d1]∧DataW.TrodVars enc Tryz.prog W' (fun b=>decide (b<W.heap.size)) ["loop.example/g00013/impl.filterWords","loop.example/g00013/impl.matchWords"] [d0,d1] q:=by
 obtain⟨g0,t0,cs0,f0,d0,p0,g1,t1,cs1,f1,d1,p1,rfl,a1,a2,a3,a4,b1,b2,b3,b4,rfl⟩:=trodVars_two hV
 obtain rfl:=Option.some.inj (gF.symm.trans a1)
 obtain rfl:=Option.some.inj (tF.symm.trans a2)
 obtain rfl:=Option.some.inj (gW.symm.trans b1)
 obtain rfl:=Option.some.inj (tW.symm.trans b2)
 have hT0:DataW.Trod enc Tryz.prog W 0 (fun _=>true) true 229 (.agg cs0) d0 p0:=⟨f0,a4⟩
 have hT1:DataW.Trod enc Tryz.prog W 0 (fun _=>true) true 239 (.agg cs1) d1 p1:=⟨f1,b4⟩
 obtain⟨f0',a4'⟩:=Below.trod laidOut (by kernel_rfl) (of_decide_eq_true (by kernel_rfl)) hT0 bel (DataW.trod_lt f0 _ _ _ a4)
 obtain⟨f1',b4'⟩:=Below.trod laidOut (by kernel_rfl) (of_decide_eq_true (by kernel_rfl)) hT1 bel (DataW.trod_lt f1 _ _ _ b4)
 exact⟨d0,d1,rfl,⟨_,_,cs0,f0',p0,_,gF,tF,var?_below bel gF (lt_of_var gF a3) a3,a4',trodVars_mk1 gW tW (var?_below bel gW (lt_of_var gW b3) b3) b4',rfl⟩⟩
set_option maxRecDepth 100000 in
theorem worldLifted (os:Os)(started:os.Started)(H:Type)(enc:TypeId × Value→H) :
  ReturnsInHanded {} Tryz.checked os 3 .any (fun w args=>(Rows.fnExactWorldFaultSpec.pre enc Tryz.prog Tryz.f3 [] false w args∧laidMetH Tryz.prog laidS w)∧sizedMet enc Tryz.prog Tryz.f3 (OpenSpec.ofChange Rows.fnExactWorldFaultSpec) false w args)
   (Rows.fnExactWorldFaultSpec.post enc Tryz.prog Tryz.f3 false true false false):=by
 refine returnsInHanded_of_calls (C:=Tryz.checked) own started (by kernel_rfl)
  (ChangeSpec.witness_shaped (enc:=enc) (C:=Tryz.checked) (os:=os) (X:=fun w _=>laidMetH Tryz.prog laidS w) false (World.laidAll Tryz.prog os laidS) #[.agg #[.string ⟨#[]⟩,.bool false,.int .i64 0,.slice none 0 0,.int .i64 0,.string ⟨#[]⟩,.slice none 0 0,.slice none 0 0,.slice none 0 0,.int .i64 0,.slice none 0 0,.int .i64 0,.int .i64 0,.slice none 0 0,.int .i64 0]] 8 (World.laidAll_os _ _ _)
   (World.shaped_of_ZipB (by kernel_rfl) (by kernel_rfl)) (by kernel_rfl) (by kernel_rfl) (by kernel_rfl)
   (by rw[MakeChecks.laidMetH_plain _ _ _ (by kernel_rfl)];exact laidMet_laidAll _ (by kernel_rfl) (by kernel_rfl))) ?_
 intro w tape inp _ hsh _ hok hpre _
 obtain⟨_,_,_,fn',hfn',_,_,_,_,hval0⟩:=hok
 obtain rfl:fn'=Tryz.f3:=Option.some.inj (hfn'.symm.trans Tryz.func3)
 obtain⟨⟨⟨ds,gs,before,hw,-⟩,hL⟩,-⟩:=hpre
 have hW:=DataW.Whole.of_heap (w':=w.forCall tape inp) (by rfl) hw
 have hL':laidMetH Tryz.prog laidS (w.forCall tape inp):=laidMetH.of_heap (by rfl) hL
 obtain⟨m,hm⟩:=Tryz.laysM219.s1_3 _ hsh
 generalize w.forCall tape inp=W at hsh hval0 hW hm hL' ⊢
 generalize inp.args=args at hval0 hW ⊢
 have hval:∀(j:Nat) t v,Tryz.f3.params[j]?=some t→args[j]?=some v→Value.okWide Tryz.prog W .any w.heap.size t v:=hval0
 have hW':=hW
 obtain⟨p,q,hA0,hV,rfl,hfz,hnd⟩:=hW
 have hA:DataW.TrodAll enc Tryz.prog W 0 (fun _=>true) true Tryz.f3.params.toList args.toList ds p:=hA0
 rw[Tryz.params3] at hA hval
 obtain⟨v0,d0,rfl,rfl,h0⟩:=trodAll_one hA
 have hlt0:∀x ∈ p,x.block<W.heap.size:=by obtain⟨fuel,hx⟩:=h0;exact DataW.trod_lt fuel _ _ _ hx
 obtain⟨n,a3,a6,a7,a8,a10,a13,rfl,hI,hfit⟩:=GWorldConfig_arg (hval 0 35 v0 rfl rfl) h0
 clear hA0 hval0
 obtain⟨hF,hM,hE⟩:=laidS_gives hL'
 refine(walkWorldFault n a3 a6 a7 a8 a10 a13 W ⟨⟨m,hm⟩,hF,hM,hE⟩ hI hfit).mono fun e W' ⟨he,bel⟩=>?_
 subst he
 obtain⟨e0,e1,rfl,hV'⟩:=varFM_on hV bel
 exact ChangeSpec.post_blind ⟨_,_,_,[],_,q,hW',trodAll_mk1 (shut_bool Tryz.underlying4 _),(trodAll_mk1 (Below.trod laidOut (by kernel_rfl) (of_decide_eq_true (by kernel_rfl)) h0 bel hlt0)),hV',bel.frame _,fun h=>by cases h⟩
theorem worldFault_row:Rows.FnExactWorldFaultSaid:=
 OpenClaim.holds_of_wide 3 Tryz.f3 rfl rfl rfl rfl rfl rfl rfl ⟨rfl,rfl,rfl,rfl,rfl⟩ rfl rfl rfl rfl rfl (by kernel_rfl) Tryz.func3 (by kernel_rfl)
  (of_decide_eq_true (by kernel_rfl)) (by unfold Func.isWrapper;first|(rw[if_pos (by decide +kernel)];kernel_rfl)|(rw[if_neg (by decide +kernel)];exact⟨rfl,rfl⟩))
  (fun os started H enc _=>worldLifted os started H enc)
theorem worldFault_holds:Rows.FnExactWorldFaultCardSaid:=
 Claim7.holds_tied_plain_at .later [] [.data,.data,.data,.data,.sentinel,.sentinel,.data,.data,.pinned] true (true,"db81614a62daf61dbb3feb90c6210d454ad2c4ef37dacfc35adce4885bc470a6") true
  worldFault_row (fun _ h=>by cases h) (by kernel_rfl) (fun _ h=>by cases h) fnExactWorldFault_row_tie rfl ⟨rfl,rfl⟩ (by kernel_rfl) rfl
  (fun f fn hf hfn=>by
   obtain rfl:f=3:=Option.some.inj ((show Tryz.prog.funcNamed "loop.example/g00013/laws.FnExactWorldFault" = some 3 by kernel_rfl).symm.trans hf) |>.symm
   obtain rfl:fn=Tryz.f3:=(Option.some.inj (Tryz.func3.symm.trans hfn)).symm
   exact⟨by kernel_rfl,fun j t ht=>by
    rw[Tryz.params3] at ht
    have hm:t ∈ [35]:=by simpa using Array.mem_of_getElem? ht
    have hall:([35].all fun u=>!Tryz.prog.wantsStandIn u)=true:=by kernel_rfl
    exact(show Tryz.prog.wantsStandIn t=false by simpa using List.all_eq_true.1 hall t hm)⟩)
  (by kernel_rfl)
#print axioms worldFault_holds
end Go.Proofs.YtkcajnjledldnaaGreatDoor
