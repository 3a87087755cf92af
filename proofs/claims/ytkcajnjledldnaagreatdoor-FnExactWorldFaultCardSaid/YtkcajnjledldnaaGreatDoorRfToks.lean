import Derived.Test.YtkcajnjledldnaaGreatDoorRfCmd3
import Derived.Test.YtkcajnjledldnaaGreatDoorGenBase
import Derived.Test.YtkcajnjledldnaaGreatDoorRfRead1
import Derived.Lib.QuietBelow
import Derived.BigQuiet
import Derived.Handy
import Derived.Test.YtkcajnjledldnaaGreatDoorTk
set_option maxRecDepth 20000
set_option maxHeartbeats 8000000
namespace Go.Proofs.YtkcajnjledldnaaGreatDoor
open Go.RowKit Go.Lib Go.Maps
theorem specCmdBad (g:Nat)(tv:Value)(l:List UInt8)(T:List Rf.Tk)(TE:List TkE)(P:Nat→List Nd→Rf.Out)(hK:Tks l T TE)(i:Nat)(bad many:Bool)(v:Value)(E:List NdE)(w:World)(h:Rs g tv TE i bad many v E w)(hi:i<T.length)(hy:bad=true∨Rf.kind T i≠119∨Rf.cmdK (Rf.text T i)=0)(n1:(!bad && Rf.is T i 119 Rf.wIf)=false)(n2:(!bad && Rf.is T i 119 Rf.wRepeat)=false)(n3:(!bad && Rf.is T i 119 Rf.wSet)=false)(hP:Rf.given bad i (P i (E.map (·.1)))=.bad i) :
  Calls Tryz.prog 49 #[.pointer (some ⟨g,0,none⟩)] w fun e w'=>∃ z A i' bad' many' v',e=.returned (.int .i64 z)∧RdP g tv T TE 0 P i bad many v E w z A i' bad' many' v' w':=by
 have hgl:=heap_ltM h.blk
 have hll:=hK.length
 have hl:=hK.len
 have hi2:i<TE.length:=by omega
 have HK:=mkHid hK
 have HP:=mkHid hP
 have kM:=mkHid (jMay hK h hi 119 Rf.wIf)
 have nIf:=mkHid n1
 have nRe:=mkHid n2
 have nSe:=mkHid n3
 clear h hK hP n1 n2 n3
 go_enter Tryz.func49,Tryz.ntmps49
 go_wp2_with (go_at_call 89;fail)
 refine kM.out.mono ?_
 rintro e w1 ⟨j1,y1,rfl,h1,e1,hj1,hij1,hij1b,r1,s1⟩
 obtain rfl:y1=false:=by rw[r1.out,nIf.out]
 obtain rfl:j1=i:=s1.out
 obtain⟨B,hB⟩:∃B,w1.heap.size=B:=⟨_,rfl⟩
 have S0:=mkHid (Fm.start hgl h1 e1 0)
 rw[hB] at S0
 obtain⟨W0,hW0⟩:∃W0,w1.alloc (.cells #[.int .i64 0,.int .i64 0,.int .i64 0,.string ⟨#[]⟩,.slice none 0 0,.slice none 0 0,.slice none 0 0] 109)=W0:=⟨_,rfl⟩
 rw[show w1.alloc (.cells (sevC (Rf.zn 0) (.slice none 0 0) (.slice none 0 0) (.slice none 0 0)) 109)=W0 from hW0] at S0
 have HW0:=mkHid hW0
 have HB:=mkHid hB
 clear h1 e1 kM hW0 hB r1 s1
 have kM:=mkHid (jMay HK.out S0.out.rs hi 119 Rf.wRepeat)
 go_wp2_with (go_at_call 89;fail)
 rw[HW0.out,HB.out]
 refine kM.out.mono ?_
 rintro e W1 ⟨j2,y2,rfl,h2,e2,hj2,hij2,hij2b,r2,s2⟩
 have S1:=mkHid (S0.out.small h2 e2)
 clear h2 e2 kM S0 HW0 HB
 obtain rfl:y2=false:=by rw[r2.out,nRe.out]
 obtain rfl:j2=j1:=s2.out
 clear r2 s2
 have kM:=mkHid (jMay HK.out S1.out.rs hj2 119 Rf.wSet)
 go_wp2_with (go_at_call 89;fail)
 refine kM.out.mono ?_
 rintro e W2 ⟨j3,y3,rfl,h3,e3,hj3,hij3,hij3b,r3,s3⟩
 have S2:=mkHid (S1.out.small h3 e3)
 clear h3 e3 kM S1
 obtain rfl:y3=false:=by rw[r3.out,nSe.out]
 obtain rfl:j3=j2:=s3.out
 clear r3 s3
 obtain⟨c0,c1,c2,c3,c4⟩:=five S2.out.rs.blk
 obtain⟨o,cap,htv⟩:=S2.out.rs.tks.shape
 have htk:=S2.out.rs.tks
 rw[htv] at htk c0
 have hj4:j3<TE.length:=by omega
 obtain⟨q,ho,-,-,e0,e1,e2⟩:=htk.at j3 hj4
 subst ho
 clear htk htv
 have hii:((j3:Nat):Int)<(TE.length:Int):=by omega
 have hC:∀W:World,Calls Tryz.prog 96 #[.string TE[j3].2.1] W fun e w'=>e=.returned (.int .i64 (Rf.cmdK (Rf.text T j3)))∧w'=W:=fun W=>(specCmdW TE[j3].2.1 W).mono fun _ _ h=>⟨by rw[h.1,HK.out.text j3 hj4,Rf.ba_list],h.2.symm⟩
 have key:∀W,Below W2.heap.size W2 W→Hid (W.frozen? ⟨g,2,none⟩=false∧W.cell? ⟨g,2,none⟩=some (.bool bad)∧Fm g tv TE v E w B (Rf.zn 0) (.slice none 0 0) (.slice none 0 0) (.slice none 0 0) j3 true many v [] (W.setCell ⟨g,2,none⟩ (.bool true))):=fun W hb=>by
  have h1:=S2.out.rs.below hb
  exact⟨by simp[World.frozen?,h1.blk],(five h1.blk).2.2.1,S2.out.small (h1.set 2 (.bool true) j3 true many rfl) (Ef.ahead hb (Ef.set g none W 2 _))⟩
 have hkd:=HK.out.kind j3 hj4
 rw[← hkd] at hy
 generalize TE[j3].1=k1 at *
 generalize TE[j3].2.1=t1 at *
 generalize Rf.cmdK (Rf.text T j3)=z at *
 replace key:=mkHid key
 replace hC:=mkHid hC
 clear S2 hkd
 go_wp2
 have fin:∀nq,∃ z A i' bad' many' v',Ending.returned (.int .i64 0)=.returned (.int .i64 z)∧RdP g tv T TE 0 P j3 bad many v E w z A i' bad' many' v' ((W2.drewN nq).setCell ⟨g,2,none⟩ (.bool true)):=by
  intro nq
  have S:=(key.out (W2.drewN nq) (Go.below_drewN (Below.refl _ _) _)).2.2
  exact⟨0,[],j3,true,many,v,rfl,RdP.mk2 _ rfl S.rs S.ef S.nw S.fr S.frN hi (Nat.le_refl _) (by simp) (fun e=>(by cases e)) (fun _=>HP.out) (fun e=>(by cases e))⟩
 replace fin:=mkHid fin
 cases bad
 ·by_cases hk:k1=119
  ·have hk1:((k1:Int) != 119)=false:=by rw[bne_eq_false_iff_eq,hk];rfl
   have hmz:z=0:=by rcases hy with hy|hy|hy;cases hy;exact absurd hk hy;exact hy
   subst hmz
   clear hy hk
   go_quiet (exact Calls.quiet_of_same (hC.out _))
   obtain⟨z1,z0,-⟩:=key.out (W2.drewN nq) (Go.below_drewN (Below.refl _ _) _)
   go_wp2
   go_ret
   exact fin.out nq
  ·have hk1:((k1:Int) != 119)=true:=by rw[bne_iff_ne];intro e;exact hk (by omega)
   clear hy hk hC
   go_quiet (fail)
   obtain⟨z1,z0,-⟩:=key.out (W2.drewN nq) (Go.below_drewN (Below.refl _ _) _)
   go_wp2
   go_ret
   exact fin.out nq
 ·clear hy hC
  go_quiet (fail)
  obtain⟨z1,z0,-⟩:=key.out (W2.drewN nq) (Go.below_drewN (Below.refl _ _) _)
  go_wp2
  go_ret
  exact fin.out nq
theorem specCmd (g:Nat)(tv:Value)(l:List UInt8)(T:List Rf.Tk)(TE:List TkE)(f:Nat)(t c:Nat→List Nd→Rf.Out)(hK:Tks l T TE)(hT:T.length≤30000)(hSz:∀e ∈ TE,e.2.1.size≤1048576)(hTst:RdC 132 g tv T TE 0 f t)(hCmd:RdC 49 g tv T TE 0 f c) :
  RdC 49 g tv T TE 0 (f+1) (Rf.cmd T t c):=by
 have hBlk:=specBlock g tv l T TE f c hK hT hCmd
 have hBr:=specBranch g tv l T TE f t c hK hT hTst (hBlk.less (Nat.le_succ f)) T.length (min f T.length) (Nat.min_le_left _ _) (Nat.min_le_right _ _)
 intro i bad many v E w h hi hf hE
 cases bad with
 | true=>exact specCmdBad g tv l T TE _ hK i true many v E w h hi (.inl rfl) rfl rfl rfl rfl
 | false=>
  by_cases hk:Rf.kind T i=119
  ·cases h1:Rf.is T i 119 Rf.wIf
   ·cases h2:Rf.is T i 119 Rf.wRepeat
    ·cases h3:Rf.is T i 119 Rf.wSet
     ·by_cases h0:Rf.cmdK (Rf.text T i)=0
      ·exact specCmdBad g tv l T TE _ hK i false many v E w h hi (.inr (.inr h0)) (by rw[h1];rfl) (by rw[h2];rfl) (by rw[h3];rfl) (by rw[Rf.given,if_neg (by decide)];exact Rf.cmd_no T t c i _ (.inr ⟨h1,h2,h3,h0⟩))
      ·by_cases h7:7≤Rf.cmdK (Rf.text T i)
       ·exact specCmdTwo g tv l T TE t c hK hT i many v E w h hi hE h1 h2 h3 hk _ rfl h0 h7
       ·exact specCmdOne g tv l T TE t c hK hT i many v E w h hi hE h1 h2 h3 hk _ rfl h0 h7
     ·exact specCmdSet g tv l T TE t c hK hT hSz i many v E w h hi hE h1 h2 h3
    ·exact specCmdRep g tv l T TE t c hK hT (f+1) hBlk i many v E w h hi hE (by omega) h1 h2
   ·exact specCmdIf g tv l T TE t c hK hT (min f T.length) hBr i many v E w h hi hE (by omega) h1
  ·have hn:∀x,Rf.is T i 119 x=false:=fun x=>by unfold Rf.is;simp[hk]
   exact specCmdBad g tv l T TE _ hK i false many v E w h hi (.inr (.inl hk)) (by rw[hn];rfl) (by rw[hn];rfl) (by rw[hn];rfl) (by rw[Rf.given,if_neg (by decide)];exact Rf.cmd_no T t c i _ (.inl hk))
theorem specLv (g:Nat)(tv:Value)(l:List UInt8)(T:List Rf.Tk)(TE:List TkE)(hK:Tks l T TE)(hT:T.length≤30000)(hSz:∀e ∈ TE,e.2.1.size≤1048576):∀f,RdC 132 g tv T TE 0 f (Rf.lv T f).1∧RdC 49 g tv T TE 0 f (Rf.lv T f).2
 | 0=>⟨fun i _ _ _ _ _ _ hi hf _=>absurd hf (by omega),fun i _ _ _ _ _ _ hi hf _=>absurd hf (by omega)⟩
 | f+1=>by
  obtain⟨h1,h2⟩:=specLv g tv l T TE hK hT hSz f
  exact⟨specTest g tv l T TE f _ hK hT h1,specCmd g tv l T TE f _ _ hK hT hSz h1 h2⟩
namespace Tr
variable {ok ok':Nat→Bool} {kids:Nat→List Int}
def mx (dep:Nat→Nat):List Int→Nat
 | []=>0
 | k::r=>max (dep k.toNat) (mx dep r)
theorem mx_le (dep:Nat→Nat)(l:List Int)(d:Nat):mx dep l≤d↔∀k ∈ l,dep k.toNat≤d:=by
 induction l with
 | nil=>simp[mx]
 | cons k r ih=>simp only[mx,List.mem_cons,forall_eq_or_imp,Nat.max_le,ih]
end Tr
namespace Tr
variable {ok ok':Nat→Bool} {kids:Nat→List Int}
theorem mx_snoc (dep:Nat→Nat)(l:List Int)(k:Int):mx dep (l ++ [k])=max (mx dep l) (dep k.toNat):=by
 induction l with
 | nil=>simp[mx]
 | cons a r ih=>simp only[List.cons_append,mx,ih];omega
def depTo (kids:Nat→List Int):Nat→Nat→Nat
 | 0,_=>0
 | n+1,i=>if i=n then mx (depTo kids n) (kids n)+1 else depTo kids n i
theorem depTo_le (kids:Nat→List Int):∀n i,depTo kids n i≤n
 | 0,_=>Nat.le_refl _
 | n+1,i=>by
  unfold depTo
  split
  ·have:=(mx_le (depTo kids n) (kids n) n).2 (fun k _=>depTo_le kids n k.toNat)
   omega
  ·have:=depTo_le kids n i
   omega
end Tr
namespace Fn
end Fn
namespace Fn
end Fn
namespace Tr
end Tr
namespace Fn
def kids (F:List Nd)(i:Nat):List Int:=(F[i]?.map (·.kids)).getD []
end Fn
namespace Fn
end Fn
structure KindI (f:FuncId)(K:Int→Bool):Prop where
 enters:∀(args:Array Value) (w:World),(callFunc f args).run Tryz.prog w=.ok (.enter f args) w
 calls:∀(t:Int) (w:World),Calls Tryz.prog f #[.int .i64 t] w fun e w'=>e=.returned (.bool (K t))∧w=w'
theorem implIsTest (k:Int)(w:World):Calls Tryz.prog 222 #[.int .i64 k] w fun e w'=>e=.returned (.bool (Fn.isTest k))∧w=w':=by
 unfold Fn.isTest
 by_cases h1:20≤k
 ·by_cases h2:k≤31
  ·rw[decide_eq_true h1,decide_eq_true h2]
   go_enter Tryz.func222,Tryz.ntmps222
   go_wp2
   go_ret
   exact⟨rfl,rfl⟩
  ·rw[decide_eq_true h1,decide_eq_false h2]
   go_enter Tryz.func222,Tryz.ntmps222
   go_wp2
   go_ret
   exact⟨rfl,rfl⟩
 ·rw[decide_eq_false h1]
  go_enter Tryz.func222,Tryz.ntmps222
  go_wp2
  go_ret
  exact⟨rfl,rfl⟩
theorem implIsCmd (k:Int)(w:World):Calls Tryz.prog 176 #[.int .i64 k] w fun e w'=>e=.returned (.bool (Fn.isCmd k))∧w=w':=by
 unfold Fn.isCmd
 by_cases h1:2≤k
 ·by_cases h2:k≤11
  ·rw[decide_eq_true h1,decide_eq_true h2]
   go_enter Tryz.func176,Tryz.ntmps176
   go_wp2
   go_ret
   exact⟨rfl,rfl⟩
  ·rw[decide_eq_true h1,decide_eq_false h2]
   go_enter Tryz.func176,Tryz.ntmps176
   go_wp2
   go_ret
   exact⟨rfl,rfl⟩
 ·rw[decide_eq_false h1]
  go_enter Tryz.func176,Tryz.ntmps176
  go_wp2
  go_ret
  exact⟨rfl,rfl⟩
theorem implSmallB (c:UInt8)(w:World):Calls Tryz.prog 153 #[.int .u8 (c.toNat:Int)] w fun e w'=>e=.returned (.bool (Fn.low c))∧w=w':=by
 have h8:c.toNat<256:=UInt8.toNat_lt _
 unfold Fn.low
 by_cases h1:97≤c.toNat
 ·by_cases h2:c.toNat≤122
  ·rw[decide_eq_true h1,decide_eq_true h2]
   have h2':decide ((c.toNat:Int)≤122)=true:=by simp;omega
   go_enter Tryz.func153,Tryz.ntmps153
   go_wp2
   go_ret
   exact⟨rfl,rfl⟩
  ·rw[decide_eq_true h1,decide_eq_false h2]
   have h2':decide ((c.toNat:Int)≤122)=false:=by simp;omega
   go_enter Tryz.func153,Tryz.ntmps153
   go_wp2
   go_ret
   exact⟨rfl,rfl⟩
 ·rw[decide_eq_false h1]
  go_enter Tryz.func153,Tryz.ntmps153
  go_wp2
  go_ret
  exact⟨rfl,rfl⟩
theorem kindSmall:Kind 153 Fn.low:=⟨Go.Proofs.enters_of Tryz.func153 (by kernel_rfl) rfl,implSmallB⟩
theorem implVariable (k:ByteArray)(w:World)(hs:k.size≤1048576):Calls Tryz.prog 181 #[.string k] w fun e w'=>e=.returned (.bool (Fn.nameOk k))∧w=w':=by
 have hA:=mkHid (implAllOf kindSmall k w (by omega))
 unfold Fn.nameOk
 generalize k.data.toList.all Fn.low=A at *
 have he:k.toList.isEmpty=decide (k.size=0):=by
  rw[ByteArray.toList_eq]
  cases h:k.data.toList with
  | nil=>
   have:k.size=0:=by
    have:=congrArg List.length h
    simpa using this
   simp[this]
  | cons a r=>
   have:k.size≠0:=by
    have:=congrArg List.length h
    simp at this
    omega
   simp[this]
 by_cases h1:1≤k.size
 ·have he1:k.toList.isEmpty=false:=by rw[he];exact decide_eq_false (by omega)
  by_cases h2:k.size≤20
  ·rw[decide_eq_true h1,decide_eq_true h2,Bool.true_and,Bool.true_and]
   clear he
   go_enter Tryz.func181,Tryz.ntmps181
   go_wp2_with fail
   refine hA.out.mono ?_
   rintro e w2 ⟨rfl,rfl⟩
   clear hA
   go_wp2
   go_ret
   exact⟨rfl,rfl⟩
  ·rw[decide_eq_true h1,decide_eq_false h2]
   clear he hA
   go_enter Tryz.func181,Tryz.ntmps181
   go_wp2
   go_ret
   exact⟨rfl,rfl⟩
 ·have he1:k.toList.isEmpty=true:=by rw[he];exact decide_eq_true (by omega)
  rw[decide_eq_false h1]
  clear he hA
  go_enter Tryz.func181,Tryz.ntmps181
  go_wp2
  go_ret
  exact⟨rfl,rfl⟩
theorem methKids (n:Nd)(v4 v5 v6:Value)(w:World) :
  Calls Tryz.prog 278 #[ndV n v4 v5 v6] w fun e w'=>e=.returned v6∧w'=w.alloc (.cells #[.int .i64 n.kind,.int .i64 n.num,.int .i64 n.mat,.string n.text,v4,v5,v6] 109):=by
 unfold ndV
 go_enter Tryz.func278,Tryz.ntmps278
 go_wp2
 go_ret
 exact⟨rfl,rfl⟩
theorem methKidsB (n:Nd)(v4 v5 v6:Value)(w:World) :
  Calls Tryz.prog 278 #[ndV n v4 v5 v6] w fun e w'=>e=.returned v6∧Below w.heap.size w w':=
 (methKids n v4 v5 v6 w).mono fun _ _ ⟨h1,h2⟩=>⟨h1,by rw[h2];exact(Below.refl _ _).alloc (Nat.le_refl _) _⟩
theorem Tryz.info3:(Tryz.prog.info? 3).map (fun i=>(i.zero,i.size,i.bytes))=some (some (.int .i64 0),1,8):=by kernel_rfl
theorem row_below {w w':World} {b t n:Nat} {f:Nat→Value} (h:w.rowIs b t n f)(hb:Below w.heap.size w w'):w'.rowIs b t n f:=by
 have hl:=h.lt
 unfold World.rowIs at h ⊢
 rw[hb.block b hl]
 exact h
theorem implDepth (o:Option Addr)(F:List Nd)(cap:Nat)(w:World)(hF:Nds w.heap.size w o F)(hlF:F.length≤2000)(h1:1≤F.length)(hfit:∀n ∈ F,n.fits 1048576)(hin:∀i,i<F.length→∀k ∈ Fn.kids F i,0≤k∧k<(i:Int)) :
  Calls Tryz.prog 150 #[.slice o F.length cap] w fun e w'=>e=.returned (.int .i64 (Tr.depTo (Fn.kids F) F.length (F.length-1)))∧Below w.heap.size w w':=by
 have hmk:=run_make_row' (P:=Tryz.prog) 214 3 (.int .i64 0) 8 Tryz.underlying214 Tryz.info3 rfl .i64 .i64 F.length (by omega) (by omega)
 have HF:=mkHid hF
 have Hin:=mkHid hin
 clear hF hin
 go_enter Tryz.func150,Tryz.ntmps150
 go_wp2
 clear hmk
 generalize hG:w.heap.size=G at *
 go_loopw [13] (fun iv wr=>∃ (i:Nat) (d:Nat→Nat),i≤F.length∧iv=.int .i64 i∧wr.rowIs G 3 F.length (fun j=>.int .i64 (d j))∧Hid ((∀j,j<i→d j=Tr.depTo (Fn.kids F) i j)∧∀j,i≤j→d j=0)∧Below G w wr) (fun iv _=>F.length-(Lib.intOf iv).toNat)
 case atStart=>exact⟨0,fun _=>0,Nat.zero_le _,rfl,hG ▸ World.rowIs_made w (.int .i64 0) F.length 3,⟨fun j h=>by omega,fun _ _=>rfl⟩,(Below.refl _ _).alloc (by omega) _⟩
 case round=>
  obtain⟨i,d,hi,rfl,hrow,hd,hb⟩:=hrel
  by_cases hlt:i<F.length
  ·obtain⟨a,v4,v5,v6,rfl,ha,hA0,hI⟩:=HF.out i hlt
   have hA:=hA0.below hb (by rw[add_blockN];exact ha)
   clear hA0
   obtain⟨⟨a4,e4,rfl,-⟩,⟨a5,e5,rfl,-⟩,⟨a6,e6,rfl,t3⟩⟩:=hI
   have hkids:Hid (Fn.kids F i=F[i].kids):=by show Fn.kids F i=_;unfold Fn.kids;rw[List.getElem?_eq_getElem hlt];rfl
   have hkin:=mkHid (fun k hk=>Hin.out i hlt k (by rw[hkids.out];exact hk))
   have c0:=hA.c0
   have c1:=hA.c1
   have c2:=hA.c2
   have c3:=hA.c3
   have c4:=hA.c4
   have c5:=hA.c5
   have c6:=hA.c6
   have hkl:F[i].kids.length≤1048576:=(hfit F[i] (List.getElem_mem hlt)).2.2.2.2.2
   replace t3:=mkHid t3
   have hGl:=hrow.lt
   have hsz:=hb.size
   clear hA
   generalize F[i]=n at *
   have hrow0:=mkHid (hrow.alloc (.cells #[.int .i64 n.kind,.int .i64 n.num,.int .i64 n.mat,.string n.text,.slice a4 n.names.length e4,.slice a5 n.keys.length e5,.slice a6 n.kids.length e6] 109))
   have hb0:=mkHid (hb.alloc (by omega) (.cells #[.int .i64 n.kind,.int .i64 n.num,.int .i64 n.mat,.string n.text,.slice a4 n.names.length e4,.slice a5 n.keys.length e5,.slice a6 n.kids.length e6] 109))
   obtain⟨V,hV⟩:∃V,V=wr.alloc (.cells #[.int .i64 n.kind,.int .i64 n.num,.int .i64 n.mat,.string n.text,.slice a4 n.names.length e4,.slice a5 n.keys.length e5,.slice a6 n.kids.length e6] 109):=⟨_,rfl⟩
   have cM0:=methKidsB n (.slice a4 n.names.length e4) (.slice a5 n.keys.length e5) (.slice a6 n.kids.length e6) V
   unfold ndV at cM0
   have cM:=mkHid cM0
   rw[← hV] at hrow0 hb0
   have hbV:Below wr.heap.size wr V:=by rw[hV];exact(Below.refl _ _).alloc (Nat.le_refl _) _
   replace hbV:=mkHid hbV
   replace hV:=mkHid hV
   clear cM0
   obtain⟨wo,hwo⟩:∃wo,wo=wr:=⟨_,rfl⟩
   go_wp2_with fail
   rw[← hV.out]
   refine cM.out.mono ?_
   rintro e V2 ⟨rfl,hb2⟩
   have hGV:G≤V.heap.size:=Nat.le_trans (hG ▸ hsz) hbV.out.size
   have hrow2:=mkHid (row_below hrow0.out hb2)
   have hb3:=mkHid (hb0.out.trans (hb2.mono hGV))
   have hbw2:=mkHid (hbV.out.trans (hb2.mono hbV.out.size))
   clear hrow0 hb0 cM hb2 hV
   subst hwo
   go_wp2
   clear c0 c1 c2 c3 c4 c5 c6
   go_loopw [7,22] (fun _ cv wr=>∃ (c:Nat) (d':Nat→Nat),c≤n.kids.length∧cv=.int .i64 c∧wr.rowIs G 3 F.length (fun j=>.int .i64 (d' j))∧Hid ((∀j,j≠i→d' j=d j)∧d' i=Tr.mx (Tr.depTo (Fn.kids F) i) (n.kids.take c))∧Below G w wr) (fun _ cv _=>n.kids.length-(Lib.intOf cv).toNat)
   case atStart=>exact⟨0,d,Nat.zero_le _,rfl,hrow2.out,⟨fun _ _=>rfl,hd.out.2 i (Nat.le_refl _)⟩,hb3.out⟩
   case round=>
    clear hrow hb hrow2 hb3 hbw2 hbV
    obtain⟨c,d',hc,rfl,hrow,hd',hb⟩:=hrel
    by_cases hcl:c<n.kids.length
    ·obtain⟨b,rfl,hbb,ck⟩:=(t3.out.below hb) c hcl
     obtain⟨k1,k2⟩:=hkin.out n.kids[c] (List.getElem_mem hcl)
     obtain⟨q,hq⟩:∃q:Nat,n.kids[c]=(q:Int):=⟨n.kids[c].toNat,by omega⟩
     have hst:Hid (n.kids.take (c+1)=n.kids.take c ++ [(q:Int)]):=by show _=_;rw[List.take_succ_eq_append_getElem hcl,hq]
     rw[hq] at ck k2
     have hqi:q<i:=by omega
     have r1:=hrow.cell (i:=i) hlt
     have r2:=hrow.cell (i:=q) (by omega)
     have z1:=hrow.frozen i
     have hrow1:=mkHid (fun v=>hrow.drew.set i v)
     have hb1:=mkHid (fun v=>hb.drew.setCell (p:=⟨G,i,none⟩) (Nat.le_refl _) v)
     obtain⟨x,hx⟩:∃x,d' i=x:=⟨_,rfl⟩
     obtain⟨y,hy⟩:∃y,d' q=y:=⟨_,rfl⟩
     simp only[hx] at r1
     simp only[hy] at r2
     replace hx:=mkHid hx
     replace hy:=mkHid hy
     have hmx:max (x:Int) (y:Int)=((max x y:Nat):Int):=by omega
     have Hcl:=mkHid hcl
     clear hrow hb hq k1 k2
     go_wp2
     refine wp_region_any (by kernel_rfl) ?_
     refine ta 0 (.slice (some ⟨G,0,none⟩) F.length F.length) ?_ ?_
     ·intro w
      go_simp
      all_goals omega
     go_simp
     refine ta 1 (.int .i64 i) ?_ ?_
     ·intro w
      go_simp
      all_goals omega
     go_simp
     refine ta 2 (.slice (some ⟨G,0,none⟩) F.length F.length) ?_ ?_
     ·intro w
      go_simp
      all_goals omega
     go_simp
     refine ta 3 (.int .i64 i) ?_ ?_
     ·intro w
      go_simp
      all_goals omega
     go_simp
     refine ta 4 (.pointer (some ⟨G,i,none⟩)) ?_ ?_
     ·intro w
      go_simp
      all_goals omega
     go_simp
     refine ta 6 (.slice (some ⟨G,0,none⟩) F.length F.length) ?_ ?_
     ·intro w
      go_simp
      all_goals omega
     go_simp
     refine ta 7 (.int .i64 q) ?_ ?_
     ·intro w
      go_simp
      all_goals omega
     go_simp
     refine ta 8 (.pointer (some ⟨G,q,none⟩)) ?_ ?_
     ·intro w
      go_simp
      all_goals omega
     go_simp
     refine wpAny_ready (rs:=[5,9]) (by kernel_rfl) (by simp) ?_
     refine AllReady.cons rfl (fun K hK=>?_) (AllReady.cons rfl (fun K hK=>?_) AllReady.nil)
     ·go_simp
      refine hK _ _ ?_
      clear hK K
      go_simp
      refine YtkcajnjledldnaaGreatDoor.r1 9 (fun K hK=>?_)
      go_simp
      refine hK _ _ ?_
      clear hK K
      go_simp
      refine ta 10 (.int .i64 ((max (x:Nat) y:Nat):Int)) ?_ ?_
      ·intro w
       go_simp
       all_goals omega
      go_simp
      refine ta 11 (.pointer (some ⟨G,i,none⟩)) ?_ ?_
      ·intro w
       go_simp
       all_goals omega
      go_simp
      refine YtkcajnjledldnaaGreatDoor.r1 12 (fun K hK=>?_)
      go_simp
      refine hK _ _ ?_
      clear hK K
      go_simp
      refine wpAny_done (by kernel_rfl) ?_ _
      go_wp2
      go_roundw
      case rel=>
       refine⟨c+1,fun j=>if j=i then max x y else d' j,Nat.succ_le_of_lt Hcl.out,by go_num,(hrow1.out _).congr (fun j _=>by show(if j=i then Value.int .i64 _ else Value.int .i64 (d' j))=Value.int .i64 _;split<;>rename_i h<;>simp[h]),⟨fun j hj=>by show(if j=i then _ else _)=_;rw[if_neg hj];exact hd'.out.1 j hj,?_⟩,hb1.out _⟩
       show(if i=i then _ else _)=_
       rw[if_pos rfl,hst.out,Tr.mx_snoc,Int.toNat_natCast,← hx.out,hd'.out.2,← hd.out.1 q hqi,← hy.out,hd'.out.1 q (by omega)]
      case measure=>have:=Hcl.out;simp[Lib.intOf];omega
     ·go_simp
      refine hK _ _ ?_
      clear hK K
      go_simp
      refine YtkcajnjledldnaaGreatDoor.r1 5 (fun K hK=>?_)
      go_simp
      refine hK _ _ ?_
      clear hK K
      go_simp
      refine ta 10 (.int .i64 ((max (x:Nat) y:Nat):Int)) ?_ ?_
      ·intro w
       go_simp
       all_goals omega
      go_simp
      refine ta 11 (.pointer (some ⟨G,i,none⟩)) ?_ ?_
      ·intro w
       go_simp
       all_goals omega
      go_simp
      refine YtkcajnjledldnaaGreatDoor.r1 12 (fun K hK=>?_)
      go_simp
      refine hK _ _ ?_
      clear hK K
      go_simp
      refine wpAny_done (by kernel_rfl) ?_ _
      go_wp2
      go_roundw
      case rel=>
       refine⟨c+1,fun j=>if j=i then max x y else d' j,Nat.succ_le_of_lt Hcl.out,by go_num,(hrow1.out _).congr (fun j _=>by show(if j=i then Value.int .i64 _ else Value.int .i64 (d' j))=Value.int .i64 _;split<;>rename_i h<;>simp[h]),⟨fun j hj=>by show(if j=i then _ else _)=_;rw[if_neg hj];exact hd'.out.1 j hj,?_⟩,hb1.out _⟩
       show(if i=i then _ else _)=_
       rw[if_pos rfl,hst.out,Tr.mx_snoc,Int.toNat_natCast,← hx.out,hd'.out.2,← hd.out.1 q hqi,← hy.out,hd'.out.1 q (by omega)]
      case measure=>have:=Hcl.out;simp[Lib.intOf];omega
    ·have he:Hid (n.kids.take c=n.kids):=List.take_of_length_le (by omega)
     have r1:=hrow.cell (i:=i) hlt
     have z1:=hrow.frozen i
     have hrow1:=mkHid (fun v=>hrow.set i v)
     have hb1:=mkHid (fun v=>hb.setCell (p:=⟨G,i,none⟩) (Nat.le_refl _) v)
     obtain⟨x,hx⟩:∃x,d' i=x:=⟨_,rfl⟩
     simp only[hx] at r1
     have hxl:x≤1000000:=by
      have h1:Tr.mx (Tr.depTo (Fn.kids F) i) n.kids≤i:=(Tr.mx_le _ _ _).2 (fun k _=>Tr.depTo_le (Fn.kids F) i k.toNat)
      rw[← he.out,← hd'.out.2,hx] at h1
      omega
     replace hx:=mkHid hx
     clear hrow hb
     go_wp2
     go_roundw
     case rel=>
      refine⟨i+1,fun j=>if j=i then x+1 else d' j,by omega,by go_num,(hrow1.out _).congr (fun j _=>by show(if j=i then Value.int .i64 _ else Value.int .i64 (d' j))=Value.int .i64 _;split<;>rename_i h<;>simp[h]),⟨fun j hj=>?_,fun j hj=>?_⟩,hb1.out _⟩
      ·show(if j=i then _ else _)=_
       unfold Tr.depTo
       by_cases hji:j=i
       ·rw[if_pos hji,if_pos hji,← hx.out,hd'.out.2,he.out,hkids.out]
       ·rw[if_neg hji,if_neg hji,hd'.out.1 j hji,hd.out.1 j (by omega)]
      ·show(if j=i then _ else _)=_
       rw[if_neg (by omega),hd'.out.1 j (by omega),hd.out.2 j (by omega)]
     case measure=>simp[Lib.intOf];omega
  ·obtain rfl:i=F.length:=by omega
   have r1:=hrow.cell (i:=F.length-1) (by omega)
   have hz:Hid (d (F.length-1)=Tr.depTo (Fn.kids F) F.length (F.length-1)):=hd.out.1 _ (by omega)
   obtain⟨m,hm⟩:∃m,F.length=m+1:=⟨F.length-1,by omega⟩
   rw[show F.length-1=m by omega] at r1 hz
   have hmI:(F.length:Int)-1=(m:Int):=by omega
   have hml:m<F.length:=by omega
   have hme:Hid (F.length-1=m):=by show _=_;omega
   replace hm:=mkHid hm
   clear hrow hd
   go_wp2
   go_ret
   rw[hme.out,← hz.out,hG]
   exact⟨rfl,hb⟩
theorem specDeep (o:Option Addr)(F:List Nd)(cap:Nat)(w:World)(hF:Nds w.heap.size w o F)(hlF:F.length≤2000)(h1:1≤F.length)(hfit:∀n ∈ F,n.fits 1048576)(hin:∀i,i<F.length→∀k ∈ Fn.kids F i,0≤k∧k<(i:Int)) :
  Calls Tryz.prog 51 #[.slice o F.length cap] w fun e w'=>e=.returned (.int .i64 (Tr.depTo (Fn.kids F) F.length (F.length-1)))∧Below w.heap.size w w':=by
 have hmk:=run_make_row' (P:=Tryz.prog) 27 2 (.int .i64 0) 8 Tryz.underlying27 Tryz.info2 rfl .i64 .i64 F.length (by omega) (by omega)
 have HF:=mkHid hF
 have Hin:=mkHid hin
 clear hF hin
 go_enter Tryz.func51,Tryz.ntmps51
 go_wp2
 clear hmk
 generalize hG:w.heap.size=G at *
 go_loopw [4] (fun iv wr=>∃ (i:Nat) (d:Nat→Nat),i≤F.length∧iv=.int .i64 i∧wr.rowIs G 2 F.length (fun j=>.int .i64 (d j))∧Hid ((∀j,j<i→d j=Tr.depTo (Fn.kids F) i j)∧∀j,i≤j→d j=0)∧Below G w wr) (fun iv _=>F.length-(Lib.intOf iv).toNat)
 case atStart=>exact⟨0,fun _=>0,Nat.zero_le _,rfl,hG ▸ World.rowIs_made w (.int .i64 0) F.length 2,⟨fun j h=>by omega,fun _ _=>rfl⟩,(Below.refl _ _).alloc (by omega) _⟩
 case round=>
  obtain⟨i,d,hi,rfl,hrow,hd,hb⟩:=hrel
  by_cases hlt:i<F.length
  ·obtain⟨a,v4,v5,v6,rfl,ha,hA0,hI⟩:=HF.out i hlt
   have hA:=mkHid (fun (W:World) (hb:Below G w W)=>hA0.below hb (by rw[add_blockN];exact ha))
   clear hA0
   obtain⟨⟨a4,e4,rfl,-⟩,⟨a5,e5,rfl,-⟩,⟨a6,e6,rfl,t3⟩⟩:=hI
   have hkids:Hid (Fn.kids F i=F[i].kids):=by show Fn.kids F i=_;unfold Fn.kids;rw[List.getElem?_eq_getElem hlt];rfl
   have hkin:=mkHid (fun k hk=>Hin.out i hlt k (by rw[hkids.out];exact hk))
   have hkl:F[i].kids.length≤1048576:=(hfit F[i] (List.getElem_mem hlt)).2.2.2.2.2
   replace t3:=mkHid t3
   generalize F[i]=n at *
   have hrow2:=mkHid hrow
   have hb3:=mkHid hb
   go_wp2
   go_loopw [5] (fun cv wr=>∃ (c:Nat) (d':Nat→Nat),c≤n.kids.length∧cv=.int .i64 c∧wr.rowIs G 2 F.length (fun j=>.int .i64 (d' j))∧Hid ((∀j,j≠i→d' j=d j)∧d' i=Tr.mx (Tr.depTo (Fn.kids F) i) (n.kids.take c))∧Below G w wr) (fun cv _=>n.kids.length-(Lib.intOf cv).toNat)
   case atStart=>exact⟨0,d,Nat.zero_le _,rfl,hrow2.out,⟨fun _ _=>rfl,hd.out.2 i (Nat.le_refl _)⟩,hb3.out⟩
   case round=>
    clear hrow hb hrow2 hb3
    obtain⟨c,d',hc,rfl,hrow,hd',hb⟩:=hrel
    have c6:=(hA.out _ hb).c6
    by_cases hcl:c<n.kids.length
    ·obtain⟨b,rfl,hbb,ck⟩:=(t3.out.below hb) c hcl
     obtain⟨k1,k2⟩:=hkin.out n.kids[c] (List.getElem_mem hcl)
     obtain⟨q,hq⟩:∃q:Nat,n.kids[c]=(q:Int):=⟨n.kids[c].toNat,by omega⟩
     have hst:Hid (n.kids.take (c+1)=n.kids.take c ++ [(q:Int)]):=by show _=_;rw[List.take_succ_eq_append_getElem hcl,hq]
     rw[hq] at ck k2
     have hqi:q<i:=by omega
     have hqF:(q:Int)<(F.length:Int):=by omega
     have hiF:(i:Int)<(F.length:Int):=by omega
     have r1:=hrow.cell (i:=i) hlt
     have r2:=hrow.cell (i:=q) (by omega)
     obtain⟨x,hx⟩:∃x,d' i=x:=⟨_,rfl⟩
     obtain⟨y,hy⟩:∃y,d' q=y:=⟨_,rfl⟩
     simp only[hx] at r1
     simp only[hy] at r2
     replace hx:=mkHid hx
     replace hy:=mkHid hy
     have Hcl:=mkHid hcl
     have Hrow:=mkHid hrow
     have Hb:=mkHid hb
     have Hq:=mkHid hq
     clear hrow hb hq k1 k2
     by_cases hxy:x<y
     ·have dxy:decide ((x:Int)<(y:Int))=true:=decide_eq_true (by omega)
      go_wp2
      go_quiet (fail)
      have hrN:=row_below Hrow.out (Go.below_drewN (Below.refl _ _) nq)
      have hbN:=Go.below_drewN Hb.out nq
      have z1:=hrN.frozen i
      have r1':=hrN.cell (i:=i) hlt
      have r2':=hrN.cell (i:=q) (by omega)
      simp only[hx.out] at r1'
      simp only[hy.out] at r2'
      have c6':=(hA.out _ hbN).c6
      obtain⟨b',eb',hbb',ck'⟩:=(t3.out.below hbN) c Hcl.out
      obtain rfl:=Option.some.inj eb'
      rw[show n.kids[c]=(q:Int) from Hq.out] at ck'
      have hrow1:=mkHid (fun v=>hrN.set i v)
      have hb1:=mkHid (fun v=>hbN.setCell (p:=⟨G,i,none⟩) (Nat.le_refl _) v)
      clear hrN hbN eb' r1 r2 c6 ck
      go_wp2
      go_roundw
      case rel=>
       refine⟨c+1,fun j=>if j=i then y else d' j,Nat.succ_le_of_lt Hcl.out,by go_num,(hrow1.out _).congr (fun j _=>by show(if j=i then Value.int .i64 _ else Value.int .i64 (d' j))=Value.int .i64 _;split<;>rename_i h<;>simp[h]),⟨fun j hj=>by show(if j=i then _ else _)=_;rw[if_neg hj];exact hd'.out.1 j hj,?_⟩,hb1.out _⟩
       show(if i=i then _ else _)=_
       rw[if_pos rfl,hst.out,Tr.mx_snoc,Int.toNat_natCast,← hd.out.1 q hqi,← hd'.out.1 q (by omega),← hd'.out.2,hx.out,hy.out]
       omega
      case measure=>have:=Hcl.out;simp[Lib.intOf];omega
     ·have dxy:decide ((x:Int)<(y:Int))=false:=decide_eq_false (by omega)
      go_wp2
      go_quiet (fail)
      have hrN:=mkHid (row_below Hrow.out (Go.below_drewN (Below.refl _ _) nq))
      have hbN:=mkHid (Go.below_drewN Hb.out nq)
      go_wp2
      go_roundw
      case rel=>
       refine⟨c+1,d',Nat.succ_le_of_lt Hcl.out,by go_num,hrN.out,⟨hd'.out.1,?_⟩,hbN.out⟩
       rw[hst.out,Tr.mx_snoc,Int.toNat_natCast,← hd.out.1 q hqi,← hd'.out.1 q (by omega),← hd'.out.2,hx.out,hy.out]
       omega
      case measure=>have:=Hcl.out;simp[Lib.intOf];omega
    ·have he:Hid (n.kids.take c=n.kids):=List.take_of_length_le (by omega)
     have r1:=hrow.cell (i:=i) hlt
     have z1:=hrow.frozen i
     have hrow1:=mkHid (fun v=>hrow.set i v)
     have hb1:=mkHid (fun v=>hb.setCell (p:=⟨G,i,none⟩) (Nat.le_refl _) v)
     have hiF:(i:Int)<(F.length:Int):=by omega
     obtain⟨x,hx⟩:∃x,d' i=x:=⟨_,rfl⟩
     simp only[hx] at r1
     have hxl:x≤1000000:=by
      have h1:Tr.mx (Tr.depTo (Fn.kids F) i) n.kids≤i:=(Tr.mx_le _ _ _).2 (fun k _=>Tr.depTo_le (Fn.kids F) i k.toNat)
      rw[← he.out,← hd'.out.2,hx] at h1
      omega
     replace hx:=mkHid hx
     clear hrow hb
     go_wp2
     go_roundw
     case rel=>
      refine⟨i+1,fun j=>if j=i then x+1 else d' j,by omega,by go_num,(hrow1.out _).congr (fun j _=>by show(if j=i then Value.int .i64 _ else Value.int .i64 (d' j))=Value.int .i64 _;split<;>rename_i h<;>simp[h]),⟨fun j hj=>?_,fun j hj=>?_⟩,hb1.out _⟩
      ·show(if j=i then _ else _)=_
       unfold Tr.depTo
       by_cases hji:j=i
       ·rw[if_pos hji,if_pos hji,← hx.out,hd'.out.2,he.out,hkids.out]
       ·rw[if_neg hji,if_neg hji,hd'.out.1 j hji,hd.out.1 j (by omega)]
      ·show(if j=i then _ else _)=_
       rw[if_neg (by omega),hd'.out.1 j (by omega),hd.out.2 j (by omega)]
     case measure=>simp[Lib.intOf];omega
  ·obtain rfl:i=F.length:=by omega
   have r1:=hrow.cell (i:=F.length-1) (by omega)
   have hz:Hid (d (F.length-1)=Tr.depTo (Fn.kids F) F.length (F.length-1)):=hd.out.1 _ (by omega)
   obtain⟨m,hm⟩:∃m,F.length=m+1:=⟨F.length-1,by omega⟩
   rw[show F.length-1=m by omega] at r1 hz
   have hmI:(F.length:Int)-1=(m:Int):=by omega
   have hml:m<F.length:=by omega
   have hme:Hid (F.length-1=m):=by show _=_;omega
   replace hm:=mkHid hm
   clear hrow hd
   go_wp2
   go_ret
   rw[hme.out,← hz.out,hG]
   exact⟨rfl,hb⟩
namespace Rf
def Small (T:List Tk):Prop:=∀t ∈ T,t.text.length≤10000
theorem kind_lt {T:List Tk} {i k:Nat} (h:kind T i=k)(hk:k≠120):i<T.length:=by
 by_cases hi:i<T.length
 ·exact hi
 ·unfold kind at h
  rw[List.getElem?_eq_none (by omega)] at h
  exact absurd h.symm hk
theorem is_kind {T:List Tk} {i k:Nat} {t:List UInt8} (h:is T i k t=true):kind T i=k:=by
 unfold is at h
 rw[Bool.and_eq_true,beq_iff_eq] at h
 exact h.1
theorem is_lt {T:List Tk} {i k:Nat} {t:List UInt8} (h:is T i k t=true)(hk:k≠120):i<T.length:=kind_lt (is_kind h) hk
theorem text_small {T:List Tk} (h:Small T)(i:Nat):(text T i).length≤10000:=by
 unfold text
 by_cases hi:i<T.length
 ·rw[List.getElem?_eq_getElem hi]
  exact h _ (List.getElem_mem hi)
 ·rw[List.getElem?_eq_none (by omega)]
  exact Nat.zero_le _
theorem ba_size (t:List UInt8):(ba t).size=t.length:=by simp[ba,ByteArray.size]
theorem ba_small {T:List Tk} (h:Small T)(i:Nat):(ba (text T i)).size≤10000:=by rw[ba_size];exact text_small h i
structure Nok (T:List Tk)(k:Nat)(n:Nd):Prop where
 kids:∀x ∈ n.kids,0≤x∧x<(k:Int)
 kl:n.kids.length≤T.length
 text:n.text.size≤10000
 nl:n.names.length≤T.length
 ns:∀t ∈ n.names,t.size≤10000
 yl:n.keys.length≤T.length
 ys:∀t ∈ n.keys,t.size≤10000
def Good (T:List Tk)(N:List Nd):Prop:=∀k (h:k<N.length),Nok T k N[k]
theorem Good.nil (T:List Tk):Good T []:=fun _ h=>absurd h (Nat.not_lt_zero _)
theorem Good.push {T:List Tk} {N:List Nd} {n:Nd} (h:Good T N)(hn:Nok T N.length n):Good T (N ++ [n]):=by
 intro k hk
 by_cases hlt:k<N.length
 ·rw[List.getElem_append_left hlt]
  exact h k hlt
 ·have e:k=N.length:=by simp at hk;omega
  subst e
  rw[List.getElem_append_right (Nat.le_refl _)]
  simpa using hn
theorem nok_zn (T:List Tk)(k:Nat)(z:Int):Nok T k (zn z):=⟨fun x h=>by simp[zn] at h,by simp[zn],Nat.zero_le _,by simp[zn],fun x h=>by simp[zn] at h,by simp[zn],fun x h=>by simp[zn] at h⟩
structure Kok (T:List Tk)(N:List Nd)(ks:List Int):Prop where
 kids:∀x ∈ ks,0≤x∧x<(N.length:Int)
 len:ks.length≤T.length
theorem nok_kids {T:List Tk} {N:List Nd} {n:Nd} {ks:List Int} (h:Kok T N ks)(hn:Nok T N.length n):Nok T N.length { n with kids:=ks }:=⟨h.kids,h.len,hn.text,hn.nl,hn.ns,hn.yl,hn.ys⟩
theorem last_ok {N N':List Nd} (h:0<N.length)(hl:N.length≤N'.length):0≤last N∧last N<(N'.length:Int):=by unfold last;omega
def Okk (T:List Tk)(P:Nat→List Nd→Out):Prop:=∀i N i' N',P i N=.ok i' N'→i<i'∧i'≤T.length∧N.length<N'.length∧(Good T N→Good T N')
theorem push_len (N:List Nd)(n:Nd):(N ++ [n]).length=N.length+1:=by simp
theorem tail_ok {T:List Tk} (hS:Small T):∀(f i:Nat)(L:List ByteArray)(j:Nat)(M:List ByteArray),txtsTail T f i L=.ok j M→L.length≤i→(∀t ∈ L,t.size≤10000)→i<j∧j≤T.length∧M.length≤j∧∀t ∈ M,t.size≤10000
 | 0,i,L,j,M,h,_,_=>by simp[txtsTail] at h
 | f+1,i,L,j,M,h,hl,hs=>by
  rw[txtsTail] at h
  split at h
  ·split at h
   ·have:=tail_ok hS f (i+2) _ j M h (by simp;omega) (fun t ht=>by
     rcases List.mem_append.1 ht with ht|ht
     ·exact hs t ht
     ·simp only[List.mem_cons,List.not_mem_nil,or_false] at ht
      subst ht
      exact ba_small hS _)
    exact⟨by omega,this.2⟩
   ·cases h
  ·split at h
   ·rename_i hy
    have:=is_lt hy (by decide)
    cases h
    exact⟨by omega,by omega,by omega,hs⟩
   ·cases h
theorem txts_ok {T:List Tk} (hS:Small T)(i j:Nat)(M:List ByteArray)(h:txts T i=.ok j M):i<j∧j≤T.length∧M.length≤T.length∧∀t ∈ M,t.size≤10000:=by
 have one:∀k,∀t ∈ [ba (text T k)],t.size≤10000:=fun k t ht=>by
  simp only[List.mem_cons,List.not_mem_nil,or_false] at ht
  subst ht
  exact ba_small hS _
 unfold txts at h
 split at h
 ·split at h
  ·have:=tail_ok hS _ _ _ j M h (by simp) (one _)
   exact⟨by omega,by omega,by omega,this.2.2.2⟩
  ·cases h
 ·split at h
  ·rename_i hk
   have:=kind_lt (by simpa using hk) (by decide)
   cases h
   exact⟨by omega,by omega,by simp;omega,one _⟩
  ·cases h
theorem tsts_ok {T:List Tk} {t:Nat→List Nd→Out} (ht:Okk T t):∀(f i:Nat)(N:List Nd)(ks:List Int)(j:Nat)(N':List Nd)(ks':List Int),tsts T t f i N ks=.ok j N' ks'→ks.length≤i→(∀x ∈ ks,0≤x∧x<(N.length:Int))→i<j∧j≤T.length∧N.length≤N'.length∧(Good T N→Good T N')∧Kok T N' ks'
 | 0,i,N,ks,j,N',ks',h,_,_=>by simp[tsts] at h
 | f+1,i,N,ks,j,N',ks',h,hl,hk=>by
  rw[tsts] at h
  split at h
  ·cases he:t (i+1) N with
   | bad q=>rw[he] at h;cases h
   | ok q Q=>
    rw[he] at h
    obtain⟨a1,a2,a3,a4⟩:=ht _ _ _ _ he
    have:=tsts_ok ht f q Q _ j N' ks' h (by simp;omega) (fun x hx=>by
     rcases List.mem_append.1 hx with hx|hx
     ·have:=hk x hx;omega
     ·simp only[List.mem_cons,List.not_mem_nil,or_false] at hx
      subst hx
      exact last_ok (by omega) (Nat.le_refl _))
    exact⟨by omega,this.2.1,by omega,fun hg=>this.2.2.2.1 (a4 hg),this.2.2.2.2⟩
  ·split at h
   ·rename_i hy
    have:=is_lt hy (by decide)
    cases h
    exact⟨by omega,by omega,Nat.le_refl _,id,hk,by omega⟩
   ·cases h
theorem cmds_ok {T:List Tk} {c:Nat→List Nd→Out} (hc:Okk T c):∀(f i:Nat)(N:List Nd)(ks:List Int)(j:Nat)(N':List Nd)(ks':List Int),cmds T c f i N ks=.ok j N' ks'→ks.length≤i→(∀x ∈ ks,0≤x∧x<(N.length:Int))→i<j∧j≤T.length∧N.length≤N'.length∧(Good T N→Good T N')∧Kok T N' ks'
 | 0,i,N,ks,j,N',ks',h,_,_=>by simp[cmds] at h
 | f+1,i,N,ks,j,N',ks',h,hl,hk=>by
  rw[cmds] at h
  split at h
  ·rename_i hy
   have:=is_lt hy (by decide)
   cases h
   exact⟨by omega,by omega,Nat.le_refl _,id,hk,by omega⟩
  ·cases he:c i N with
   | bad q=>rw[he] at h;cases h
   | ok q Q=>
    rw[he] at h
    obtain⟨a1,a2,a3,a4⟩:=hc _ _ _ _ he
    have:=cmds_ok hc f q Q _ j N' ks' h (by simp;omega) (fun x hx=>by
     rcases List.mem_append.1 hx with hx|hx
     ·have:=hk x hx;omega
     ·simp only[List.mem_cons,List.not_mem_nil,or_false] at hx
      subst hx
      exact last_ok (by omega) (Nat.le_refl _))
    exact⟨by omega,this.2.1,by omega,fun hg=>this.2.2.2.1 (a4 hg),this.2.2.2.2⟩
theorem all_ok {T:List Tk} {c:Nat→List Nd→Out} (hc:Okk T c):∀(f i:Nat)(N:List Nd)(ks:List Int)(j:Nat)(N':List Nd)(ks':List Int),all T c f i N ks=.ok j N' ks'→ks.length≤i→i≤T.length→(∀x ∈ ks,0≤x∧x<(N.length:Int))→j≤T.length∧N.length≤N'.length∧(Good T N→Good T N')∧Kok T N' ks'
 | 0,i,N,ks,j,N',ks',h,_,_,_=>by simp[all] at h
 | f+1,i,N,ks,j,N',ks',h,hl,hi,hk=>by
  rw[all] at h
  split at h
  ·cases h
   exact⟨hi,Nat.le_refl _,id,hk,by omega⟩
  ·cases he:c i N with
   | bad q=>rw[he] at h;cases h
   | ok q Q=>
    rw[he] at h
    obtain⟨a1,a2,a3,a4⟩:=hc _ _ _ _ he
    have:=all_ok hc f q Q _ j N' ks' h (by simp;omega) a2 (fun x hx=>by
     rcases List.mem_append.1 hx with hx|hx
     ·have:=hk x hx;omega
     ·simp only[List.mem_cons,List.not_mem_nil,or_false] at hx
      subst hx
      exact last_ok (by omega) (Nat.le_refl _))
    exact⟨this.1,by omega,fun hg=>this.2.2.1 (a4 hg),this.2.2.2⟩
theorem blk_ok {T:List Tk} {c:Nat→List Nd→Out} (hc:Okk T c):Okk T (blk T c):=by
 intro i N i' N' h
 unfold blk at h
 split at h
 ·cases he:cmds T c T.length (i+1) N [] with
  | bad q=>rw[he] at h;cases h
  | ok q Q ks=>
   rw[he] at h
   cases h
   have:=cmds_ok hc _ _ _ _ _ _ _ he (by simp) (fun x hx=>by simp at hx)
   refine⟨by omega,this.2.1,by rw[push_len];omega,fun hg=>(this.2.2.2.1 hg).push (nok_kids this.2.2.2.2 (nok_zn _ _ _))⟩
 ·cases h
theorem three {T:List Tk} {N1 N2 N3:List Nd} {ks:List Int} (h1:0<N1.length)(h2:N1.length≤N2.length)(h3:N2.length≤N3.length)(hT:ks.length≤T.length)(hk:∀x ∈ ks,x=last N1∨x=last N2∨x=last N3):Kok T N3 ks:=by
 refine⟨fun x hx=>?_,hT⟩
 rcases hk x hx with rfl|rfl|rfl
 ·exact last_ok h1 (by omega)
 ·exact last_ok (by omega) h3
 ·exact last_ok (by omega) (Nat.le_refl _)
theorem tst_ok {T:List Tk} (hS:Small T) {t:Nat→List Nd→Out} (ht:Okk T t):Okk T (tst T t):=by
 intro i N i' N' h
 unfold tst at h
 split at h
 ·rename_i hw
  have hiT:i<T.length:=kind_lt (k:=119) (by rw[Bool.and_eq_true,beq_iff_eq] at hw;exact hw.1) (by decide)
  dsimp only at h
  split at h
  ·cases he:t (i+1) N with
   | bad q=>rw[he] at h;cases h
   | ok q Q=>
    rw[he] at h
    cases h
    obtain⟨a1,a2,a3,a4⟩:=ht _ _ _ _ he
    refine⟨by omega,a2,by rw[push_len];omega,fun hg=>(a4 hg).push (nok_kids ⟨fun x hx=>?_,by simp;omega⟩ (nok_zn _ _ _))⟩
    simp only[List.mem_cons,List.not_mem_nil,or_false] at hx
    subst hx
    exact last_ok (by omega) (Nat.le_refl _)
  ·split at h
   ·split at h
    ·cases he:t (i+2) N with
     | bad q=>rw[he] at h;cases h
     | ok q Q=>
      rw[he] at h
      dsimp only at h
      obtain⟨a1,a2,a3,a4⟩:=ht _ _ _ _ he
      cases he2:tsts T t T.length q Q [last Q] with
      | bad q2=>rw[he2] at h;cases h
      | ok q2 Q2 ks=>
       rw[he2] at h
       cases h
       have:=tsts_ok ht _ _ _ _ _ _ _ he2 (by simp;omega) (fun x hx=>by
        simp only[List.mem_cons,List.not_mem_nil,or_false] at hx
        subst hx
        exact last_ok (by omega) (Nat.le_refl _))
       exact⟨by omega,this.2.1,by rw[push_len];omega,fun hg=>(this.2.2.2.1 (a4 hg)).push (nok_kids this.2.2.2.2 (nok_zn _ _ _))⟩
    ·cases h
   ·split at h
    ·split at h
     ·split at h
      ·rename_i i1 A he1
       split at h
       ·rename_i i2 B he2
        cases h
        have b1:=txts_ok hS _ _ _ he1
        have b2:=txts_ok hS _ _ _ he2
        have hz:=nok_zn T N.length (tstK (text T i))
        exact⟨by omega,by omega,by rw[push_len];omega,fun hg=>hg.push ⟨hz.kids,hz.kl,hz.text,b1.2.2.1,b1.2.2.2,b2.2.2.1,b2.2.2.2⟩⟩
       ·cases h
      ·cases h
     ·cases h
    ·split at h
     ·split at h
      ·rename_i i1 A he1
       cases h
       have b1:=txts_ok hS _ _ _ he1
       have hz:=nok_zn T N.length 28
       exact⟨by omega,by omega,by rw[push_len];omega,fun hg=>hg.push ⟨hz.kids,hz.kl,hz.text,b1.2.2.1,b1.2.2.2,hz.yl,hz.ys⟩⟩
      ·cases h
     ·split at h
      ·split at h
       ·split at h
        ·rename_i hk2
         have hk3:i+2<T.length:=kind_lt (k:=110) (by rw[Bool.and_eq_true,beq_iff_eq] at hk2;exact hk2.1) (by decide)
         cases h
         have hz:=nok_zn T N.length (if is T (i+1) 58 wUnder then 30 else 29)
         exact⟨by omega,by omega,by rw[push_len];omega,fun hg=>hg.push ⟨hz.kids,hz.kl,hz.text,hz.nl,hz.ns,hz.yl,hz.ys⟩⟩
        ·cases h
       ·cases h
      ·cases h
       exact⟨by omega,by omega,by rw[push_len];omega,fun hg=>hg.push (nok_zn _ _ _)⟩
 ·cases h
theorem cho_ok {T:List Tk} {t c:Nat→List Nd→Out} (ht:Okk T t)(hc:Okk T c):∀f,Okk T (cho T t c f)
 | 0=>fun i N i' N' h=>by simp[cho] at h
 | f+1=>by
  intro i N i' N' h
  rw[cho] at h
  cases he:t i N with
  | bad q=>rw[he] at h;cases h
  | ok i1 N1=>
   rw[he] at h
   dsimp only at h
   obtain⟨a1,a2,a3,a4⟩:=ht _ _ _ _ he
   cases he2:blk T c i1 N1 with
   | bad q=>rw[he2] at h;cases h
   | ok i2 N2=>
    rw[he2] at h
    dsimp only at h
    obtain⟨b1,b2,b3,b4⟩:=blk_ok hc _ _ _ _ he2
    split at h
    ·cases he3:cho T t c f (i2+1) N2 with
     | bad q=>rw[he3] at h;cases h
     | ok i3 N3=>
      rw[he3] at h
      cases h
      obtain⟨c1,c2,c3,c4⟩:=cho_ok ht hc f _ _ _ _ he3
      exact⟨by omega,c2,by rw[push_len];omega,fun hg=>(c4 (b4 (a4 hg))).push (nok_kids (three (N1:=N1) (N2:=N2) (by omega) (by omega) (by omega) (by simp;omega) (fun x hx=>by simpa using hx)) (nok_zn _ _ _))⟩
    ·split at h
     ·cases he3:blk T c (i2+1) N2 with
      | bad q=>rw[he3] at h;cases h
      | ok i3 N3=>
       rw[he3] at h
       cases h
       obtain⟨c1,c2,c3,c4⟩:=blk_ok hc _ _ _ _ he3
       exact⟨by omega,c2,by rw[push_len];omega,fun hg=>(c4 (b4 (a4 hg))).push (nok_kids (three (N1:=N1) (N2:=N2) (by omega) (by omega) (by omega) (by simp;omega) (fun x hx=>by simpa using hx)) (nok_zn _ _ _))⟩
     ·cases h
      exact⟨by omega,b2,by rw[push_len];omega,fun hg=>(b4 (a4 hg)).push (nok_kids (three (N1:=N1) (N2:=N2) (by omega) (by omega) (Nat.le_refl _) (by simp;omega) (fun x hx=>by
       simp only[List.mem_cons,List.not_mem_nil,or_false] at hx
       rcases hx with hx|hx
       ·exact .inl hx
       ·exact .inr (.inl hx))) (nok_zn _ _ _))⟩
theorem cmd_ok {T:List Tk} (hS:Small T) {t c:Nat→List Nd→Out} (ht:Okk T t)(hc:Okk T c):Okk T (cmd T t c):=by
 intro i N i' N' h
 unfold cmd at h
 split at h
 ·rename_i hw
  have hiT:i<T.length:=kind_lt (by simpa using hw) (by decide)
  split at h
  ·obtain⟨a1,a2,a3,a4⟩:=cho_ok ht hc _ _ _ _ _ h
   exact⟨by omega,a2,a3,a4⟩
  ·split at h
   ·split at h
    ·cases he:blk T c (i+2) N with
     | bad q=>rw[he] at h;cases h
     | ok q Q=>
      rw[he] at h
      cases h
      obtain⟨a1,a2,a3,a4⟩:=blk_ok hc _ _ _ _ he
      have hz:=nok_zn T Q.length 3
      refine⟨by omega,a2,by rw[push_len];omega,fun hg=>(a4 hg).push ⟨fun x hx=>?_,by simp;omega,hz.text,hz.nl,hz.ns,hz.yl,hz.ys⟩⟩
      simp only[List.mem_cons,List.not_mem_nil,or_false] at hx
      subst hx
      exact last_ok (by omega) (Nat.le_refl _)
    ·cases h
   ·split at h
    ·split at h
     ·split at h
      ·split at h
       ·rename_i hy
        have:=is_lt hy (by decide)
        cases h
        have hz:=nok_zn T N.length 11
        refine⟨by omega,by omega,by rw[push_len];omega,fun hg=>hg.push ⟨hz.kids,hz.kl,ba_small hS _,by simp;omega,fun x hx=>?_,hz.yl,hz.ys⟩⟩
        simp only[List.mem_cons,List.not_mem_nil,or_false] at hx
        subst hx
        exact ba_small hS _
       ·cases h
      ·cases h
     ·cases h
    ·split at h
     ·cases h
     ·split at h
      ·split at h
       ·split at h
        ·rename_i hy
         have:=is_lt hy (by decide)
         cases h
         have hz:=nok_zn T N.length (cmdK (text T i))
         exact⟨by omega,by omega,by rw[push_len];omega,fun hg=>hg.push ⟨hz.kids,hz.kl,ba_small hS _,hz.nl,hz.ns,hz.yl,hz.ys⟩⟩
        ·cases h
       ·cases h
      ·split at h
       ·rename_i hy
        have:=is_lt hy (by decide)
        cases h
        exact⟨by omega,by omega,by rw[push_len];omega,fun hg=>hg.push (nok_zn _ _ _)⟩
       ·cases h
 ·cases h
theorem lv_ok {T:List Tk} (hS:Small T):∀f,Okk T (lv T f).1∧Okk T (lv T f).2
 | 0=>⟨fun i N i' N' h=>by simp[lv] at h,fun i N i' N' h=>by simp[lv] at h⟩
 | f+1=>by
  obtain⟨h1,h2⟩:=lv_ok hS f
  exact⟨tst_ok hS h1,cmd_ok hS h1 h2⟩
theorem script_ok {T:List Tk} (hS:Small T) {i:Nat} {N:List Nd} (h:script T=.ok i N):Good T N∧0<N.length:=by
 unfold script at h
 cases he:all T (lv T T.length).2 T.length 0 [] [] with
 | bad q=>rw[he] at h;cases h
 | ok q Q ks=>
  rw[he] at h
  cases h
  have:=all_ok (lv_ok hS T.length).2 _ _ _ _ _ _ _ he (by simp) (by omega) (fun x hx=>by simp at hx)
  exact⟨(this.2.2.1 (Good.nil T)).push (nok_kids this.2.2.2 (nok_zn _ _ _)),by simp⟩
end Rf
namespace Rf
theorem cut_len (l:List UInt8)(i j:Nat):(cut l i j).length≤l.length:=by
 unfold cut
 rw[List.length_drop,List.length_take]
 omega
theorem cut_exact (l:List UInt8)(i j:Nat)(h:j≤l.length):(cut l i j).length=j-i:=by
 unfold cut
 rw[List.length_drop,List.length_take]
 omega
theorem cut_get (l:List UInt8)(i j k:Nat)(hj:j≤l.length)(hk:k<(cut l i j).length):(cut l i j)[k]=Pl.b l (i+k):=by
 have h1:=cut_exact l i j hj
 have h2:i+k<l.length:=by omega
 rw[Pl.b_lt l (i+k) h2]
 simp[cut]
theorem tok_small (l:List UInt8)(p:Nat)(h:p<l.length):(tok l p).2.1.length≤l.length:=by
 unfold tok
 dsimp only
 split
 ·exact cut_len _ _ _
 ·split
  ·split
   ·exact cut_len _ _ _
   ·exact Nat.zero_le _
  ·split
   ·split
    ·exact cut_len _ _ _
    ·exact Nat.zero_le _
   ·split
    ·cases hq:qd (l.drop (p+1)) with
     | none=>exact Nat.zero_le _
     | some x=>
      obtain⟨t,k⟩:=x
      have:=qd_pos _ _ _ hq
      rw[List.length_drop] at this
      dsimp only
      split
      ·dsimp only;omega
      ·exact Nat.zero_le _
    ·split
     ·simp;omega
     ·exact Nat.zero_le _
theorem tok_num (l:List UInt8)(p:Nat)(h:p<l.length)(hk:(tok l p).1=110):1≤(tok l p).2.1.length∧(tok l p).2.1.length≤9∧(tok l p).2.1.all digK=true:=by
 unfold tok at hk ⊢
 dsimp only at hk ⊢
 split
 ·rename_i h1
  rw[if_pos h1] at hk
  cases hk
 ·rename_i h1
  rw[if_neg h1] at hk
  split
  ·rename_i h2
   rw[if_pos h2] at hk
   split at hk<;>cases hk
  ·rename_i h2
   rw[if_neg h2] at hk
   split
   ·rename_i h3
    rw[if_pos h3] at hk
    have g1:=Pl.stop_ge digK l p (by omega)
    have g2:=Pl.stop_le digK l p (by omega)
    have g3:p<Pl.stop digK l p:=by
     rcases Nat.lt_or_ge p (Pl.stop digK l p) with h4|h4
     ·exact h4
     ·have e:Pl.stop digK l p=p:=by omega
      have:=Pl.stop_not digK l p (by omega) (by omega)
      rw[e,h3] at this
      cases this
    split
    ·rename_i h4
     dsimp only
     have e:=cut_exact l p (Pl.stop digK l p) g2
     refine⟨by omega,by omega,?_⟩
     rw[List.all_eq_true]
     intro x hx
     obtain⟨k,hk2,rfl⟩:=List.getElem_of_mem hx
     rw[cut_get l p _ k g2 hk2]
     exact Pl.stop_all digK l p (by omega) (p+k) (by omega) (by omega)
    ·rename_i h4
     rw[if_neg h4] at hk
     cases hk
   ·rename_i h3
    rw[if_neg h3] at hk
    split at hk
    ·cases hq:qd (l.drop (p+1)) with
     | none=>rw[hq] at hk;cases hk
     | some x=>
      rw[hq] at hk
      dsimp only at hk
      split at hk<;>cases hk
    ·split at hk<;>cases hk
structure Tok1 (l:List UInt8)(T:List Tk):Prop where
 pos:0<T.length
 nxt:∀k (h:k<T.length),T[k].kind≠101→T[k].kind≠120→k+1<T.length
 small:∀t ∈ T,t.text.length≤l.length
 num:∀t ∈ T,t.kind=110→1≤t.text.length∧t.text.length≤9∧t.text.all digK=true
 place:∀t ∈ T,t.pos≤l.length
theorem toks_one (l:List UInt8):∀(f i:Nat),i≤l.length→l.length-i<f→Tok1 l (toks l f i)∧(toks l f i).length≤l.length-i+1
 | 0,i,hi,hf=>absurd hf (Nat.not_lt_zero _)
 | f+1,i,hi,hf=>by
  have hg:=gap_ge l i
  have hg2:=gap_le l i hi
  rw[toks]
  split
  ·rename_i hp
   split
   ·refine⟨⟨by simp,?_,?_,?_,?_⟩,by simp⟩
    ·intro k hk h1 h2
     have e:k=0:=by simp at hk;omega
     subst e
     exact absurd rfl h2
    ·intro t ht
     simp only[List.mem_cons,List.not_mem_nil,or_false] at ht
     subst ht
     exact Nat.zero_le _
    ·intro t ht hk
     simp only[List.mem_cons,List.not_mem_nil,or_false] at ht
     subst ht
     cases hk
    ·intro t ht
     simp only[List.mem_cons,List.not_mem_nil,or_false] at ht
     subst ht
     exact hg2
   ·rename_i hk
    obtain⟨n1,n2⟩:=tok_next l _ hp hk
    obtain⟨ih,il⟩:=toks_one l f (tok l (gap l i)).2.2 n2 (by omega)
    refine⟨⟨by simp,?_,?_,?_,?_⟩,by simp;omega⟩
    ·intro k hk h1 h2
     have:=ih.pos
     cases k with
     | zero=>simp;omega
     | succ k=>
      have:=ih.nxt k (by simpa using hk) (by simpa using h1) (by simpa using h2)
      simp
      omega
    ·intro t ht
     rcases List.mem_cons.1 ht with rfl|ht
     ·exact tok_small l _ hp
     ·exact ih.small t ht
    ·intro t ht hk
     rcases List.mem_cons.1 ht with rfl|ht
     ·exact tok_num l _ hp hk
     ·exact ih.num t ht hk
    ·intro t ht
     rcases List.mem_cons.1 ht with rfl|ht
     ·exact hg2
     ·exact ih.place t ht
  ·refine⟨⟨by simp,?_,?_,?_,?_⟩,by simp⟩
   ·intro k hk h1 h2
    have e:k=0:=by simp at hk;omega
    subst e
    exact absurd rfl h1
   ·intro t ht
    simp only[List.mem_cons,List.not_mem_nil,or_false] at ht
    subst ht
    exact Nat.zero_le _
   ·intro t ht hk
    simp only[List.mem_cons,List.not_mem_nil,or_false] at ht
    subst ht
    cases hk
   ·intro t ht
    simp only[List.mem_cons,List.not_mem_nil,or_false] at ht
    subst ht
    exact Nat.le_refl _
def tk (l:List UInt8):List Tk:=toks l (l.length+1) 0
theorem tk_one (l:List UInt8):Tok1 l (tk l)∧(tk l).length≤l.length+1:=by
 have:=toks_one l (l.length+1) 0 (Nat.zero_le _) (by omega)
 exact⟨this.1,by have:=this.2;unfold tk;omega⟩
def long (n:Nd):Bool:=decide (100<n.names.length) || decide (100<n.keys.length)
end Rf
end Go.Proofs.YtkcajnjledldnaaGreatDoor
