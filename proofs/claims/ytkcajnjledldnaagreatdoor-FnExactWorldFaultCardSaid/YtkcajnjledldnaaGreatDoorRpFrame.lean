import Derived.Test.YtkcajnjledldnaaGreatDoorRpSmall
import Derived.Laws.Rows
import Derived.Test.YtkcajnjledldnaaGreatDoorTk
import Derived.Lib.ParseIntBCases
import Derived.Lib.AtoiTie
import Derived.Deep.LoopGhost
import Derived.Test.YtkcajnjledldnaaGreatDoorRfBlock
import Derived.Test.YtkcajnjledldnaaGreatDoorRfTest5
set_option maxRecDepth 20000
set_option maxHeartbeats 4000000
namespace Go.Proofs.YtkcajnjledldnaaGreatDoor
open Go.RowKit Go.Lib Go.Maps
def farr:Array Value:=#[.int .i64 2,.string ⟨#[105,102]⟩,.int .i64 3,.string ⟨#[114,101,112,101,97,116]⟩,.int .i64 4,.string ⟨#[107,101,101,112]⟩,.int .i64 5,.string ⟨#[100,105,115,99,97,114,100]⟩,.int .i64 6,.string ⟨#[115,116,111,112]⟩,.int .i64 7,.string ⟨#[102,105,108,101,105,110,116,111]⟩,.int .i64 8,.string ⟨#[114,101,100,105,114,101,99,116]⟩,.int .i64 9,.string ⟨#[114,101,106,101,99,116]⟩,.int .i64 10,.string ⟨#[97,100,100,102,108,97,103]⟩,.int .i64 11,.string ⟨#[115,101,116]⟩,.int .i64 20,.string ⟨#[116,114,117,101]⟩,.int .i64 21,.string ⟨#[102,97,108,115,101]⟩,.int .i64 22,.string ⟨#[110,111,116]⟩,.int .i64 23,.string ⟨#[97,108,108,111,102]⟩,.int .i64 24,.string ⟨#[97,110,121,111,102]⟩,.int .i64 25,.string ⟨#[104,101,97,100,101,114]⟩,.int .i64 26,.string ⟨#[97,100,100,114,101,115,115]⟩,.int .i64 27,.string ⟨#[101,110,118,101,108,111,112,101]⟩,.int .i64 28,.string ⟨#[101,120,105,115,116,115]⟩,.int .i64 29,.string ⟨#[115,105,122,101]⟩,.int .i64 30,.string ⟨#[115,105,122,101]⟩,.int .i64 31,.string ⟨#[115,116,114,105,110,103]⟩]
def fwK:Nat→Int
 | 0=>2
 | 1=>3
 | 2=>4
 | 3=>5
 | 4=>6
 | 5=>7
 | 6=>8
 | 7=>9
 | 8=>10
 | 9=>11
 | 10=>20
 | 11=>21
 | 12=>22
 | 13=>23
 | 14=>24
 | 15=>25
 | 16=>26
 | 17=>27
 | 18=>28
 | 19=>29
 | 20=>30
 | 21=>31
 | _=>0
def fwT:Nat→List UInt8
 | 0=>[105,102]
 | 1=>[114,101,112,101,97,116]
 | 2=>[107,101,101,112]
 | 3=>[100,105,115,99,97,114,100]
 | 4=>[115,116,111,112]
 | 5=>[102,105,108,101,105,110,116,111]
 | 6=>[114,101,100,105,114,101,99,116]
 | 7=>[114,101,106,101,99,116]
 | 8=>[97,100,100,102,108,97,103]
 | 9=>[115,101,116]
 | 10=>[116,114,117,101]
 | 11=>[102,97,108,115,101]
 | 12=>[110,111,116]
 | 13=>[97,108,108,111,102]
 | 14=>[97,110,121,111,102]
 | 15=>[104,101,97,100,101,114]
 | 16=>[97,100,100,114,101,115,115]
 | 17=>[101,110,118,101,108,111,112,101]
 | 18=>[101,120,105,115,116,115]
 | 19=>[115,105,122,101]
 | 20=>[115,105,122,101]
 | 21=>[115,116,114,105,110,103]
 | _=>[]
theorem fw_at (i:Nat)(hi:i<22)(w:World):(Instr.index 229 (.agg farr) (.int .i64 i)).run Tryz.prog w=.ok (.agg #[.int .i64 (fwK i),.string ⟨(fwT i).toArray⟩]) w:=by
 rcases (show i=0∨i=1∨i=2∨i=3∨i=4∨i=5∨i=6∨i=7∨i=8∨i=9∨i=10∨i=11∨i=12∨i=13∨i=14∨i=15∨i=16∨i=17∨i=18∨i=19∨i=20∨i=21 by omega) with rfl|rfl|rfl|rfl|rfl|rfl|rfl|rfl|rfl|rfl|rfl|rfl|rfl|rfl|rfl|rfl|rfl|rfl|rfl|rfl|rfl|rfl<;>kernel_rfl
def FTab (w:World):Prop:=∃t fr,w.heap[1]?=some (.cells farr t fr)
theorem FTab.below {w w':World} (h:FTab w)(hb:Below w.heap.size w w'):FTab w':=by
 obtain⟨t,fr,h⟩:=h
 exact⟨t,fr,(hb.block _ (heap_ltM h)).trans h⟩
namespace Rf
def look (x:List UInt8):Nat→Nat→Int
 | 0,_=>0
 | f+1,i=>if x==fwT i then fwK i else look x f (i+1)
def lk (x:List UInt8):Int:=look x 22 0
end Rf
theorem implKindNamed (x:List UInt8)(w:World)(hF:FTab w) :
  Calls Tryz.prog 202 #[.string ⟨x.toArray⟩] w fun e w'=>e=.returned (.int .i64 (Rf.lk x))∧Below w.heap.size w w':=by
 obtain⟨Z,hZ⟩:∃Z,Rf.lk x=Z:=⟨_,rfl⟩
 rw[hZ]
 have HZ:Hid (Rf.look x 22 0=Z):=hZ
 obtain⟨xb,hxb⟩:∃xb:ByteArray,⟨x.toArray⟩=xb:=⟨_,rfl⟩
 rw[hxb]
 have hxl:Hid (∀i,(((⟨(fwT i).toArray⟩:ByteArray).toList==xb.toList)=(x==fwT i))):=fun i=>by
  rw[← hxb,ba_list',ba_list',Bool.eq_iff_iff,beq_iff_eq,beq_iff_eq]
  exact⟨Eq.symm,Eq.symm⟩
 obtain⟨tf,fr,hF⟩:=hF
 have HF:=mkHid hF
 clear hF hZ hxb
 go_enter Tryz.func202,Tryz.ntmps202
 go_wp2_with (first|(refine wpL_load_row rfl 229 _ rfl 1 _ tf fr _ rfl HF.out Tryz.underlying229 rfl (by kernel_rfl) ?_)|go_in)
 go_loopw [6] (fun v wr=>∃ i f:Nat,v=.int .i64 i∧i+f=22∧Hid (Rf.look x f i=Z)∧Hid (Below w.heap.size w wr)) (fun v _=>22-(Lib.intOf v).toNat)
 case atStart=>exact⟨0,22,rfl,rfl,HZ,Below.refl _ _⟩
 case round=>
  clear HZ
  obtain⟨i,f,rfl,hif,Hz,Hb⟩:=hrel
  by_cases hi:i<22
  ·have f1:(i:Int)<22:=by omega
   obtain⟨f,rfl⟩:∃f',f=f'+1:=⟨f-1,by omega⟩
   have hix:=fun w=>fw_at i hi w
   have hxi:=hxl.out i
   have hz:Hid ((if x==fwT i then fwK i else Rf.look x f (i+1))=Z):=Hz
   clear Hz
   generalize fwK i=k at *
   generalize (⟨(fwT i).toArray⟩:ByteArray)=t at *
   generalize (x==fwT i)=y at *
   have hb1:=mkHid (Hb.out.alloc Hb.out.size (.cells #[.int .i64 k,.string t] 228))
   cases y
   ·have hz2:Hid (Rf.look x f (i+1)=Z):=hz
    clear hz
    go_wp2
    go_roundw
    case rel=>exact⟨i+1,f,by go_num,by omega,hz2,hb1⟩
    case measure=>simp[Lib.intOf];omega
   ·have hz2:Hid (k=Z):=hz
    clear hz
    go_wp2
    go_ret
    exact⟨congrArg (fun z=>Ending.returned (.int .i64 z)) hz2.out,hb1.out⟩
  ·have hf:f=0:=by omega
   subst hf
   have f1:¬(i:Int)<22:=by omega
   have hz2:Hid (0=Z):=Hz
   go_wp2
   go_ret
   exact⟨congrArg (fun z=>Ending.returned (.int .i64 z)) hz2.out,Hb.out⟩
section
variable {g:Nat} {s:ByteArray} {l:List UInt8} {T:List Rf.Tk} {n kd:Nat} {x:List UInt8} {a:Nat} {v:Value} {E:List NdE} {w:World}
theorem Rf.Cur.kd_eq (h:Rf.Cur l T n kd x a)(k:Nat)(hk:k=2∨k=3):(kd==k)=(Rf.kind T n==(if k=2 then 110 else 116)):=by
 have hcl:Rf.cls x≠110∧Rf.cls x≠116:=by
  cases x with
  | nil=>exact⟨by decide,by decide⟩
  | cons c r=>
   rw[Rf.cls]
   split
   ·exact⟨by decide,by decide⟩
   ·split
    ·split<;>exact⟨by decide,by decide⟩
    ·split<;>exact⟨by decide,by decide⟩
 rw[Bool.eq_iff_iff,beq_iff_eq,beq_iff_eq]
 rcases hk with rfl|rfl
 ·rw[if_pos rfl]
  rcases h.kinds with ⟨rfl,k1,-⟩|⟨rfl,k1,-⟩|⟨rfl,k1,-⟩|⟨rfl,k1,-⟩<;>rw[k1]
  ·exact⟨fun h=>(by cases h),fun h=>(by cases h)⟩
  ·exact⟨fun h=>(by cases h),fun h=>absurd h hcl.1⟩
  ·exact⟨fun _=>rfl,fun _=>rfl⟩
  ·exact⟨fun h=>(by cases h),fun h=>(by cases h)⟩
 ·rw[if_neg (by decide)]
  rcases h.kinds with ⟨rfl,k1,-⟩|⟨rfl,k1,-⟩|⟨rfl,k1,-⟩|⟨rfl,k1,-⟩<;>rw[k1]
  ·exact⟨fun h=>(by cases h),fun h=>(by cases h)⟩
  ·exact⟨fun h=>(by cases h),fun h=>absurd h hcl.2⟩
  ·exact⟨fun h=>(by cases h),fun h=>(by cases h)⟩
  ·exact⟨fun _=>rfl,fun _=>rfl⟩
theorem Rf.Cur.txt (h:Rf.Cur l T n kd x a)(hk:Rf.kind T n=116):x=Rf.text T n:=by
 have:=h.kd_eq 3 (.inr rfl)
 rw[hk] at this
 obtain rfl:kd=3:=by simpa using this
 rcases h.kinds with ⟨h,-⟩|⟨h,-⟩|⟨h,-⟩|⟨-,-,h⟩
 ·cases h
 ·cases h
 ·cases h
 ·exact h.symm
theorem Rf.Cur.num (h:Rf.Cur l T n kd x a)(hk:Rf.kind T n=110):x=Rf.text T n:=by
 have:=h.kd_eq 2 (.inl rfl)
 rw[hk] at this
 obtain rfl:kd=2:=by simpa using this
 rcases h.kinds with ⟨h,-⟩|⟨h,-⟩|⟨-,-,h⟩|⟨h,-⟩
 ·cases h
 ·cases h
 ·exact h.symm
 ·cases h
theorem prSaying (h:Ps g s l T n kd x a v E w)(hl:s.data.toList=l)(hs:s.size≤100000) :
  Calls Tryz.prog 182 #[scp g] w fun e w'=>Ef g none w w'∧(((Rf.kind T n==116)=false∧e=faultAt (Rf.pos T n))∨(Rf.kind T n=116∧((∃kd' x' a',e=.returned (.string (Rf.ba (Rf.text T n)))∧Ps g s l T (n+1) kd' x' a' v E w')∨Xf T (n+1) e))):=by
 have c4:=h.sc.c4
 have bD:Below w.heap.size w w.drew:=below_drew (Below.refl _ _)
 have hD:=h.below bD
 have c3:=hD.sc.c3
 have eD:=mkHid (Ef.of_below (g:=g) (r:=none) bD)
 have hkk:=h.cur.kd_eq 3 (.inr rfl)
 rw[if_neg (by decide)] at hkk
 have hint:((kd:Int)==3)=(Rf.kind T n==116):=by
  rw[← hkk,Bool.eq_iff_iff,beq_iff_eq,beq_iff_eq]
  omega
 have HD:=mkHid hD
 cases hy:(Rf.kind T n==116)
 ·rw[hy] at hint
  have kN:=mkHid (scNeedNo g s a (Rf.pos T n) w.drew hD.sc)
  clear h hD hkk bD hy
  go_enter Tryz.func182,Tryz.ntmps182
  go_wp2
  refine wp_region_any (by kernel_rfl) ?_
  refine ta 0 (scp g) ?_ ?_
  ·intro w
   go_simp
   all_goals omega
  go_simp
  refine ta 1 (.pointer (some ⟨g,0,none⟩)) ?_ ?_
  ·intro w
   go_simp
   all_goals omega
  go_simp
  refine ta 2 (.pointer (some ⟨g,0,none⟩)) ?_ ?_
  ·intro w
   go_simp
   all_goals omega
  go_simp
  refine ta 3 (scp g) ?_ ?_
  ·intro w
   go_simp
   all_goals omega
  go_simp
  refine ta 4 (.pointer (some ⟨g,0,none⟩)) ?_ ?_
  ·intro w
   go_simp
   all_goals omega
  go_simp
  refine ta 5 (.pointer (some ⟨g,3,none⟩)) ?_ ?_
  ·intro w
   go_simp
   all_goals omega
  go_simp
  refine ta 6 (.pointer (some ⟨g,3,none⟩)) ?_ ?_
  ·intro w
   go_simp
   all_goals omega
  go_simp
  refine r1 7 (fun K hK=>?_)
  go_simp
  refine hK _ _ ?_
  clear hK K
  go_simp
  refine ta 8 (.bool false) ?_ ?_
  ·intro w
   go_simp
   all_goals omega
  go_simp
  refine r1 9 (fun K hK=>?_)
  go_simp
  refine kN.out.mono ?_
  rintro e w2 ⟨rfl,rfl⟩
  go_simp
  exact⟨rfl,eD.out,.inl ⟨by first|rfl|trivial,rfl⟩⟩
 ·rw[hy] at hint
  have hk:Rf.kind T n=116:=by simpa using hy
  obtain rfl:=h.cur.txt hk
  have kY:=mkHid (scNeedYes g w.drew)
  have kA:=mkHid (hD.adv hl hs (by rw[hk];decide) (by rw[hk];decide))
  have Hk:=mkHid hk
  clear h hD hkk bD hy hk
  obtain⟨xb,hxb⟩:∃xb,Rf.ba (Rf.text T n)=xb:=⟨_,rfl⟩
  rw[show(⟨(Rf.text T n).toArray⟩:ByteArray)=xb from hxb] at c4
  rw[hxb]
  clear hxb
  go_enter Tryz.func182,Tryz.ntmps182
  go_wp2
  refine wp_region_any (by kernel_rfl) ?_
  refine ta 0 (scp g) ?_ ?_
  ·intro w
   go_simp
   all_goals omega
  go_simp
  refine ta 1 (.pointer (some ⟨g,0,none⟩)) ?_ ?_
  ·intro w
   go_simp
   all_goals omega
  go_simp
  refine ta 2 (.pointer (some ⟨g,0,none⟩)) ?_ ?_
  ·intro w
   go_simp
   all_goals omega
  go_simp
  refine ta 3 (scp g) ?_ ?_
  ·intro w
   go_simp
   all_goals omega
  go_simp
  refine ta 4 (.pointer (some ⟨g,0,none⟩)) ?_ ?_
  ·intro w
   go_simp
   all_goals omega
  go_simp
  refine ta 5 (.pointer (some ⟨g,3,none⟩)) ?_ ?_
  ·intro w
   go_simp
   all_goals omega
  go_simp
  refine ta 6 (.pointer (some ⟨g,3,none⟩)) ?_ ?_
  ·intro w
   go_simp
   all_goals omega
  go_simp
  refine r1 7 (fun K hK=>?_)
  go_simp
  refine hK _ _ ?_
  clear hK K
  go_simp
  refine ta 8 (.bool true) ?_ ?_
  ·intro w
   go_simp
   all_goals omega
  go_simp
  refine r1 9 (fun K hK=>?_)
  go_simp
  refine kY.out.mono ?_
  rintro e w2 ⟨rfl,rfl⟩
  go_simp
  refine hK _ _ ?_
  clear hK K
  go_simp
  refine wpAny_done (by kernel_rfl) ?_ _
  go_wp2_with (go_at_call 147;fail)
  refine kA.out.mono ?_
  rintro e w3 ⟨e3,⟨kd',x',a',rfl,h3⟩|⟨m1,m2,rfl⟩⟩
  ·replace h3:=mkHid h3
   replace e3:=mkHid (eD.out.trans0 e3)
   go_wp2
   go_ret
   exact⟨e3.out,.inr ⟨Hk.out,.inl ⟨kd',x',a',rfl,h3.out⟩⟩⟩
  ·exact⟨rfl,eD.out.trans0 e3,.inr ⟨Hk.out,.inr ⟨m1,m2,rfl⟩⟩⟩
theorem kindTst:KindI 222 Fn.isTest:=⟨Go.Proofs.enters_of Tryz.func222 (by kernel_rfl) rfl,implIsTest⟩
theorem kindCmd:KindI 176 Fn.isCmd:=⟨Go.Proofs.enters_of Tryz.func176 (by kernel_rfl) rfl,implIsCmd⟩
theorem prKind {f:FuncId} {K:Int→Bool} (hK:KindI f K)(h:Ps g s l T n kd x a v E w)(hl:s.data.toList=l)(hs:s.size≤100000)(hF:FTab w)(hn:(kd==1 && K (Rf.lk x))=true→Rf.kind T n≠101∧Rf.kind T n≠120) :
  Calls Tryz.prog 175 #[scp g,.func (.func f) #[] #[]] w fun e w'=>Ef g none w w'∧(((kd==1 && K (Rf.lk x))=false∧e=faultAt (Rf.pos T n))∨((kd==1 && K (Rf.lk x))=true∧((∃kd' x' a',e=.returned (.int .i64 (Rf.lk x))∧Ps g s l T (n+1) kd' x' a' v E w')∨Xf T (n+1) e))):=by
 have hEn:=hK.enters
 have c4:=h.sc.c4
 have kM:=mkHid (implKindNamed x w hF)
 obtain⟨xb,hxb⟩:∃xb:ByteArray,⟨x.toArray⟩=xb:=⟨_,rfl⟩
 rw[hxb] at c4 kM
 obtain⟨k,hk⟩:∃k,Rf.lk x=k:=⟨_,rfl⟩
 rw[hk] at kM hn ⊢
 replace hn:=mkHid hn
 have H:=mkHid h
 have kC:=mkHid (fun W=>hK.calls k W)
 have kN:=mkHid (fun (W:World) (h:Ps g s l T n kd x a v E W)=>scNeedNo g s a (Rf.pos T n) W h.sc)
 have kY:=mkHid (fun (W:World)=>scNeedYes g W)
 have eB:=mkHid (fun (W:World) (h:Below w.heap.size w W)=>Ef.of_below (g:=g) (r:=none) h)
 clear h hxb hF hK
 go_enter Tryz.func175,Tryz.ntmps175
 go_wp2_with (go_at_call 202;fail)
 refine kM.out.mono ?_
 rintro e w1 ⟨rfl,hb1⟩
 have bD:Below w1.heap.size w1 w1.drew:=below_drew (Below.refl _ _)
 have H1:=mkHid ((H.out.below hb1).below bD)
 have eD:=mkHid (eB.out _ (hb1.trans (bD.mono hb1.size)))
 have c3:=H1.out.sc.c3
 clear kM hb1 bD c4
 cases hkd:(kd==1)
 ·have hint:((kd:Int)==1)=false:=by rw[beq_eq_false_iff_ne] at hkd ⊢;omega
  go_wp2
  refine wp_region_any (by kernel_rfl) ?_
  refine ta 0 (scp g) ?_ ?_
  ·intro w
   go_simp
   all_goals omega
  go_simp
  refine ta 1 (.pointer (some ⟨g,0,none⟩)) ?_ ?_
  ·intro w
   go_simp
   all_goals omega
  go_simp
  refine ta 2 (.pointer (some ⟨g,0,none⟩)) ?_ ?_
  ·intro w
   go_simp
   all_goals omega
  go_simp
  refine ta 3 (scp g) ?_ ?_
  ·intro w
   go_simp
   all_goals omega
  go_simp
  refine ta 4 (.pointer (some ⟨g,0,none⟩)) ?_ ?_
  ·intro w
   go_simp
   all_goals omega
  go_simp
  refine ta 5 (.pointer (some ⟨g,3,none⟩)) ?_ ?_
  ·intro w
   go_simp
   all_goals omega
  go_simp
  refine ta 6 (.pointer (some ⟨g,3,none⟩)) ?_ ?_
  ·intro w
   go_simp
   all_goals omega
  go_simp
  refine r1 7 (fun K hK=>?_)
  go_simp
  refine hK _ _ ?_
  clear hK K
  go_simp
  refine ta 8 (.bool false) ?_ ?_
  ·intro w
   go_simp
   all_goals omega
  go_simp
  refine ta 9 (.bool false) ?_ ?_
  ·intro w
   go_simp
   all_goals omega
  go_simp
  refine tb 10 ?_
  go_simp
  refine tb 11 ?_
  go_simp
  refine wpAny_all (rs:=[12]) (by kernel_rfl) (by simp) ?_
  intro j hj
  simp only[List.mem_cons,List.not_mem_nil,or_false] at hj
  subst hj
  refine Yields.wpOp (v:=undef) rfl (Or.inr ⟨by rfl,rfl⟩) ?_
  go_simp
  refine ta 13 (.bool false) ?_ ?_
  ·intro w
   go_simp
   all_goals omega
  go_simp
  refine r1 14 (fun K hK=>?_)
  go_simp
  refine(kN.out _ H1.out).mono ?_
  rintro e w2 ⟨rfl,rfl⟩
  go_simp
  exact⟨rfl,eD.out,.inl ⟨by rw[hkd];rfl,rfl⟩⟩
 ·have hint:((kd:Int)==1)=true:=by rw[beq_iff_eq] at hkd ⊢;omega
  cases hKk:K k
  ·rw[hKk] at kC
   go_wp2
   refine wp_region_any (by kernel_rfl) ?_
   refine ta 0 (scp g) ?_ ?_
   ·intro w
    go_simp
    all_goals omega
   go_simp
   refine ta 1 (.pointer (some ⟨g,0,none⟩)) ?_ ?_
   ·intro w
    go_simp
    all_goals omega
   go_simp
   refine ta 2 (.pointer (some ⟨g,0,none⟩)) ?_ ?_
   ·intro w
    go_simp
    all_goals omega
   go_simp
   refine ta 3 (scp g) ?_ ?_
   ·intro w
    go_simp
    all_goals omega
   go_simp
   refine ta 4 (.pointer (some ⟨g,0,none⟩)) ?_ ?_
   ·intro w
    go_simp
    all_goals omega
   go_simp
   refine ta 5 (.pointer (some ⟨g,3,none⟩)) ?_ ?_
   ·intro w
    go_simp
    all_goals omega
   go_simp
   refine ta 6 (.pointer (some ⟨g,3,none⟩)) ?_ ?_
   ·intro w
    go_simp
    all_goals omega
   go_simp
   refine r1 7 (fun K hK=>?_)
   go_simp
   refine hK _ _ ?_
   clear hK K
   go_simp
   refine ta 8 (.bool true) ?_ ?_
   ·intro w
    go_simp
    all_goals omega
   go_simp
   refine ta 9 (.bool true) ?_ ?_
   ·intro w
    go_simp
    all_goals omega
   go_simp
   refine ta 10 (.func (.func f) #[] #[]) ?_ ?_
   ·intro w
    go_simp
    all_goals omega
   go_simp
   refine ta 11 (.int .i64 k) ?_ ?_
   ·intro w
    go_simp
    all_goals omega
   go_simp
   refine r1 12 (fun K hK=>?_)
   go_simp
   refine(kC.out _).mono ?_
   rintro e w2 ⟨rfl,rfl⟩
   go_simp
   refine hK _ _ ?_
   clear hK K
   go_simp
   refine ta 13 (.bool false) ?_ ?_
   ·intro w
    go_simp
    all_goals omega
   go_simp
   refine r1 14 (fun K hK=>?_)
   go_simp
   refine(kN.out _ H1.out).mono ?_
   rintro e w2 ⟨rfl,rfl⟩
   go_simp
   exact⟨rfl,eD.out,.inl ⟨by rw[hkd,hKk];rfl,rfl⟩⟩
  ·rw[hKk] at kC
   go_wp2
   refine wp_region_any (by kernel_rfl) ?_
   refine ta 0 (scp g) ?_ ?_
   ·intro w
    go_simp
    all_goals omega
   go_simp
   refine ta 1 (.pointer (some ⟨g,0,none⟩)) ?_ ?_
   ·intro w
    go_simp
    all_goals omega
   go_simp
   refine ta 2 (.pointer (some ⟨g,0,none⟩)) ?_ ?_
   ·intro w
    go_simp
    all_goals omega
   go_simp
   refine ta 3 (scp g) ?_ ?_
   ·intro w
    go_simp
    all_goals omega
   go_simp
   refine ta 4 (.pointer (some ⟨g,0,none⟩)) ?_ ?_
   ·intro w
    go_simp
    all_goals omega
   go_simp
   refine ta 5 (.pointer (some ⟨g,3,none⟩)) ?_ ?_
   ·intro w
    go_simp
    all_goals omega
   go_simp
   refine ta 6 (.pointer (some ⟨g,3,none⟩)) ?_ ?_
   ·intro w
    go_simp
    all_goals omega
   go_simp
   refine r1 7 (fun K hK=>?_)
   go_simp
   refine hK _ _ ?_
   clear hK K
   go_simp
   refine ta 8 (.bool true) ?_ ?_
   ·intro w
    go_simp
    all_goals omega
   go_simp
   refine ta 9 (.bool true) ?_ ?_
   ·intro w
    go_simp
    all_goals omega
   go_simp
   refine ta 10 (.func (.func f) #[] #[]) ?_ ?_
   ·intro w
    go_simp
    all_goals omega
   go_simp
   refine ta 11 (.int .i64 k) ?_ ?_
   ·intro w
    go_simp
    all_goals omega
   go_simp
   refine r1 12 (fun K hK=>?_)
   go_simp
   refine(kC.out _).mono ?_
   rintro e w2 ⟨rfl,rfl⟩
   go_simp
   refine hK _ _ ?_
   clear hK K
   go_simp
   refine ta 13 (.bool true) ?_ ?_
   ·intro w
    go_simp
    all_goals omega
   go_simp
   refine r1 14 (fun K hK=>?_)
   go_simp
   refine(kY.out _).mono ?_
   rintro e w3 ⟨rfl,rfl⟩
   go_simp
   refine hK _ _ ?_
   clear hK K
   go_simp
   refine wpAny_done (by kernel_rfl) ?_ _
   obtain⟨hn1,hn2⟩:=hn.out (by rw[hkd,hKk];rfl)
   have kA:=mkHid (H1.out.adv hl hs hn1 hn2)
   go_wp2_with (go_at_call 147;fail)
   refine kA.out.mono ?_
   rintro e w3 ⟨e3,⟨kd',x',a',rfl,h3⟩|⟨m1,m2,rfl⟩⟩
   ·replace h3:=mkHid h3
    replace e3:=mkHid (eD.out.trans0 e3)
    go_wp2
    go_ret
    exact⟨e3.out,.inr ⟨by rw[hkd,hKk];rfl,.inl ⟨kd',x',a',rfl,h3.out⟩⟩⟩
   ·exact⟨rfl,eD.out.trans0 e3,.inr ⟨by rw[hkd,hKk];rfl,.inr ⟨m1,m2,rfl⟩⟩⟩
end
theorem Rf.num_dec:∀(l:List UInt8)(a:Nat),l.all Rf.digK=true→Lib.decFrom a l=some (Rf.numF a l):=by
 intro l
 induction l with
 | nil=>intro a _;rfl
 | cons c r ih=>
  intro a hd
  simp only[List.all_cons,Bool.and_eq_true] at hd
  have hc:48≤c.toNat∧c.toNat≤57:=by simpa [Rf.digK] using hd.1
  have e:=ih (10*a+(c.toNat-48)) hd.2
  simp only[Lib.decFrom,Lib.digitVal,if_pos hc]
  rw[show a*10+(c.toNat-48)=10*a+(c.toNat-48) by omega]
  exact e
theorem Rf.num_parse (l:List UInt8)(hd:l.all Rf.digK=true)(h0:l ≠ [])(hl:l.length≤9):Lib.parseIntB 64 l=.ok (Rf.num l:Int):=by
 have hlt:=Rf.num_lt l hd hl
 have hm:=Lib.parseMag_short l (by omega)
 have hn:=Rf.num_dec l 0 hd
 cases l with
 | nil=>exact absurd rfl h0
 | cons c r=>
  have hc:48≤c.toNat∧c.toNat≤57:=by
   simp only[List.all_cons,Bool.and_eq_true] at hd
   simpa [Rf.digK] using hd.1
  rw[Lib.parseIntB_plain 64 c r (by omega) (by omega),Lib.parseUintB_64,hm]
  have hn':Lib.decNat (c::r)=some (Rf.num (c::r)):=hn
  generalize Rf.num (c::r)=v at *
  rw[hn']
  show Lib.signlessC (2 ^ (64-1)) (.ok v)=_
  unfold Lib.signlessC
  dsimp only
  rw[if_neg (by omega)]
structure Er (w:World):Prop where
 syn:∃ev,w.cell? ⟨3,0,none⟩=some ev∧(ev=.nilIface∨∃ te pe,ev=.iface te pe)
 rng:∃ev,w.cell? ⟨4,0,none⟩=some ev∧(ev=.nilIface∨∃ te pe,ev=.iface te pe)
theorem prNumOf (x:ByteArray)(w:World)(hs:x.size≤1000000)(hE:Er w) :
  Calls Tryz.prog 205 #[.string x] w fun e w'=>∃ z:Int,e=.returned (.int .i64 z)∧Below w.heap.size w w'∧Hid (∀y,Lib.parseIntB 64 x.data.toList=.ok y→z=y):=by
 cases hp:Lib.parseIntB 64 x.data.toList with
 | ok y=>
  have cP:=mkHid ((Tryz.strconv_ParseInt_10_at64_ok x (by omega) y hp w).mono (fun e w' (h:_∧(w'=w∨∃ t,w'=Lib.bytesWorld w 5 t))=>(⟨h.1,by
   rcases h.2 with rfl|⟨t,rfl⟩
   ·exact Below.refl _ _
   ·exact bytesWorld_below _ _ _⟩:e=.returned (.tuple #[.int .i64 y,.nilIface])∧Below w.heap.size w w')))
  clear hp hE
  go_enter Tryz.func205,Tryz.ntmps205
  go_wp2_with (go_at_call 226;fail)
  refine cP.out.mono ?_
  rintro e w1 ⟨rfl,hb⟩
  go_wp2
  go_ret
  exact⟨y,rfl,hb,fun y' h=>by cases h;rfl⟩
 | «syntax»=>
  obtain⟨ev,h1,h2⟩:=hE.syn
  have cP:=mkHid (Tryz.strconv_ParseInt_10_at64_syntax x (by omega) hp ev w h1 h2)
  clear hp hE h1 h2
  go_enter Tryz.func205,Tryz.ntmps205
  go_wp2_with (go_at_call 226;fail)
  refine cP.out.mono ?_
  rintro e w1 ⟨N,rfl,-,-,hb⟩
  go_wp2
  go_ret
  exact⟨0,rfl,hb,fun y' h=>by cases h⟩
 | range=>
  obtain⟨ev,h1,h2⟩:=hE.rng
  have cP:=mkHid (Tryz.strconv_ParseInt_10_at64_range x (by omega) hp ev w h1 h2)
  clear hp hE h1 h2
  generalize Lib.intSat 64 x.data.toList=q at *
  go_enter Tryz.func205,Tryz.ntmps205
  go_wp2_with (go_at_call 226;fail)
  refine cP.out.mono ?_
  rintro e w1 ⟨N,rfl,-,-,hb⟩
  go_wp2
  go_ret
  exact⟨0,rfl,hb,fun y' h=>by cases h⟩
section
variable {g:Nat} {s:ByteArray} {l:List UInt8} {T:List Rf.Tk} {n kd:Nat} {x:List UInt8} {a:Nat} {v:Value} {E:List NdE} {w:World}
def GoodT (T:List Rf.Tk):Prop:=∀t ∈ T,t.kind=110→1≤t.text.length∧t.text.length≤9∧t.text.all Rf.digK=true
theorem GoodT.at (h:GoodT T)(n:Nat)(hn:n<T.length)(hk:Rf.kind T n=110):Lib.parseIntB 64 (Rf.text T n)=.ok (Rf.num (Rf.text T n):Int):=by
 unfold Rf.kind at hk
 rw[List.getElem?_eq_getElem hn] at hk
 obtain⟨h1,h2,h3⟩:=h _ (List.getElem_mem hn) hk
 have e:Rf.text T n=T[n].text:=by unfold Rf.text;rw[List.getElem?_eq_getElem hn];rfl
 rw[e]
 exact Rf.num_parse _ h3 (fun e=>by rw[e] at h1;simp at h1) h2
theorem prNumber (h:Ps g s l T n kd x a v E w)(hl:s.data.toList=l)(hs:s.size≤100000)(hE:Er w)(hT:GoodT T)(m:Nat) :
  Calls Tryz.prog 178 #[scp g,.int .i64 (m:Int)] w fun e w'=>Ef g none w w'∧(((Rf.kind T n==110 && decide (Rf.num (Rf.text T n)≤m))=false∧e=faultAt (Rf.pos T n))∨((Rf.kind T n==110 && decide (Rf.num (Rf.text T n)≤m))=true∧((∃kd' x' a',e=.returned (.int .i64 (Rf.num (Rf.text T n):Int))∧Ps g s l T (n+1) kd' x' a' v E w')∨Xf T (n+1) e))):=by
 have c4:=h.sc.c4
 have hxs:x.length≤100000:=by
  have:=h.cur.small
  have:l.length=s.size:=by rw[← hl];simp
  omega
 have kM:=mkHid (prNumOf ⟨x.toArray⟩ w (by simp[ByteArray.size];omega) hE)
 have hxx:(⟨x.toArray⟩:ByteArray).data.toList=x:=by simp
 rw[hxx] at kM
 obtain⟨xb,hxb⟩:∃xb:ByteArray,⟨x.toArray⟩=xb:=⟨_,rfl⟩
 rw[hxb] at c4 kM
 have hkk:=h.cur.kd_eq 2 (.inl rfl)
 rw[if_pos rfl] at hkk
 have hint:((kd:Int)==2)=(Rf.kind T n==110):=by
  rw[← hkk,Bool.eq_iff_iff,beq_iff_eq,beq_iff_eq]
  omega
 have H:=mkHid h
 have kN:=mkHid (fun (W:World) (h:Ps g s l T n kd x a v E W)=>scNeedNo g s a (Rf.pos T n) W h.sc)
 have kY:=mkHid (fun (W:World)=>scNeedYes g W)
 have eB:=mkHid (fun (W:World) (h:Below w.heap.size w W)=>Ef.of_below (g:=g) (r:=none) h)
 have hval:Hid (Rf.kind T n=110→Lib.parseIntB 64 x=.ok (Rf.num (Rf.text T n):Int)):=fun hk=>by
  rw[h.cur.num hk]
  exact hT.at n h.cur.lt hk
 clear h hxb hE hT hxs hxx hkk
 go_enter Tryz.func178,Tryz.ntmps178
 go_wp2_with (go_at_call 205;fail)
 refine kM.out.mono ?_
 rintro e w1 ⟨z,rfl,hb1,hz⟩
 have bD:Below w1.heap.size w1 w1.drew:=below_drew (Below.refl _ _)
 have H1:=mkHid ((H.out.below hb1).below bD)
 have eD:=mkHid (eB.out _ (hb1.trans (bD.mono hb1.size)))
 have c3:=H1.out.sc.c3
 clear kM hb1 bD c4
 cases hy:(Rf.kind T n==110)
 ·rw[hy] at hint
  go_wp2
  refine wp_region_any (by kernel_rfl) ?_
  refine ta 0 (scp g) ?_ ?_
  ·intro w
   go_simp
   all_goals omega
  go_simp
  refine ta 1 (.pointer (some ⟨g,0,none⟩)) ?_ ?_
  ·intro w
   go_simp
   all_goals omega
  go_simp
  refine ta 2 (.pointer (some ⟨g,0,none⟩)) ?_ ?_
  ·intro w
   go_simp
   all_goals omega
  go_simp
  refine ta 3 (scp g) ?_ ?_
  ·intro w
   go_simp
   all_goals omega
  go_simp
  refine ta 4 (.pointer (some ⟨g,0,none⟩)) ?_ ?_
  ·intro w
   go_simp
   all_goals omega
  go_simp
  refine ta 5 (.pointer (some ⟨g,3,none⟩)) ?_ ?_
  ·intro w
   go_simp
   all_goals omega
  go_simp
  refine ta 6 (.pointer (some ⟨g,3,none⟩)) ?_ ?_
  ·intro w
   go_simp
   all_goals omega
  go_simp
  refine r1 7 (fun K hK=>?_)
  go_simp
  refine hK _ _ ?_
  clear hK K
  go_simp
  refine ta 8 (.bool false) ?_ ?_
  ·intro w
   go_simp
   all_goals omega
  go_simp
  refine ta 9 (.bool false) ?_ ?_
  ·intro w
   go_simp
   all_goals omega
  go_simp
  refine tb 10 ?_
  go_simp
  refine tb 11 ?_
  go_simp
  refine tb 12 ?_
  go_simp
  refine ta 13 (.bool false) ?_ ?_
  ·intro w
   go_simp
   all_goals omega
  go_simp
  refine r1 14 (fun K hK=>?_)
  go_simp
  refine(kN.out _ H1.out).mono ?_
  rintro e w2 ⟨rfl,rfl⟩
  go_simp
  exact⟨rfl,eD.out,.inl ⟨by rw[hy];rfl,rfl⟩⟩
 ·rw[hy] at hint
  have hk:Rf.kind T n=110:=by simpa using hy
  obtain rfl:z=(Rf.num (Rf.text T n):Int):=hz.out _ (hval.out hk)
  clear hval hz
  obtain⟨q,hq⟩:∃q,Rf.num (Rf.text T n)=q:=⟨_,rfl⟩
  simp only[hq]
  have Hk:=mkHid hk
  have Hq:=mkHid hq
  have Hy:=mkHid hy
  clear hk hq hy
  by_cases hm:q≤m
  ·have dm:decide ((q:Int)≤(m:Int))=true:=decide_eq_true (by omega)
   have kA:=mkHid (H1.out.adv hl hs (by rw[Hk.out];decide) (by rw[Hk.out];decide))
   go_wp2
   refine wp_region_any (by kernel_rfl) ?_
   refine ta 0 (scp g) ?_ ?_
   ·intro w
    go_simp
    all_goals omega
   go_simp
   refine ta 1 (.pointer (some ⟨g,0,none⟩)) ?_ ?_
   ·intro w
    go_simp
    all_goals omega
   go_simp
   refine ta 2 (.pointer (some ⟨g,0,none⟩)) ?_ ?_
   ·intro w
    go_simp
    all_goals omega
   go_simp
   refine ta 3 (scp g) ?_ ?_
   ·intro w
    go_simp
    all_goals omega
   go_simp
   refine ta 4 (.pointer (some ⟨g,0,none⟩)) ?_ ?_
   ·intro w
    go_simp
    all_goals omega
   go_simp
   refine ta 5 (.pointer (some ⟨g,3,none⟩)) ?_ ?_
   ·intro w
    go_simp
    all_goals omega
   go_simp
   refine ta 6 (.pointer (some ⟨g,3,none⟩)) ?_ ?_
   ·intro w
    go_simp
    all_goals omega
   go_simp
   refine r1 7 (fun K hK=>?_)
   go_simp
   refine hK _ _ ?_
   clear hK K
   go_simp
   refine ta 8 (.bool true) ?_ ?_
   ·intro w
    go_simp
    all_goals omega
   go_simp
   refine ta 9 (.bool true) ?_ ?_
   ·intro w
    go_simp
    all_goals omega
   go_simp
   refine ta 10 (.int .i64 (q:Int)) ?_ ?_
   ·intro w
    go_simp
    all_goals omega
   go_simp
   refine ta 11 (.int .i64 (m:Int)) ?_ ?_
   ·intro w
    go_simp
    all_goals omega
   go_simp
   refine ta 12 (.bool true) ?_ ?_
   ·intro w
    go_simp
    all_goals omega
   go_simp
   refine ta 13 (.bool true) ?_ ?_
   ·intro w
    go_simp
    all_goals omega
   go_simp
   refine r1 14 (fun K hK=>?_)
   go_simp
   refine(kY.out _).mono ?_
   rintro e w3 ⟨rfl,rfl⟩
   go_simp
   refine hK _ _ ?_
   clear hK K
   go_simp
   refine wpAny_done (by kernel_rfl) ?_ _
   go_wp2_with (go_at_call 147;fail)
   refine kA.out.mono ?_
   rintro e w3 ⟨e3,⟨kd',x',a',rfl,h3⟩|⟨m1,m2,rfl⟩⟩
   ·replace h3:=mkHid h3
    replace e3:=mkHid (eD.out.trans0 e3)
    go_wp2
    go_ret
    exact⟨e3.out,.inr ⟨by rw[Hy.out,Hq.out,decide_eq_true hm];rfl,.inl ⟨kd',x',a',congrArg (fun z:Nat=>Ending.returned (.int .i64 (z:Int))) Hq.out.symm,h3.out⟩⟩⟩
   ·exact⟨rfl,eD.out.trans0 e3,.inr ⟨by rw[Hy.out,Hq.out,decide_eq_true hm];rfl,.inr ⟨m1,m2,rfl⟩⟩⟩
  ·have dm:decide ((q:Int)≤(m:Int))=false:=decide_eq_false (by omega)
   go_wp2
   refine wp_region_any (by kernel_rfl) ?_
   refine ta 0 (scp g) ?_ ?_
   ·intro w
    go_simp
    all_goals omega
   go_simp
   refine ta 1 (.pointer (some ⟨g,0,none⟩)) ?_ ?_
   ·intro w
    go_simp
    all_goals omega
   go_simp
   refine ta 2 (.pointer (some ⟨g,0,none⟩)) ?_ ?_
   ·intro w
    go_simp
    all_goals omega
   go_simp
   refine ta 3 (scp g) ?_ ?_
   ·intro w
    go_simp
    all_goals omega
   go_simp
   refine ta 4 (.pointer (some ⟨g,0,none⟩)) ?_ ?_
   ·intro w
    go_simp
    all_goals omega
   go_simp
   refine ta 5 (.pointer (some ⟨g,3,none⟩)) ?_ ?_
   ·intro w
    go_simp
    all_goals omega
   go_simp
   refine ta 6 (.pointer (some ⟨g,3,none⟩)) ?_ ?_
   ·intro w
    go_simp
    all_goals omega
   go_simp
   refine r1 7 (fun K hK=>?_)
   go_simp
   refine hK _ _ ?_
   clear hK K
   go_simp
   refine ta 8 (.bool true) ?_ ?_
   ·intro w
    go_simp
    all_goals omega
   go_simp
   refine ta 9 (.bool true) ?_ ?_
   ·intro w
    go_simp
    all_goals omega
   go_simp
   refine ta 10 (.int .i64 (q:Int)) ?_ ?_
   ·intro w
    go_simp
    all_goals omega
   go_simp
   refine ta 11 (.int .i64 (m:Int)) ?_ ?_
   ·intro w
    go_simp
    all_goals omega
   go_simp
   refine ta 12 (.bool false) ?_ ?_
   ·intro w
    go_simp
    all_goals omega
   go_simp
   refine ta 13 (.bool false) ?_ ?_
   ·intro w
    go_simp
    all_goals omega
   go_simp
   refine r1 14 (fun K hK=>?_)
   go_simp
   refine(kN.out _ H1.out).mono ?_
   rintro e w2 ⟨rfl,rfl⟩
   go_simp
   exact⟨rfl,eD.out,.inl ⟨by rw[Hy.out,Hq.out,decide_eq_false hm];rfl,rfl⟩⟩
end
def marr:Array Value:=#[.string ⟨#[58,105,115]⟩,.string ⟨#[58,99,111,110,116,97,105,110,115]⟩,.string ⟨#[58,109,97,116,99,104,101,115]⟩]
def mwT:Nat→List UInt8
 | 0=>Rf.wIs
 | 1=>Rf.wContains
 | 2=>Rf.wMatches
 | _=>[]
theorem mw_at (i:Nat)(hi:i<3)(w:World):(Instr.index 239 (.agg marr) (.int .i64 i)).run Tryz.prog w=.ok (.string ⟨(mwT i).toArray⟩) w:=by
 rcases (show i=0∨i=1∨i=2 by omega) with rfl|rfl|rfl<;>kernel_rfl
def MTab (w:World):Prop:=∃t fr,w.heap[2]?=some (.cells marr t fr)
theorem mw_cls (i:Nat)(hi:i<3):Rf.cls (mwT i)=58:=by
 rcases (show i=0∨i=1∨i=2 by omega) with rfl|rfl|rfl<;>rfl
section
variable {g:Nat} {s:ByteArray} {l:List UInt8} {T:List Rf.Tk} {n kd:Nat} {x:List UInt8} {a:Nat} {v:Value} {E:List NdE} {w:World}
theorem matchOf_at (T:List Rf.Tk)(n i:Nat)(hi:i<3)(h1:∀j,j<i→Rf.is T n 58 (mwT j)=false)(h2:Rf.is T n 58 (mwT i)=true):Rf.matchOf T n=some (i:Int):=by
 unfold Rf.matchOf
 rcases (show i=0∨i=1∨i=2 by omega) with rfl|rfl|rfl
 ·have b:Rf.is T n 58 Rf.wIs=true:=h2
  rw[if_pos b];rfl
 ·have a0:Rf.is T n 58 Rf.wIs=false:=h1 0 (by omega)
  have b:Rf.is T n 58 Rf.wContains=true:=h2
  rw[if_neg (Bool.eq_false_iff.1 a0),if_pos b];rfl
 ·have a0:Rf.is T n 58 Rf.wIs=false:=h1 0 (by omega)
  have a1:Rf.is T n 58 Rf.wContains=false:=h1 1 (by omega)
  have b:Rf.is T n 58 Rf.wMatches=true:=h2
  rw[if_neg (Bool.eq_false_iff.1 a0),if_neg (Bool.eq_false_iff.1 a1),if_pos b];rfl
theorem matchOf_no (T:List Rf.Tk)(n:Nat)(h1:∀j,j<3→Rf.is T n 58 (mwT j)=false):Rf.matchOf T n=none:=by
 have a0:Rf.is T n 58 Rf.wIs=false:=h1 0 (by omega)
 have a1:Rf.is T n 58 Rf.wContains=false:=h1 1 (by omega)
 have a2:Rf.is T n 58 Rf.wMatches=false:=h1 2 (by omega)
 unfold Rf.matchOf
 rw[if_neg (Bool.eq_false_iff.1 a0),if_neg (Bool.eq_false_iff.1 a1),if_neg (Bool.eq_false_iff.1 a2)]
theorem prMatch (h:Ps g s l T n kd x a v E w)(hl:s.data.toList=l)(hs:s.size≤100000)(hM:MTab w) :
  Calls Tryz.prog 224 #[scp g] w fun e w'=>Ef g none w w'∧((Rf.matchOf T n=none∧e=faultAt (Rf.pos T n))∨(∃k:Int,Rf.matchOf T n=some k∧((∃kd' x' a',e=.returned (.int .i64 k)∧Ps g s l T (n+1) kd' x' a' v E w')∨Xf T (n+1) e))):=by
 have H:=mkHid h
 obtain⟨tm,fr,hM⟩:=hM
 have HM:=mkHid hM
 clear h hM
 go_enter Tryz.func224,Tryz.ntmps224
 go_wp2_with (first|(refine wpL_load_row rfl 239 _ rfl 2 _ tm fr _ rfl HM.out Tryz.underlying239 rfl (by kernel_rfl) ?_)|go_in)
 go_loopw [6] (fun u wr=>∃ i:Nat,u=.int .i64 i∧i≤3∧Hid (∀j,j<i→Rf.is T n 58 (mwT j)=false)∧Hid (Ps g s l T n kd x a v E wr)∧Hid (Ef g none w wr)) (fun u _=>3-(Lib.intOf u).toNat)
 case atStart=>exact⟨0,rfl,by omega,fun j hj=>absurd hj (Nat.not_lt_zero _),H,Ef.refl2 _ _ _⟩
 case round=>
  clear H
  obtain⟨i,rfl,hi3,hno,H,He⟩:=hrel
  by_cases hi:i<3
  ·have f1:(i:Int)<3:=by omega
   have hix:=fun w=>mw_at i hi w
   have hcl:=mw_cls i hi
   have kT:=mkHid (prTakes H.out hl hs (mwT i) (by rw[hcl];decide) (by rw[hcl];decide))
   rw[hcl] at kT
   have hmt:=mkHid (matchOf_at T n i hi hno.out)
   have hnx:Hid (Rf.is T n 58 (mwT i)=false→∀j,j<i+1→Rf.is T n 58 (mwT j)=false):=fun h0 j hj=>by
    by_cases hji:j<i
    ·exact hno.out j hji
    ·obtain rfl:j=i:=by omega
     exact h0
   clear hcl
   generalize (⟨(mwT i).toArray⟩:ByteArray)=t at *
   go_wp2_with (go_at_call 204;fail)
   refine kT.out.mono ?_
   rintro e w1 ⟨e1,⟨h0,rfl,h1⟩|⟨h0,⟨kd',x',a',rfl,h1⟩|⟨m1,m2,rfl⟩⟩⟩
   ·replace h1:=mkHid h1
    replace e1:=mkHid (He.out.trans0 e1)
    replace hnx:=mkHid (hnx.out h0)
    clear kT h0
    go_wp2
    go_roundw
    case rel=>exact⟨i+1,by go_num,by omega,hnx,h1,e1⟩
    case measure=>simp[Lib.intOf];omega
   ·replace h1:=mkHid h1
    replace e1:=mkHid (He.out.trans0 e1)
    replace hmt:=mkHid (hmt.out h0)
    clear kT h0
    go_wp2
    go_ret
    exact⟨e1.out,.inr ⟨(i:Int),hmt.out,.inl ⟨kd',x',a',rfl,h1.out⟩⟩⟩
   ·exact⟨rfl,He.out.trans0 e1,.inr ⟨(i:Int),hmt.out h0,.inr ⟨m1,m2,rfl⟩⟩⟩
  ·obtain rfl:i=3:=by omega
   have hn:=mkHid (matchOf_no T n hno.out)
   have kF:=mkHid (scFail g s a (Rf.pos T n) wr H.out.sc)
   go_wp2_with (go_at_call 206;fail)
   refine kF.out.mono ?_
   rintro e w1 ⟨rfl,rfl⟩
   exact⟨rfl,He.out,.inl ⟨hn.out,rfl⟩⟩
def TxO (g:Nat)(s:ByteArray)(l:List UInt8)(T:List Rf.Tk)(v:Value)(E:List NdE)(B:Nat)(r:Rf.TO)(e:Ending)(w':World):Prop:=
 match r with
 | .ok n' M=>(∃o c kd' x' a',e=.returned (.slice o M.length c)∧OwnX B (.slice o M.length c) M w'∧Ps g s l T n' kd' x' a' v E w')∨Xf T n' e
 | .bad j=>e=faultAt (Rf.pos T j)
theorem OwnX.ef {B g:Nat} {u:Value} {M:List ByteArray} {w w':World} (h:OwnX B u M w)(he:Ef g none w w')(hg:g<B):OwnX B u M w':=own_keep1 h fun k hk=>he.keep k (World.ownsRow.lt h k hk).2 (by have:=(World.ownsRow.lt h k hk).1;omega) (by simp)
theorem Nt.ef {g:Nat} {v:Value} {E:List NdE} {w w':World} (h:Nt (g+1) v E w)(he:Ef g none w w'):Nt (g+1) v E w':=by
 have key:∀(x:Value),(∀k,x.ownBlock=some k→g+1≤k∧k<w.heap.size)→∀k,x.ownBlock=some k→w'.heap[k]?=w.heap[k]?:=fun x hx k hk=>he.keep k (hx k hk).2 (by have:=(hx k hk).1;omega) (by simp)
 exact⟨own_keep1 h.row (key _ (World.ownsRow.lt h.row)),fun s hs=>⟨(h.own s hs).1,fun hn=>own_keep1 ((h.own s hs).2 hn) (key _ (World.ownsRow.lt ((h.own s hs).2 hn)))⟩,h.sep,fun s hs=>⟨(h.ownN s hs).1,fun hn=>own_keep1 ((h.ownN s hs).2 hn) (key _ (World.ownsRow.lt ((h.ownN s hs).2 hn)))⟩,h.sepN⟩
structure Tp (g:Nat)(s:ByteArray)(l:List UInt8)(T:List Rf.Tk)(v:Value)(E:List NdE)(w:World)(m:Nat)(out:Value)(L:List ByteArray)(wr:World):Prop where
 ps:∃kd x a,Ps g s l T m kd x a v E wr
 ef:Ef g none w wr
 own:OwnX w.heap.size out L wr
theorem Tp.step {g:Nat} {s:ByteArray} {l:List UInt8} {T:List Rf.Tk} {v:Value} {E:List NdE} {w wr w1:World} {m m' kd a:Nat} {x:List UInt8} {out:Value} {L:List ByteArray} (h:Tp g s l T v E w m out L wr)(hgl:g<w.heap.size)(h1:Ps g s l T m' kd x a v E w1)(e1:Ef g none wr w1):Tp g s l T v E w m' out L w1:=
 ⟨⟨kd,x,a,h1⟩,h.ef.trans0 e1,h.own.ef e1 hgl⟩
theorem Tp.app {g:Nat} {s:ByteArray} {l:List UInt8} {T:List Rf.Tk} {v:Value} {E:List NdE} {w wr w2:World} {m:Nat} {out out':Value} {L L':List ByteArray} {obj:Obj} (h:Tp g s l T v E w m out L wr)(h0:Nt (g+1) v E w)(hgl:g<w.heap.size)(hO:OwnX w.heap.size out' L' w2)(hg:(wr.alloc obj).grownBy w2 out.ownBlock):Tp g s l T v E w m out' L' w2:=by
 obtain⟨e,hb⟩:=h.ef.app hg (fun k hk=>(World.ownsRow.lt h.own k hk).1) hgl
 obtain⟨kd,x,a,hp⟩:=h.ps
 exact⟨⟨kd,x,a,⟨by rw[hb];exact hp.sc.blk⟩,hp.cur,h0.ef e⟩,e,hO⟩
theorem is_x {T:List Rf.Tk} {m:Nat} (h:Rf.kind T m=120)(k:Nat)(hk:k≠120)(t:List UInt8):Rf.is T m k t=false:=by
 unfold Rf.is
 rw[h,show((120:Nat)==k)=false from beq_eq_false_iff_ne.2 (fun e=>hk e.symm)]
 rfl
theorem tail_x {T:List Rf.Tk} {m:Nat} (h:Rf.kind T m=120)(f:Nat)(L:List ByteArray):Rf.txtsTail T f m L=.bad m:=by
 cases f with
 | zero=>rfl
 | succ f=>rw[Rf.txtsTail,is_x h 112 (by decide),is_x h 112 (by decide)];rfl
theorem TxO.ofX {B:Nat} {e:Ending} {w':World} {m:Nat} {R:Rf.TO} (hx:Xf T m e)(hR:R=.bad m):TxO g s l T v E B R e w':=by
 rw[hR];exact hx.2.2
theorem prListX (h:Ps g s l T n kd x a v E w)(hl:s.data.toList=l)(hs:s.size≤100000)(hT:T.length≤100000) :
  Calls Tryz.prog 235 #[scp g,.string ⟨#[93]⟩,.func (.func 182) #[scp g] #[]] w fun e w'=>Ef g none w w'∧TxO g s l T v E w.heap.size (if Rf.kind T n==116 then Rf.txtsTail T T.length (n+1) [Rf.ba (Rf.text T n)] else .bad n) e w':=by
 have hgl:=h.sc.lt
 have N0:=mkHid h.nt
 have kS:=mkHid (prSaying h hl hs)
 have hEn:∀(args:Array Value) (w:World),(callFunc 182 args).run Tryz.prog w=.ok (.enter 182 args) w:=Go.Proofs.enters_of Tryz.func182 (by kernel_rfl) rfl
 clear h
 obtain⟨R,hR⟩:∃R,(if (Rf.kind T n==116)=true then Rf.txtsTail T T.length (n+1) [Rf.ba (Rf.text T n)] else .bad n)=R:=⟨_,rfl⟩
 rw[hR]
 replace hR:=mkHid hR
 go_enter Tryz.func235,Tryz.ntmps235
 go_wp2_with (go_at_call 182;fail)
 refine kS.out.mono ?_
 rintro e w1 ⟨e1,⟨h0,rfl⟩|⟨h0,⟨kd',x',a',rfl,h1⟩|hx⟩⟩
 ·refine⟨rfl,e1,?_⟩
  rw[← hR.out,if_neg (Bool.eq_false_iff.1 h0)]
  exact rfl
 ·have hR1:=hR.out
  rw[if_pos (by rw[h0];rfl)] at hR1
  obtain⟨t,ht⟩:∃t,Rf.ba (Rf.text T n)=t:=⟨_,rfl⟩
  rw[ht] at hR1 ⊢
  obtain⟨W2,hW2⟩:∃W2,w1.alloc (.cells #[.string t] 9)=W2:=⟨_,rfl⟩
  have b2:Below w1.heap.size w1 W2:=by rw[← hW2];exact(Below.refl _ _).alloc (Nat.le_refl _) _
  have hs1:=e1.size
  have hO:OwnX w.heap.size (.slice (some ⟨w1.heap.size,0,none⟩) 1 1) [t] W2:=by rw[← hW2];exact⟨rfl,.inr ⟨w1.heap.size,1,_,rfl,e1.size,heap_alloc_at _ _,Nat.le_refl _,by unfold maxLen;omega,rfl,rfl⟩⟩
  have hlt:=h1.cur.lt
  have S0:Hid (∃(m f:Nat) (L:List ByteArray),T.length-m≤T.length∧T.length≤m+f∧L.length≤m∧m<T.length∧Rf.txtsTail T f m L=R∧Tp g s l T v E w m (.slice (some ⟨w1.heap.size,0,none⟩) 1 1) L W2):=⟨n+1,T.length,[t],by omega,by omega,by simp,h1.cur.lt,hR1,⟨_,_,_,h1.below b2⟩,e1.trans0 (Ef.of_below b2),hO⟩
  have HW2:=mkHid hW2
  clear h0 h1 e1 b2 hO hW2 kS hR1 hlt ht hR
  go_wp2
  rw[HW2.out]
  clear HW2
  go_loopg [7] (T.length) (fun q ov wr=>∃ (m f:Nat) (L:List ByteArray),T.length-m≤q∧T.length≤m+f∧L.length≤m∧m<T.length∧Rf.txtsTail T f m L=R∧Tp g s l T v E w m ov L wr)
  case atStart=>exact S0.out
  case round=>
   clear S0
   obtain⟨m,f,L,hq,hmf,hLm,hmT,hRm,hP⟩:=hrel
   obtain⟨o,cap,hshape⟩:=hP.own.shape
   subst hshape
   obtain⟨f,rfl⟩:∃f',f=f'+1:=⟨f-1,by omega⟩
   have hRs:=mkHid (show(if Rf.is T m 112 [44]=true then (if (Rf.kind T (m+1)==116)=true then Rf.txtsTail T f (m+2) (L ++ [Rf.ba (Rf.text T (m+1))]) else .bad (m+1)) else if Rf.is T m 112 [93]=true then .ok (m+1) L else .bad m)=R from hRm)
   obtain⟨kd1,x1,a1,hp⟩:=hP.ps
   have kT:=mkHid (prTakes hp hl hs [44] (by decide) (by decide))
   rw[show Rf.cls [44]=112 from rfl] at kT
   have HP:=mkHid hP
   clear hRm hP hp
   go_wp2_with (go_at_call 204;fail)
   refine kT.out.mono ?_
   rintro e w2 ⟨e2,⟨h0,rfl,h2⟩|⟨h0,⟨kd2,x2,a2,rfl,h2⟩|hx⟩⟩
   ·have hR2:=hRs.out
    rw[if_neg (Bool.eq_false_iff.1 h0)] at hR2
    have kG:=mkHid (prSign h2 hl hs [93] (by decide) (by decide))
    rw[show Rf.cls [93]=112 from rfl] at kG
    replace HP:=mkHid (HP.out.step hgl h2 e2)
    replace hR2:=mkHid hR2
    clear kT h0 h2 e2 hRs
    go_wp2_with (go_at_call 183;fail)
    refine kG.out.mono ?_
    rintro e w3 ⟨e3,⟨h0,rfl⟩|⟨h0,⟨kd3,x3,a3,rfl,h3⟩|hx⟩⟩
    ·refine⟨rfl,HP.out.ef.trans0 e3,?_⟩
     rw[← hR2.out,if_neg (Bool.eq_false_iff.1 h0)]
     exact rfl
    ·have hfin:Hid (Ef g none w w3∧TxO g s l T v E w.heap.size R (.returned (.slice o L.length cap)) w3):=by
      refine⟨HP.out.ef.trans0 e3,?_⟩
      rw[← hR2.out,if_pos h0]
      exact .inl ⟨o,cap,kd3,x3,a3,rfl,HP.out.own.ef e3 hgl,h3⟩
     clear kG h0 h3 e3 hR2 HP
     go_wp2
     go_ret
     exact hfin.out
    ·obtain⟨m1,m2,rfl⟩:=hx
     refine⟨rfl,HP.out.ef.trans0 e3,?_⟩
     rw[← hR2.out,if_pos h0]
     exact .inr ⟨m1,m2,rfl⟩
   ·have hR2:=hRs.out
    rw[if_pos h0] at hR2
    have kS:=mkHid (prSaying h2 hl hs)
    replace HP:=mkHid (HP.out.step hgl h2 e2)
    replace hR2:=mkHid hR2
    clear kT h0 h2 e2 hRs
    go_wp2_with (go_at_call 182;fail)
    refine kS.out.mono ?_
    rintro e w3 ⟨e3,⟨h0,rfl⟩|⟨h0,⟨kd3,x3,a3,rfl,h3⟩|hx⟩⟩
    ·refine⟨rfl,HP.out.ef.trans0 e3,?_⟩
     rw[← hR2.out,if_neg (Bool.eq_false_iff.1 h0)]
     exact rfl
    ·have hR3:=hR2.out
     rw[if_pos (by rw[h0];rfl)] at hR3
     have hlt:=h3.cur.lt
     obtain⟨t,ht⟩:∃t,Rf.ba (Rf.text T (m+1))=t:=⟨_,rfl⟩
     rw[ht] at hR3 ⊢
     replace HP:=mkHid (HP.out.step hgl h3 e3)
     replace hR3:=mkHid hR3
     clear kS h0 h3 e3 hR2 ht
     go_wp2_with (at_builtin;go_must (refine wp_appX rfl _ _ rfl w.heap.size (.slice o L.length cap) L rfl HP.out.own t 1 rfl (by omega) HP.out.ef.size ?_;intro v' w4 hown4 hg4;refine Hid.out ?_))
     refine mkHid ?_
     have HQ:=mkHid (HP.out.app N0.out hgl hown4 hg4)
     clear hown4 hg4 HP
     go_wp2
     go_roundg (T.length-(m+2))
     case measure=>omega
     case rel=>exact⟨m+2,f,L ++ [t],by omega,by omega,by simp;omega,hlt,hR3.out,HQ.out⟩
    ·obtain⟨m1,m2,rfl⟩:=hx
     refine⟨rfl,HP.out.ef.trans0 e3,TxO.ofX ⟨m1,m2,rfl⟩ ?_⟩
     rw[← hR2.out,if_pos (by rw[h0];rfl),tail_x m2]
   ·obtain⟨m1,m2,rfl⟩:=hx
    refine⟨rfl,HP.out.ef.trans0 e2,TxO.ofX ⟨m1,m2,rfl⟩ ?_⟩
    rw[← hRs.out,if_pos h0,if_neg (by rw[m2];decide)]
 ·obtain⟨m1,m2,rfl⟩:=hx
  refine⟨rfl,e1,TxO.ofX ⟨m1,m2,rfl⟩ ?_⟩
  rw[← hR.out,if_pos (by rw[h0];rfl),tail_x m2]
end
section
variable {g:Nat} {s:ByteArray} {l:List UInt8} {T:List Rf.Tk} {n kd:Nat} {x:List UInt8} {a:Nat} {v:Value} {E:List NdE} {w:World}
theorem TxO.base {B B':Nat} {R:Rf.TO} {e:Ending} {w':World} (h:TxO g s l T v E B' R e w')(hB:B≤B'):TxO g s l T v E B R e w':=by
 cases R with
 | ok n' M=>
  rcases h with ⟨o,c,kd',x',a',e1,e2,e3⟩|h
  ·exact .inl ⟨o,c,kd',x',a',e1,own_base e2 hB,e3⟩
  ·exact .inr h
 | bad j=>exact h
theorem prTexts (h:Ps g s l T n kd x a v E w)(hl:s.data.toList=l)(hs:s.size≤100000)(hT:T.length≤100000) :
  Calls Tryz.prog 225 #[scp g] w fun e w'=>Ef g none w w'∧TxO g s l T v E w.heap.size (Rf.txts T n) e w':=by
 have hgl:=h.sc.lt
 have kT:=mkHid (prTakes h hl hs [91] (by decide) (by decide))
 rw[show Rf.cls [91]=112 from rfl] at kT
 clear h
 obtain⟨R,hR⟩:∃R,(if Rf.is T n 112 [91]=true then (if (Rf.kind T (n+1)==116)=true then Rf.txtsTail T T.length (n+2) [Rf.ba (Rf.text T (n+1))] else .bad (n+1)) else if (Rf.kind T n==116)=true then Rf.TO.ok (n+1) [Rf.ba (Rf.text T n)] else .bad n)=R:=⟨_,rfl⟩
 rw[show Rf.txts T n=R from hR]
 replace hR:=mkHid hR
 go_enter Tryz.func225,Tryz.ntmps225
 go_wp2_with (go_at_call 204;fail)
 refine kT.out.mono ?_
 rintro e w1 ⟨e1,⟨h0,rfl,h1⟩|⟨h0,⟨kd',x',a',rfl,h1⟩|hx⟩⟩
 ·have hR1:=hR.out
  rw[if_neg (Bool.eq_false_iff.1 h0)] at hR1
  replace hR1:=mkHid hR1
  have kS:=mkHid (prSaying h1 hl hs)
  replace e1:=mkHid e1
  clear kT h0 h1 hR
  go_wp2_with (go_at_call 182;fail)
  refine kS.out.mono ?_
  rintro e w2 ⟨e2,⟨h0,rfl⟩|⟨h0,⟨kd',x',a',rfl,h2⟩|hx⟩⟩
  ·refine⟨rfl,e1.out.trans0 e2,?_⟩
   rw[← hR1.out,if_neg (Bool.eq_false_iff.1 h0)]
   exact rfl
  ·obtain⟨t,ht⟩:∃t,Rf.ba (Rf.text T n)=t:=⟨_,rfl⟩
   obtain⟨W2,hW2⟩:∃W2,w2.alloc (.cells #[.string t] 9)=W2:=⟨_,rfl⟩
   have b2:Below w2.heap.size w2 W2:=by rw[← hW2];exact(Below.refl _ _).alloc (Nat.le_refl _) _
   have hs1:=e1.out.size
   have hs2:=e2.size
   have hO:OwnX w.heap.size (.slice (some ⟨w2.heap.size,0,none⟩) 1 1) [t] W2:=by rw[← hW2];exact⟨rfl,.inr ⟨w2.heap.size,1,_,rfl,by omega,heap_alloc_at _ _,Nat.le_refl _,by unfold maxLen;omega,rfl,rfl⟩⟩
   have hfin:Hid (Ef g none w W2∧TxO g s l T v E w.heap.size R (.returned (.slice (some ⟨w2.heap.size,0,none⟩) 1 1)) W2):=by
    refine⟨(e1.out.trans0 e2).trans0 (Ef.of_below b2),?_⟩
    rw[← hR1.out,if_pos (by rw[h0];rfl),ht]
    exact .inl ⟨_,_,kd',x',a',rfl,hO,h2.below b2⟩
   replace hW2:=mkHid hW2
   rw[ht]
   clear h0 h2 e1 e2 b2 hO hs1 hs2 kS hR1 ht
   go_wp2
   rw[hW2.out]
   go_ret
   exact hfin.out
  ·obtain⟨m1,m2,rfl⟩:=hx
   refine⟨rfl,e1.out.trans0 e2,?_⟩
   rw[← hR1.out,if_pos (by rw[h0];rfl)]
   exact .inr ⟨m1,m2,rfl⟩
 ·have hR1:=hR.out
  rw[if_pos h0] at hR1
  have kL:=mkHid (prListX h1 hl hs hT)
  rw[hR1] at kL
  replace hR1:=mkHid hR1
  replace e1:=mkHid e1
  clear kT h0 h1 hR hR1
  go_wp2_with (go_at_call 235;fail)
  refine kL.out.mono ?_
  rintro e w2 ⟨e2,h2⟩
  have h3:=mkHid (h2.base e1.out.size)
  have e3:=mkHid (e1.out.trans0 e2)
  clear kL h2 e1 e2
  cases R with
  | ok n' M=>
   rcases h3.out with ⟨o,c,kd2,x2,a2,rfl,h4⟩|⟨m1,m2,rfl⟩
   ·clear h4
    go_wp2
    go_ret
    exact⟨e3.out,h3.out⟩
   ·exact⟨rfl,e3.out,.inr ⟨m1,m2,rfl⟩⟩
  | bad j=>
   obtain rfl:e=_:=h3.out
   exact⟨rfl,e3.out,rfl⟩
 ·obtain⟨m1,m2,rfl⟩:=hx
  refine⟨rfl,e1,TxO.ofX ⟨m1,m2,rfl⟩ ?_⟩
  rw[← hR.out,if_pos h0,if_neg (by rw[m2];decide)]
end
structure Gl (g:Nat)(w:World):Prop where
 ft:FTab w
 mt:MTab w
 er:Er w
 hf:1<g
 hm:2<g
 hy:3<g
 hr:4<g
theorem Gl.ef {g:Nat} {r:Option Nat} {w w':World} (h:Gl g w)(e:Ef g r w w')(hr:∀k,r=some k→g<k):Gl g w':=by
 have key:∀k,k<g→k<w.heap.size→w'.heap[k]?=w.heap[k]?:=fun k hk hl=>e.keep k hl (by omega) (fun e=>by have:=hr k e.symm;omega)
 have kc:∀k x,k<g→w.cell? ⟨k,0,none⟩=some x→w'.cell? ⟨k,0,none⟩=some x:=fun k x hk hx=>(World.cell?_of_block (a:=⟨k,0,none⟩) (key k hk (World.block_lt_of_cell? _ _ hx))).trans hx
 obtain⟨a,a1,a2⟩:=h.er.syn
 obtain⟨b,b1,b2⟩:=h.er.rng
 obtain⟨t1,fr1,h1⟩:=h.ft
 obtain⟨t2,fr2,h2⟩:=h.mt
 exact⟨⟨t1,fr1,(key _ h.hf (heap_ltM h1)).trans h1⟩,⟨t2,fr2,(key _ h.hm (heap_ltM h2)).trans h2⟩,⟨⟨a,kc _ _ h.hy a1,a2⟩,⟨b,kc _ _ h.hr b1,b2⟩⟩,h.hf,h.hm,h.hy,h.hr⟩
theorem Nt.over {g:Nat} {v:Value} {E:List NdE} {w:World} (h:Nt (g+1) v E w):∀k,v.ownBlock=some k→g<k:=fun k hk=>(World.ownsRow.lt h.row k hk).1
structure Pd (g:Nat)(s:ByteArray)(l:List UInt8)(T:List Rf.Tk)(n:Nat)(v:Value)(E:List NdE)(w:World)(j:Nat)(A:List NdE)(v':Value)(w':World):Prop where
 ps:∃kd x a,Ps g s l T j kd x a v' (E++A) w'
 nw:Nw w v v'
 fr:∀s ∈ slots A,s.2=[]∨∀k,s.1.ownBlock=some k→w.heap.size≤k
 frN:∀s ∈ kslots A,s.2=[]∨∀k,s.1.ownBlock=some k→w.heap.size≤k
 cnt:A.length+3*n+1≤3*j
def PrO (g:Nat)(s:ByteArray)(l:List UInt8)(T:List Rf.Tk)(n:Nat)(v:Value)(E:List NdE)(w:World)(R:Rf.Out)(e:Ending)(w':World):Prop:=
 match R with
 | .ok j N=>(∃A v',e=.returned (.int .i64 (Rf.last N))∧N=(E++A).map (·.1)∧Pd g s l T n v E w j A v' w')∨Xf T j e
 | .bad j=>e=faultAt (Rf.pos T j)
def PrC (fn:Nat)(g:Nat)(s:ByteArray)(l:List UInt8)(T:List Rf.Tk)(f:Nat)(P:Nat→List Nd→Rf.Out):Prop:=
 ∀(n kd:Nat) (x:List UInt8) (a:Nat) (v:Value) (E:List NdE) (w:World),Ps g s l T n kd x a v E w→Gl g w→T.length≤n+f→E.length≤3*n+5 →
  Calls Tryz.prog fn #[scp g] w fun e w'=>Ef g v.ownBlock w w'∧PrO g s l T n v E w (P n (E.map (·.1))) e w'
structure Pf (g:Nat)(s:ByteArray)(l:List UInt8)(T:List Rf.Tk)(v:Value)(E:List NdE)(w:World)(na ke:List ByteArray)(ks:List Int)(vn vk vd:Value)(n:Nat)(v':Value)(A:List NdE)(wr:World):Prop where
 ps:∃kd x a,Ps g s l T n kd x a v' (E++A) wr
 ef:Ef g v.ownBlock w wr
 nw:Nw w v v'
 fr:∀s ∈ slots A,s.2=[]∨∀k,s.1.ownBlock=some k→w.heap.size≤k
 frN:∀s ∈ kslots A,s.2=[]∨∀k,s.1.ownBlock=some k→w.heap.size≤k
 gl:Gl g wr
 hg:g<w.heap.size
 on:OwnX w.heap.size vn na wr
 ok:OwnX w.heap.size vk ke wr
 od:OwnN w.heap.size vd ks wr
 fnk:vn.ownBlock=none∨vn.ownBlock≠vk.ownBlock
 fn:∀s ∈ slots (E++A),s.2=[]∨s.1.ownBlock=none∨s.1.ownBlock≠vn.ownBlock
 fk:∀s ∈ slots (E++A),s.2=[]∨s.1.ownBlock=none∨s.1.ownBlock≠vk.ownBlock
 fd:∀s ∈ kslots (E++A),s.2=[]∨s.1.ownBlock=none∨s.1.ownBlock≠vd.ownBlock
section
variable {g:Nat} {s:ByteArray} {l:List UInt8} {T:List Rf.Tk} {v v':Value} {E A:List NdE} {w wr w1:World} {na ke:List ByteArray} {ks:List Int} {vn vk vd:Value} {n:Nat}
theorem ownX_nil (B:Nat)(w:World):OwnX B (.slice none 0 0) [] w:=World.ownsRow_nil w B _ 1
theorem ownN_nil (B:Nat)(w:World):OwnN B (.slice none 0 0) [] w:=World.ownsRow_nil w B _ 1
theorem far_none {α:Type} {L:List (Value × List α)} {o:Option Nat} (ho:o=none):∀s ∈ L,s.2=[]∨s.1.ownBlock=none∨s.1.ownBlock≠o:=by
 intro s _
 subst ho
 cases h:s.1.ownBlock with
 | none=>exact .inr (.inl rfl)
 | some k=>exact .inr (.inr (by simp))
theorem Pf.start {kd a:Nat} {x:List UInt8} (h:Ps g s l T n kd x a v E w)(hG:Gl g w):Pf g s l T v E w [] [] [] (.slice none 0 0) (.slice none 0 0) (.slice none 0 0) n v [] w:=
 ⟨⟨kd,x,a,by rw[List.append_nil];exact h⟩,Ef.refl2 _ _ _,.inl rfl,fun _ h=>(List.not_mem_nil h).elim,fun _ h=>(List.not_mem_nil h).elim,hG,h.sc.lt,ownX_nil _ _,ownX_nil _ _,ownN_nil _ _,.inl rfl,far_none rfl,far_none rfl,far_none rfl⟩
theorem Pf.small {n' kd a:Nat} {x:List UInt8} (h:Pf g s l T v E w na ke ks vn vk vd n v' A wr)(h1:Ps g s l T n' kd x a v' (E++A) w1)(e1:Ef g none wr w1):Pf g s l T v E w na ke ks vn vk vd n' v' A w1:=by
 have key:∀k,w.heap.size≤k→k<wr.heap.size→w1.heap[k]?=wr.heap[k]?:=fun k h1 h2=>e1.keep k h2 (by have:=h.hg;omega) (by simp)
 have ef2:Ef g v.ownBlock w w1:=⟨e1.os.trans h.ef.os,e1.tape.trans h.ef.tape,e1.output.trans h.ef.output,Nat.le_trans h.ef.size e1.size,fun k hk hg hr=>(e1.keep k (Nat.lt_of_lt_of_le hk h.ef.size) hg (by simp)).trans (h.ef.keep k hk hg hr)⟩
 exact⟨⟨kd,x,a,h1⟩,ef2,h.nw,h.fr,h.frN,h.gl.ef e1 (fun _ e=>by cases e),h.hg,own_keep1 h.on fun k hk=>key k (World.ownsRow.lt h.on k hk).1 (World.ownsRow.lt h.on k hk).2,own_keep1 h.ok fun k hk=>key k (World.ownsRow.lt h.ok k hk).1 (World.ownsRow.lt h.ok k hk).2,own_keep1 h.od fun k hk=>key k (World.ownsRow.lt h.od k hk).1 (World.ownsRow.lt h.od k hk).2,h.fnk,h.fn,h.fk,h.fd⟩
theorem Pf.below (h:Pf g s l T v E w na ke ks vn vk vd n v' A wr)(hb:Below wr.heap.size wr w1):Pf g s l T v E w na ke ks vn vk vd n v' A w1:=by
 obtain⟨kd,x,a,h1⟩:=h.ps
 exact h.small (h1.below hb) (Ef.of_below hb)
theorem Pf.call {j:Nat} {A1:List NdE} {v1:Value} (h:Pf g s l T v E w na ke ks vn vk vd n v' A wr)(e1:Ef g v'.ownBlock wr w1)(p:Pd g s l T n v' (E++A) wr j A1 v1 w1):Pf g s l T v E w na ke ks vn vk vd j v1 (A++A1) w1:=by
 have hs:=h.ef.size
 obtain⟨kd0,x0,a0,h0⟩:=h.ps
 obtain⟨kd1,x1,a1,h1⟩:=p.ps
 have key:∀k,w.heap.size≤k→k<wr.heap.size→some k≠v'.ownBlock→w1.heap[k]?=wr.heap[k]?:=fun k h1 h2 h3=>e1.keep k h2 (by have:=h.hg;omega) h3
 have k2:∀{B e s m:Nat} {x:Value} {xs:List Value},wr.ownsRow B e s x m xs→e≠109→w.heap.size≤B→∀k,x.ownBlock=some k→w1.heap[k]?=wr.heap[k]?:=by
  intro B e s m x xs ho he hB k hk
  have hl:=World.ownsRow.lt ho k hk
  refine key k (by omega) hl.2 ?_
  rcases own_apart9 ho h0.nt.row he with e|e
  ·rw[e] at hk;cases hk
  ·rw[← hk];exact e
 have app:(E++A)++A1=E++(A++A1):=List.append_assoc _ _ _
 refine⟨⟨kd1,x1,a1,app ▸ h1⟩,h.ef.trans h.nw e1,h.nw.trans hs p.nw,?_,?_,h.gl.ef e1 h0.nt.over,h.hg,own_keep1 h.on (k2 h.on (by decide) (Nat.le_refl _)),own_keep1 h.ok (k2 h.ok (by decide) (Nat.le_refl _)),own_keep1 h.od (k2 h.od (by decide) (Nat.le_refl _)),h.fnk,?_,?_,?_⟩
 ·intro s hs'
  rcases slots_mem hs' with h1|h1
  ·exact h.fr s h1
  ·exact(p.fr s h1).imp id fun h2 k hk=>Nat.le_trans hs (h2 k hk)
 ·intro s hs'
  rcases kslots_mem hs' with h1|h1
  ·exact h.frN s h1
  ·exact(p.frN s h1).imp id fun h2 k hk=>Nat.le_trans hs (h2 k hk)
 all_goals
  intro s hs'
  rw[← app] at hs'
 ·rcases slots_mem hs' with h1|h1
  ·exact h.fn s h1
  ·refine(p.fr s h1).imp id fun h2=>?_
   cases ho:s.1.ownBlock with
   | none=>exact .inl rfl
   | some k=>exact .inr (fun e=>by have:=(World.ownsRow.lt h.on k e.symm).2;have:=h2 k ho;omega)
 ·rcases slots_mem hs' with h1|h1
  ·exact h.fk s h1
  ·refine(p.fr s h1).imp id fun h2=>?_
   cases ho:s.1.ownBlock with
   | none=>exact .inl rfl
   | some k=>exact .inr (fun e=>by have:=(World.ownsRow.lt h.ok k e.symm).2;have:=h2 k ho;omega)
 ·rcases kslots_mem hs' with h1|h1
  ·exact h.fd s h1
  ·refine(p.frN s h1).imp id fun h2=>?_
   cases ho:s.1.ownBlock with
   | none=>exact .inl rfl
   | some k=>exact .inr (fun e=>by have:=(World.ownsRow.lt h.od k e.symm).2;have:=h2 k ho;omega)
theorem far_new {B:Nat} {N:List NdE} {v:Value} {w:World} {o:Option Nat} (h:Nt B v N w)(ho:∀k,o=some k→w.heap.size≤k):(∀s ∈ slots N,s.2=[]∨s.1.ownBlock=none∨s.1.ownBlock≠o)∧∀s ∈ kslots N,s.2=[]∨s.1.ownBlock=none∨s.1.ownBlock≠o:=by
 refine⟨fun s hs=>?_,fun s hs=>?_⟩
 ·by_cases hn:s.2=[]
  ·exact .inl hn
  ·right
   cases hk:s.1.ownBlock with
   | none=>exact .inl rfl
   | some q=>exact .inr (fun e=>by have:=slot_lt h s hs hn q hk;have:=ho q e.symm;omega)
 ·by_cases hn:s.2=[]
  ·exact .inl hn
  ·right
   cases hk:s.1.ownBlock with
   | none=>exact .inl rfl
   | some q=>exact .inr (fun e=>by have:=kslot_lt h s hs hn q hk;have:=ho q e.symm;omega)
theorem Pf.names {n' kd a:Nat} {x:List UInt8} {M:List ByteArray} {u:Value} (h:Pf g s l T v E w na ke ks vn vk vd n v' A wr)(h1:Ps g s l T n' kd x a v' (E++A) w1)(e1:Ef g none wr w1)(hO:OwnX wr.heap.size u M w1):Pf g s l T v E w M ke ks u vk vd n' v' A w1:=by
 have h2:=h.small h1 e1
 have hk:∀k,u.ownBlock=some k→wr.heap.size≤k:=fun k hk=>(World.ownsRow.lt hO k hk).1
 obtain⟨kd0,x0,a0,h0⟩:=h.ps
 refine⟨h2.ps,h2.ef,h2.nw,h2.fr,h2.frN,h2.gl,h2.hg,own_base hO h.ef.size,h2.ok,h2.od,?_,(far_new h0.nt hk).1,h2.fk,h2.fd⟩
 cases hu:u.ownBlock with
 | none=>exact .inl rfl
 | some q=>exact .inr (fun e=>by have:=(World.ownsRow.lt h.ok q e.symm).2;have:=hk q hu;omega)
theorem Pf.keys {n' kd a:Nat} {x:List UInt8} {M:List ByteArray} {u:Value} (h:Pf g s l T v E w na ke ks vn vk vd n v' A wr)(h1:Ps g s l T n' kd x a v' (E++A) w1)(e1:Ef g none wr w1)(hO:OwnX wr.heap.size u M w1):Pf g s l T v E w na M ks vn u vd n' v' A w1:=by
 have h2:=h.small h1 e1
 have hk:∀k,u.ownBlock=some k→wr.heap.size≤k:=fun k hk=>(World.ownsRow.lt hO k hk).1
 obtain⟨kd0,x0,a0,h0⟩:=h.ps
 refine⟨h2.ps,h2.ef,h2.nw,h2.fr,h2.frN,h2.gl,h2.hg,h2.on,own_base hO h.ef.size,h2.od,?_,h2.fn,(far_new h0.nt hk).1,h2.fd⟩
 cases hu:vn.ownBlock with
 | none=>exact .inl rfl
 | some q=>exact .inr (fun e=>by have:=(World.ownsRow.lt h.on q hu).2;have:=hk q e.symm;omega)
theorem Pf.kids {L:List Int} {u:Value} (h:Pf g s l T v E w na ke ks vn vk vd n v' A wr)(hb:Below wr.heap.size wr w1)(hO:OwnN wr.heap.size u L w1):Pf g s l T v E w na ke L vn vk u n v' A w1:=by
 have h2:=h.below hb
 have hk:∀k,u.ownBlock=some k→wr.heap.size≤k:=fun k hk=>(World.ownsRow.lt hO k hk).1
 obtain⟨kd0,x0,a0,h0⟩:=h.ps
 exact⟨h2.ps,h2.ef,h2.nw,h2.fr,h2.frN,h2.gl,h2.hg,h2.on,h2.ok,own_base hO h.ef.size,h2.fnk,h2.fn,h2.fk,(far_new h0.nt hk).2⟩
theorem Pf.kid {obj:Obj} {w2:World} {vd':Value} {z:Int} (h:Pf g s l T v E w na ke ks vn vk vd n v' A wr)(ho:OwnN w.heap.size vd' (ks ++ [z]) w2)(hg2:(wr.alloc obj).grownBy w2 vd.ownBlock)(hnw:Nw (wr.alloc obj) vd vd') :
  Pf g s l T v E w na ke (ks ++ [z]) vn vk vd' n v' A w2:=by
 have hW:Below wr.heap.size wr (wr.alloc obj):=(Below.refl _ _).alloc (Nat.le_refl _) _
 have hWs:(wr.alloc obj).heap.size=wr.heap.size+1:=by simp
 have hW0:=h.below hW
 obtain⟨kd0,x0,a0,rW⟩:=hW0.ps
 have odW:OwnN w.heap.size vd ks (wr.alloc obj):=hW0.od
 have ne2:∀{B e s m:Nat} {x:Value} {xs:List Value},(wr.alloc obj).ownsRow B e s x m xs→e≠2→x.ownBlock=none∨x.ownBlock≠vd.ownBlock:=fun ho he=>own_apart9 ho odW he
 have hgd:some g≠vd.ownBlock:=fun e=>by have:=(World.ownsRow.lt h.od g e.symm).1;have:=h.hg;omega
 have r2:Ps g s l T n kd0 x0 a0 v' (E++A) w2:=by
  refine⟨⟨(hg2.block g rW.sc.lt hgd).trans rW.sc.blk⟩,rW.cur,rW.nt.grown hg2 (ne2 rW.nt.row (by decide)) (fun s hs=>?_) h.fd⟩
  by_cases hn:s.2=[]
  ·exact .inl hn
  ·exact .inr (ne2 ((rW.nt.own s hs).2 hn) (by decide))
 have hs2:=hg2.size
 have hes:=h.ef.size
 have ef2:Ef g v.ownBlock w w2:=⟨hg2.os.trans h.ef.os,hg2.tape.trans h.ef.tape,hg2.output.trans h.ef.output,by omega,fun k hk hg hr=>((hg2.block k (by omega) (fun e=>by have:=(World.ownsRow.lt h.od k e.symm).1;omega)).trans (hW.block k (by omega))).trans (h.ef.keep k hk hg hr)⟩
 have gl2:Gl g w2:=hW0.gl.ef (r:=vd.ownBlock) ⟨hg2.os,hg2.tape,hg2.output,hg2.size,fun k hk _ hr=>hg2.block k hk hr⟩ (fun k e=>by have:=(World.ownsRow.lt h.od k e).1;have:=h.hg;omega)
 refine⟨⟨kd0,x0,a0,r2⟩,ef2,h.nw,h.fr,h.frN,gl2,h.hg,World.ownsRow.kept hW0.on hg2 (ne2 hW0.on (by decide)),World.ownsRow.kept hW0.ok hg2 (ne2 hW0.ok (by decide)),ho,h.fnk,h.fn,h.fk,?_⟩
 intro s hs
 rcases hnw with e|⟨k,hk,e⟩
 ·rw[e];exact h.fd s hs
 ·by_cases hn:s.2=[]
  ·exact .inl hn
  ·right
   rw[e]
   cases ho:s.1.ownBlock with
   | none=>exact .inl rfl
   | some q=>exact .inr (fun e2=>by cases e2;have:=kslot_lt rW.nt s hs hn k ho;omega)
end
end Go.Proofs.YtkcajnjledldnaaGreatDoor
