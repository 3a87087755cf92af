import Derived.Test.YtkcajnjledldnaaGreatDoorGenQueueConfig
import Derived.Test.YtkcajnjledldnaaGreatDoorGenBase
set_option maxRecDepth 20000
set_option maxHeartbeats 4000000
namespace Go.Proofs.YtkcajnjledldnaaGreatDoor
open Go.RowKit Go.Lib Go.Maps
structure GWorldUser where
 name:ByteArray
 password:ByteArray
 readOnly:Bool
 filter:ByteArray
def GWorldUserV (n:GWorldUser):Value:=.agg #[.string n.name,.string n.password,.bool n.readOnly,.string n.filter]
def GWorldUser.fits (n:GWorldUser)(m:Nat):Prop:=n.name.size≤m∧n.password.size≤m∧n.filter.size≤m
structure GWorldUserAt (w:World)(A:Addr)(n:GWorldUser):Prop where
 c0:w.cell? A=some (.string n.name)
 c1:w.cell? ⟨A.block,A.off+1,none⟩=some (.string n.password)
 c2:w.cell? ⟨A.block,A.off+2,none⟩=some (.bool n.readOnly)
 c3:w.cell? ⟨A.block,A.off+3,none⟩=some (.string n.filter)
theorem GWorldUserAt.same {lo hi:Nat} {w w':World} {A:Addr} {n:GWorldUser} (h:GWorldUserAt w A n)(hs:Same lo hi w w')(h1:lo≤A.block)(h2:A.block<hi):GWorldUserAt w' A n:=
 ⟨(hs.cell h1 h2).trans h.c0,(hs.cell (p:=⟨A.block,A.off+1,none⟩) h1 h2).trans h.c1,(hs.cell (p:=⟨A.block,A.off+2,none⟩) h1 h2).trans h.c2,(hs.cell (p:=⟨A.block,A.off+3,none⟩) h1 h2).trans h.c3⟩
def GWorldUsersL (lo hi:Nat)(w:World)(o:Option Addr)(F:List GWorldUser):Prop:=∀i (h:i<F.length),∃ a,o=some a∧lo≤a.block∧a.block<hi∧GWorldUserAt w (a.add (i*4)) F[i]
theorem GWorldUsersL.same {lo hi:Nat} {w w':World} {o:Option Addr} {F:List GWorldUser} (h:GWorldUsersL lo hi w o F)(hs:Same lo hi w w'):GWorldUsersL lo hi w' o F:=by
 intro i hi
 obtain⟨a,ho,h1,h2,h3⟩:=h i hi
 exact⟨a,ho,h1,h2,h3.same hs (by rw[add_blockG];exact h1) (by rw[add_blockG];exact h2)⟩
theorem GWorldUsersL.mono {lo lo' hi hi':Nat} {w:World} {o:Option Addr} {F:List GWorldUser} (h:GWorldUsersL lo hi w o F)(hl:lo'≤lo)(hh:hi≤hi'):GWorldUsersL lo' hi' w o F:=by
 intro i hi
 obtain⟨a,ho,h1,h2,h3⟩:=h i hi
 exact⟨a,ho,Nat.le_trans hl h1,Nat.lt_of_lt_of_le h2 hh,h3⟩
theorem GWorldUsersL.below {lo hi B:Nat} {w w':World} {o:Option Addr} {F:List GWorldUser} (h:GWorldUsersL lo hi w o F)(hb:Below B w w')(hB:hi≤B):GWorldUsersL lo hi w' o F:=h.same (Same.of_below hb hB)
theorem lawSzWorldUser (n:GWorldUser)(left _lo:Nat)(w:World)(hf:n.fits maxLen)(hl:left≤1048576) :
  Calls Tryz.prog 38 #[GWorldUserV n,.int .i64 left] w fun e w'=>∃ r:Int,e=.returned (.int .i64 r)∧Hid (r = -1∨∃ m:Nat,r=m∧m≤left∧n.fits 1048576)∧Below w.heap.size w w':=by
 obtain⟨f0_0,f1_0,f3_0⟩:=hf
 unfold GWorldUserV
 unfold maxLen at f0_0
 unfold maxLen at f1_0
 unfold maxLen at f3_0
 obtain⟨W,hW⟩:∃W,W=w.alloc (.cells #[.string n.name,.string n.password,.bool n.readOnly,.string n.filter] 87):=⟨_,rfl⟩
 have hbW:Below w.heap.size w W:=by rw[hW];exact(Below.refl _ _).alloc (Nat.le_refl _) _
 have hWs:w.heap.size<W.heap.size:=by rw[hW];simp
 have HW:=mkHid hW
 clear hW
 by_cases h0:left<n.name.size
 ·go_enter Tryz.func38,Tryz.ntmps38
  go_wp2
  go_ret
  first|rw[← HW.out]|skip
  exact⟨-1,rfl,.inl rfl,hbW⟩
 ·obtain⟨l0,h0a⟩:∃l:Nat,left-n.name.size=l:=⟨_,rfl⟩
  have h0b:(left:Int)-(n.name.size:Int)=(l0:Int):=by omega
  have h0c:l0≤left:=by omega
  have g0:Hid (n.name.size≤1048576):=by show _≤_;omega
  clear h0a
  by_cases h1:l0<n.password.size
  ·go_enter Tryz.func38,Tryz.ntmps38
   go_wp2
   go_ret
   first|rw[← HW.out]|skip
   exact⟨-1,rfl,.inl rfl,hbW⟩
  ·obtain⟨l1,h1a⟩:∃l:Nat,l0-n.password.size=l:=⟨_,rfl⟩
   have h1b:(l0:Int)-(n.password.size:Int)=(l1:Int):=by omega
   have h1c:l1≤l0:=by omega
   have g1:Hid (n.password.size≤1048576):=by show _≤_;omega
   clear h1a
   by_cases h3:l1<n.filter.size
   ·go_enter Tryz.func38,Tryz.ntmps38
    go_wp2
    go_ret
    first|rw[← HW.out]|skip
    exact⟨-1,rfl,.inl rfl,hbW⟩
   ·obtain⟨l3,h3a⟩:∃l:Nat,l1-n.filter.size=l:=⟨_,rfl⟩
    have h3b:(l1:Int)-(n.filter.size:Int)=(l3:Int):=by omega
    have h3c:l3≤l1:=by omega
    have g3:Hid (n.filter.size≤1048576):=by show _≤_;omega
    clear h3a
    go_enter Tryz.func38,Tryz.ntmps38
    go_wp2
    go_ret
    first|rw[← HW.out]|skip
    exact⟨_,rfl,.inr ⟨l3,rfl,by omega,g0.out,g1.out,g3.out⟩,hbW⟩
theorem lawSzSWorldUser (o:Option Addr)(F:List GWorldUser)(cap left lo:Nat)(w:World)(hF:GWorldUsersL lo w.heap.size w o F)(hlen:F.length≤maxLen)(hsz:∀f ∈ F,f.fits maxLen)(hl:left≤1048576) :
  Calls Tryz.prog 11 #[.slice o F.length cap,.int .i64 left] w fun e w'=>∃ r:Int,e=.returned (.int .i64 r)∧Hid (r = -1∨∃ m:Nat,r=m∧m≤left∧F.length≤1048576∧∀f ∈ F,f.fits 1048576)∧Below w.heap.size w w':=by
 unfold maxLen at hlen
 by_cases hn:left<F.length
 ·clear hF hsz
  go_enter Tryz.func11,Tryz.ntmps11
  go_wp2
  go_ret
  exact⟨-1,rfl,Or.inl rfl,Below.refl _ _⟩
 ·obtain⟨l0,hl0⟩:∃l:Nat,left-F.length=l:=⟨_,rfl⟩
  have hl1:(left:Int)-(F.length:Int)=(l0:Int):=by omega
  have hl2:l0≤left:=by omega
  have hl3:F.length≤1048576:=by omega
  have HF:=mkHid hF
  have Hsz:=mkHid hsz
  clear hF hsz hl0
  go_enter Tryz.func11,Tryz.ntmps11
  go_wp2
  clear hl1
  go_loopw [1,5] (fun l i wr=>∃ (k m:Nat),k≤F.length∧i=.int .i64 k∧m≤left∧l=.int .i64 m∧Hid (∀j (h:j<F.length),j<k→F[j].fits 1048576)∧Below w.heap.size w wr) (fun _ i _=>F.length-(Lib.intOf i).toNat)
  case atStart=>exact⟨0,l0,Nat.zero_le _,rfl,hl2,rfl,fun j h h0=>absurd h0 (Nat.not_lt_zero _),Below.refl _ _⟩
  case round=>
   obtain⟨k,m,hk,rfl,hm,rfl,hall,hb⟩:=hrel
   by_cases hlt:k<F.length
   ·obtain⟨a,rfl,ha1,ha2,hA⟩:=(HF.out.below hb (Nat.le_refl _)) k hlt
    have hS:=mkHid (lawSzWorldUser F[k] m lo wr (Hsz.out _ (List.getElem_mem hlt)) (by omega))
    have c0:=hA.c0
    have c1:=hA.c1
    have c2:=hA.c2
    have c3:=hA.c3
    clear hA
    unfold GWorldUserV at hS
    generalize hf:F[k]=f at *
    have Hf:=mkHid hf
    clear hf
    go_wp2_with fail
    refine hS.out.mono ?_
    rintro e w1 ⟨r1,rfl,hr1,hb1⟩
    have hb2:=mkHid (hb.trans (hb1.mono hb.size))
    clear hS c0 c1 c2 c3 hb1 hb
    rcases hr1.out with rfl|⟨m1,rfl,hm1,hft⟩
    ·clear hr1
     go_wp2
     go_ret
     exact⟨-1,rfl,Or.inl rfl,hb2.out⟩
    ·replace hft:=mkHid hft
     clear hr1
     go_wp2
     go_roundw
     case rel=>
      refine⟨k+1,m1,by omega,by go_num,by omega,rfl,?_,hb2.out⟩
      intro j h hj
      by_cases hjk:j<k
      ·exact hall.out j h hjk
      ·have:j=k:=by omega
       subst this
       rw[Hf.out];exact hft.out
     case measure=>simp[Lib.intOf];omega
   ·have Hall:Hid (∀f ∈ F,f.fits 1048576):=by
     intro t ht
     obtain⟨j,hj,rfl⟩:=List.getElem_of_mem ht
     exact hall.out j hj (by omega)
    go_wp2
    go_ret
    exact⟨_,rfl,Or.inr ⟨m,rfl,hm,hl3,Hall.out⟩,hb⟩
theorem lawToXWorldUser (n:GWorldUser)(lo:Nat)(w:World) :
  Calls Tryz.prog 56 #[GWorldUserV n] w fun e w'=>e=.returned (GWorldUserV n)∧Below w.heap.size w w'∧Hid (Soft w.heap.size w'):=by
 have _hlo:=lo
 unfold GWorldUserV
 go_enter Tryz.func56,Tryz.ntmps56
 go_wp2
 refine bodyPost_ret (v:=.agg #[.string n.name,.string n.password,.bool n.readOnly,.string n.filter]) (by simp[results,Tryz.results56,go_sem]) rfl ⟨rfl,?_⟩
 exact⟨(((Below.refl _ _).alloc (Nat.le_refl _) _).alloc (by simp) _).alloc (by simp;omega) _,(((Soft.refl _).alloc _ _).alloc _ _).alloc _ _⟩
structure GWorldUserL (f:Nat→Value)(j:Nat)(n:GWorldUser):Prop where
 c0:f (j*4)=.string n.name
 c1:f (j*4+1)=.string n.password
 c2:f (j*4+2)=.bool n.readOnly
 c3:f (j*4+3)=.string n.filter
def GWorldUserSet (w:World)(g k:Nat)(n:GWorldUser):World:=((((w.setCell ⟨g,k*4,none⟩ (.string n.name)).setCell ⟨g,k*4+1,none⟩ (.string n.password)).setCell ⟨g,k*4+2,none⟩ (.bool n.readOnly)).setCell ⟨g,k*4+3,none⟩ (.string n.filter))
theorem GWorldUserRow {w:World} {g t N:Nat} {f:Nat→Value} (h:w.rowIs g t N f)(k:Nat)(n:GWorldUser) :
  ∃ f',(GWorldUserSet w g k n).rowIs g t N f'∧GWorldUserL f' k n∧∀(j:Nat) (m:GWorldUser),j≠k→GWorldUserL f j m→GWorldUserL f' j m:=by
 refine⟨_,((((h.set _ _).set _ _).set _ _).set _ _),?_,?_⟩
 ·constructor<;>simp
 ·intro j m hj hl
  obtain⟨c0,c1,c2,c3⟩:=hl
  constructor<;>rw[if_neg (by omega),if_neg (by omega),if_neg (by omega),if_neg (by omega)]<;>assumption
theorem GWorldUserGr (w:World)(g k:Nat)(n:GWorldUser):w.grownBy (GWorldUserSet w g k n) (some g):=grG_trans (grG_trans (grG_trans (grG_set _ _ _ _) (grG_set _ _ _ _)) (grG_set _ _ _ _)) (grG_set _ _ _ _)
theorem Tryz.infoGWorldUser:(Tryz.prog.info? 66).map (fun i=>(i.zero,i.size,i.bytes))=some (some (.agg #[.string ⟨#[]⟩,.string ⟨#[]⟩,.bool false,.string ⟨#[]⟩]),4,56):=by kernel_rfl
theorem lawToSXWorldUser (o:Option Addr)(F:List GWorldUser)(cap lo:Nat)(w:World)(hF:GWorldUsersL lo w.heap.size w o F)(hlen:F.length≤1048576)(hfit:∀f ∈ F,f.fits 1048576) :
  Calls Tryz.prog 22 #[.slice o F.length cap] w fun e w'=>e=.returned (.slice (some ⟨w.heap.size,0,none⟩) F.length F.length)∧Hid (GWorldUsersL w.heap.size w'.heap.size w' (some ⟨w.heap.size,0,none⟩) F)∧Below w.heap.size w w'∧Hid (Soft w.heap.size w'):=by
 obtain⟨i0,hi,hy0,hy1,hy2⟩:=info_parts Tryz.infoGWorldUser
 have hmk:=run_make (P:=Tryz.prog) w 45 66 i0 _ Tryz.underlying45 hi hy0 .i64 .i64 F.length F.length (by omega) (Int.le_refl _) (by rw[hy2];omega) (by omega)
 simp only[Int.toNat_natCast,hy1] at hmk
 have HF:=mkHid hF
 have Hfit:=mkHid hfit
 clear hF hfit
 obtain⟨c0,hc0⟩:∃c0,c0=madeCells (Value.cells (.agg #[.string ⟨#[]⟩,.string ⟨#[]⟩,.bool false,.string ⟨#[]⟩])) (F.length*4):=⟨_,rfl⟩
 have hcs:c0.size=F.length*4:=by rw[hc0];exact size_madeCells _ _
 rw[← hc0] at hmk
 have Hrow0:Hid (∃f,(w.alloc (.cells c0 66)).rowIs w.heap.size 66 (F.length*4) f):=by
  refine⟨fun j=>c0[j]!,?_⟩
  have:=World.rowIs_alloc w c0 66 (fun j=>c0[j]!) (fun i hi=>by simp[hi])
  rw[hcs] at this
  exact this
 clear hc0 hcs
 go_enter Tryz.func22,Tryz.ntmps22
 go_wp2
 clear hmk
 generalize hG:w.heap.size=G at *
 go_loopw [4] (fun i wr=>∃ (k:Nat) (f:Nat→Value),k≤F.length∧i=.int .i64 k∧wr.rowIs G 66 (F.length*4) f∧Hid (∀j (h:j<F.length),j<k→GWorldUserL f j F[j])∧Below G w wr∧Hid (Soft G wr)) (fun i _=>F.length-(Lib.intOf i).toNat)
 case atStart=>
  obtain⟨f,hx⟩:=Hrow0.out
  exact⟨0,f,Nat.zero_le _,rfl,hx,fun j h h0=>absurd h0 (Nat.not_lt_zero _),(Below.refl _ _).alloc (by omega) _,by rw[← hG];exact(Soft.refl _).alloc _ _⟩
 case round=>
  clear Hrow0
  obtain⟨k,f,hk,rfl,hrow,hall,hb,hSf⟩:=hrel
  by_cases hlt:k<F.length
  ·obtain⟨a,rfl,ha1,ha2,hA⟩:=(HF.out.below hb (Nat.le_refl _)) k hlt
   have hGl:=hrow.lt
   have hT:=mkHid (lawToXWorldUser F[k] lo wr)
   have c0:=hA.c0
   have c1:=hA.c1
   have c2:=hA.c2
   have c3:=hA.c3
   clear hA
   generalize hf:F[k]=n at *
   have Hf:=mkHid hf
   clear hf
   unfold GWorldUserV at hT
   go_wp2_with fail
   refine hT.out.mono ?_
   rintro e w1 ⟨rfl,hb1,hsf1⟩
   have hrow1:w1.rowIs G 66 (F.length*4) f:=hrow.of_block (hb1.block G hGl)
   have hgr:=GWorldUserGr w1 G k n
   obtain⟨f',hrow2,hL,hLo⟩:=GWorldUserRow hrow1 k n
   have hb1s:=hb1.size
   have hS2:Hid (Soft G (GWorldUserSet w1 G k n)):=(((((hSf.out.call hb1 hsf1.out).set _ _ _).set _ _ _).set _ _ _).set _ _ _)
   have hb2:Below G w (GWorldUserSet w1 G k n):=(hb.trans (hb1.mono (by omega))).grown hgr (by omega) (fun j hj=>by cases hj;exact Nat.le_refl _)
   have Hall:Hid (∀j (h:j<F.length),j<k+1→GWorldUserL f' j F[j]):=by
    intro j h hj
    by_cases hjk:j=k
    ·subst hjk
     rw[Hf.out]
     exact hL
    ·exact hLo j _ hjk (hall.out j h (by omega))
   have hd:=fun (j:Nat) (hj:j<4)=>hrow1.cell (i:=k*4+j) (by omega)
   have d0:=hd 0 (by omega)
   have d1:=hd 1 (by omega)
   have d2:=hd 2 (by omega)
   have d3:=hd 3 (by omega)
   have z0:=hrow1.frozen (k*4)
   have z1:=hrow1.frozen (k*4+1)
   have z2:=hrow1.frozen (k*4+2)
   have z3:=hrow1.frozen (k*4+3)
   rw[Nat.add_zero] at d0
   have hadd:=add_off G (k*4)
   replace hrow2:=mkHid hrow2
   replace hb2:=mkHid hb2
   clear hd hrow hrow1 hL hLo hgr hall hb hb1 hb1s hT c0 c1 c2 c3
   unfold GWorldUserSet at hrow2 hb2 hS2
   go_wp2
   go_roundw
   case rel=>exact⟨k+1,f',by omega,by go_num,hrow2.out,Hall.out,hb2.out,hS2⟩
   case measure=>simp[Lib.intOf];omega
  ·go_wp2
   go_ret
   refine⟨by rw[hG];rfl,?_,by rw[hG];exact hb,by rw[hG];exact hSf⟩
   intro i hi
   have hl:=hall.out i hi (by omega)
   refine⟨⟨w.heap.size,0,none⟩,rfl,Nat.le_refl _,by rw[hG];exact hrow.lt,?_⟩
   rw[add_off,hG]
   have hd:=fun (j:Nat) (hj:j<4)=>hrow.cell (i:=i*4+j) (by omega)
   refine⟨?_,?_,?_,?_⟩
   ·have:=hd 0 (by omega);rw[Nat.add_zero,hl.c0] at this;exact this
   ·have:=hd 1 (by omega);rw[hl.c1] at this;exact this
   ·have:=hd 2 (by omega);rw[hl.c2] at this;exact this
   ·have:=hd 3 (by omega);rw[hl.c3] at this;exact this
theorem lawEqWorldUser (n:GWorldUser)(lo lo':Nat)(w:World) :
  Calls Tryz.prog 76 #[GWorldUserV n,GWorldUserV n] w fun e w'=>e=.returned (.bool true)∧Below w.heap.size w w':=by
 have _hlo:=lo+lo'
 unfold GWorldUserV
 go_enter Tryz.func76,Tryz.ntmps76
 go_wp2
 go_ret
 exact⟨rfl,((Below.refl _ _).alloc (Nat.le_refl _) _).alloc (by simp) _⟩
set_option maxRecDepth 10000 in
theorem lawEqSWorldUser (a b:Option Addr)(F:List GWorldUser)(cap cap' lo lo':Nat)(w:World)(hF:GWorldUsersL lo w.heap.size w a F)(hG:GWorldUsersL lo' w.heap.size w b F)(hlen:F.length≤1048576)(hfit:∀f ∈ F,f.fits 1048576) :
  Calls Tryz.prog 32 #[.slice a F.length cap,.slice b F.length cap'] w fun e w'=>e=.returned (.bool true)∧Below w.heap.size w w':=by
 have HF:=mkHid hF
 have HG:=mkHid hG
 have Hfit:=mkHid hfit
 clear hF hG hfit
 go_enter Tryz.func32,Tryz.ntmps32
 go_wp2
 go_loopw [5] (fun i wr=>∃ k:Nat,k≤F.length∧i=.int .i64 k∧Below w.heap.size w wr) (fun i _=>F.length-(Lib.intOf i).toNat)
 case atStart=>exact⟨0,Nat.zero_le _,rfl,Below.refl _ _⟩
 case round=>
  obtain⟨k,hk,rfl,hb0⟩:=hrel
  by_cases hlt:k<F.length
  ·obtain⟨a',rfl,ha,ha',hA⟩:=(HF.out.below hb0 (Nat.le_refl _)) k hlt
   obtain⟨b',rfl,hb,hb',hB⟩:=(HG.out.below hb0 (Nat.le_refl _)) k hlt
   have hE:=mkHid fun (w':World) (_:Below wr.heap.size wr w')=>lawEqWorldUser F[k] lo lo' w'
   have c0:=hA.c0
   have c1:=hA.c1
   have c2:=hA.c2
   have c3:=hA.c3
   have d0:=hB.c0
   have d1:=hB.c1
   have d2:=hB.c2
   have d3:=hB.c3
   clear hA hB
   generalize F[k]=n at *
   have cE:Hid (∀d os,Calls Tryz.prog 76 #[GWorldUserV n,GWorldUserV n] (Go.Sort.grow (redrawn wr d) os) fun e w''=>e=.returned (.bool true)∧∃p:Regrown,w''=Go.Sort.grow (redrawn wr p.d) p.os):=fun d os=>Calls.regrown_of (hE.out _ (below_regrown wr d os))
   unfold GWorldUserV at cE
   go_wp2
   have k0:=cell_regrown c0
   have l0:=cell_regrown d0
   have k1:=cell_regrown c1
   have l1:=cell_regrown d1
   have k2:=cell_regrown c2
   have l2:=cell_regrown d2
   have k3:=cell_regrown c3
   have l3:=cell_regrown d3
   clear hE c0 c1 c2 c3 d0 d1 d2 d3
   refine wp_region_quiet_below (by kernel_rfl) (by kernel_rfl) ?_
   repeat (go_big_quiet_step (exact cE.out _ _))
   refine wpQuiet_nil ?_
   intro _ hw'
   obtain⟨⟨dq,osq⟩,hw''⟩:=hw'
   subst hw''
   have hbq:=mkHid (hb0.trans ((below_regrown wr dq osq).mono hb0.size))
   generalize Go.Sort.grow (redrawn wr dq) osq=wq at *
   clear k0 k1 k2 k3 l0 l1 l2 l3 cE hb0
   go_wp2
   go_roundw
   case rel=>exact⟨k+1,by omega,by go_num,hbq.out⟩
   case measure=>simp[Lib.intOf];omega
  ·go_wp2
   go_ret
   exact⟨rfl,hb0⟩
structure GWordCount where
 word:ByteArray
 good:Int
 bad:Int
def GWordCountV (n:GWordCount):Value:=.agg #[.string n.word,.int .i64 n.good,.int .i64 n.bad]
def GWordCount.fits (n:GWordCount)(m:Nat):Prop:=n.word.size≤m
structure GWordCountAt (w:World)(A:Addr)(n:GWordCount):Prop where
 c0:w.cell? A=some (.string n.word)
 c1:w.cell? ⟨A.block,A.off+1,none⟩=some (.int .i64 n.good)
 c2:w.cell? ⟨A.block,A.off+2,none⟩=some (.int .i64 n.bad)
theorem GWordCountAt.same {lo hi:Nat} {w w':World} {A:Addr} {n:GWordCount} (h:GWordCountAt w A n)(hs:Same lo hi w w')(h1:lo≤A.block)(h2:A.block<hi):GWordCountAt w' A n:=
 ⟨(hs.cell h1 h2).trans h.c0,(hs.cell (p:=⟨A.block,A.off+1,none⟩) h1 h2).trans h.c1,(hs.cell (p:=⟨A.block,A.off+2,none⟩) h1 h2).trans h.c2⟩
def GWordCountsL (lo hi:Nat)(w:World)(o:Option Addr)(F:List GWordCount):Prop:=∀i (h:i<F.length),∃ a,o=some a∧lo≤a.block∧a.block<hi∧GWordCountAt w (a.add (i*3)) F[i]
theorem GWordCountsL.same {lo hi:Nat} {w w':World} {o:Option Addr} {F:List GWordCount} (h:GWordCountsL lo hi w o F)(hs:Same lo hi w w'):GWordCountsL lo hi w' o F:=by
 intro i hi
 obtain⟨a,ho,h1,h2,h3⟩:=h i hi
 exact⟨a,ho,h1,h2,h3.same hs (by rw[add_blockG];exact h1) (by rw[add_blockG];exact h2)⟩
theorem GWordCountsL.mono {lo lo' hi hi':Nat} {w:World} {o:Option Addr} {F:List GWordCount} (h:GWordCountsL lo hi w o F)(hl:lo'≤lo)(hh:hi≤hi'):GWordCountsL lo' hi' w o F:=by
 intro i hi
 obtain⟨a,ho,h1,h2,h3⟩:=h i hi
 exact⟨a,ho,Nat.le_trans hl h1,Nat.lt_of_lt_of_le h2 hh,h3⟩
theorem GWordCountsL.below {lo hi B:Nat} {w w':World} {o:Option Addr} {F:List GWordCount} (h:GWordCountsL lo hi w o F)(hb:Below B w w')(hB:hi≤B):GWordCountsL lo hi w' o F:=h.same (Same.of_below hb hB)
theorem lawSzWordCount (n:GWordCount)(left _lo:Nat)(w:World)(hf:n.fits maxLen)(hl:left≤1048576) :
  Calls Tryz.prog 81 #[GWordCountV n,.int .i64 left] w fun e w'=>∃ r:Int,e=.returned (.int .i64 r)∧Hid (r = -1∨∃ m:Nat,r=m∧m≤left∧n.fits 1048576)∧Below w.heap.size w w':=by
 have f0_0:=hf
 unfold GWordCount.fits at f0_0
 unfold GWordCountV
 unfold maxLen at f0_0
 obtain⟨W,hW⟩:∃W,W=w.alloc (.cells #[.string n.word,.int .i64 n.good,.int .i64 n.bad] 144):=⟨_,rfl⟩
 have hbW:Below w.heap.size w W:=by rw[hW];exact(Below.refl _ _).alloc (Nat.le_refl _) _
 have hWs:w.heap.size<W.heap.size:=by rw[hW];simp
 have HW:=mkHid hW
 clear hW
 by_cases h0:left<n.word.size
 ·go_enter Tryz.func81,Tryz.ntmps81
  go_wp2
  go_ret
  first|rw[← HW.out]|skip
  exact⟨-1,rfl,.inl rfl,hbW⟩
 ·obtain⟨l0,h0a⟩:∃l:Nat,left-n.word.size=l:=⟨_,rfl⟩
  have h0b:(left:Int)-(n.word.size:Int)=(l0:Int):=by omega
  have h0c:l0≤left:=by omega
  have g0:Hid (n.word.size≤1048576):=by show _≤_;omega
  clear h0a
  go_enter Tryz.func81,Tryz.ntmps81
  go_wp2
  go_ret
  first|rw[← HW.out]|skip
  exact⟨_,rfl,.inr ⟨l0,rfl,by omega,g0.out⟩,hbW⟩
theorem lawSzSWordCount (o:Option Addr)(F:List GWordCount)(cap left lo:Nat)(w:World)(hF:GWordCountsL lo w.heap.size w o F)(hlen:F.length≤maxLen)(hsz:∀f ∈ F,f.fits maxLen)(hl:left≤1048576) :
  Calls Tryz.prog 39 #[.slice o F.length cap,.int .i64 left] w fun e w'=>∃ r:Int,e=.returned (.int .i64 r)∧Hid (r = -1∨∃ m:Nat,r=m∧m≤left∧F.length≤1048576∧∀f ∈ F,f.fits 1048576)∧Below w.heap.size w w':=by
 unfold maxLen at hlen
 by_cases hn:left<F.length
 ·clear hF hsz
  go_enter Tryz.func39,Tryz.ntmps39
  go_wp2
  go_ret
  exact⟨-1,rfl,Or.inl rfl,Below.refl _ _⟩
 ·obtain⟨l0,hl0⟩:∃l:Nat,left-F.length=l:=⟨_,rfl⟩
  have hl1:(left:Int)-(F.length:Int)=(l0:Int):=by omega
  have hl2:l0≤left:=by omega
  have hl3:F.length≤1048576:=by omega
  have HF:=mkHid hF
  have Hsz:=mkHid hsz
  clear hF hsz hl0
  go_enter Tryz.func39,Tryz.ntmps39
  go_wp2
  clear hl1
  go_loopw [1,5] (fun l i wr=>∃ (k m:Nat),k≤F.length∧i=.int .i64 k∧m≤left∧l=.int .i64 m∧Hid (∀j (h:j<F.length),j<k→F[j].fits 1048576)∧Below w.heap.size w wr) (fun _ i _=>F.length-(Lib.intOf i).toNat)
  case atStart=>exact⟨0,l0,Nat.zero_le _,rfl,hl2,rfl,fun j h h0=>absurd h0 (Nat.not_lt_zero _),Below.refl _ _⟩
  case round=>
   obtain⟨k,m,hk,rfl,hm,rfl,hall,hb⟩:=hrel
   by_cases hlt:k<F.length
   ·obtain⟨a,rfl,ha1,ha2,hA⟩:=(HF.out.below hb (Nat.le_refl _)) k hlt
    have hS:=mkHid (lawSzWordCount F[k] m lo wr (Hsz.out _ (List.getElem_mem hlt)) (by omega))
    have c0:=hA.c0
    have c1:=hA.c1
    have c2:=hA.c2
    clear hA
    unfold GWordCountV at hS
    generalize hf:F[k]=f at *
    have Hf:=mkHid hf
    clear hf
    go_wp2_with fail
    refine hS.out.mono ?_
    rintro e w1 ⟨r1,rfl,hr1,hb1⟩
    have hb2:=mkHid (hb.trans (hb1.mono hb.size))
    clear hS c0 c1 c2 hb1 hb
    rcases hr1.out with rfl|⟨m1,rfl,hm1,hft⟩
    ·clear hr1
     go_wp2
     go_ret
     exact⟨-1,rfl,Or.inl rfl,hb2.out⟩
    ·replace hft:=mkHid hft
     clear hr1
     go_wp2
     go_roundw
     case rel=>
      refine⟨k+1,m1,by omega,by go_num,by omega,rfl,?_,hb2.out⟩
      intro j h hj
      by_cases hjk:j<k
      ·exact hall.out j h hjk
      ·have:j=k:=by omega
       subst this
       rw[Hf.out];exact hft.out
     case measure=>simp[Lib.intOf];omega
   ·have Hall:Hid (∀f ∈ F,f.fits 1048576):=by
     intro t ht
     obtain⟨j,hj,rfl⟩:=List.getElem_of_mem ht
     exact hall.out j hj (by omega)
    go_wp2
    go_ret
    exact⟨_,rfl,Or.inr ⟨m,rfl,hm,hl3,Hall.out⟩,hb⟩
theorem lawToXWordCount (n:GWordCount)(lo:Nat)(w:World) :
  Calls Tryz.prog 100 #[GWordCountV n] w fun e w'=>e=.returned (GWordCountV n)∧Below w.heap.size w w'∧Hid (Soft w.heap.size w'):=by
 have _hlo:=lo
 unfold GWordCountV
 go_enter Tryz.func100,Tryz.ntmps100
 go_wp2
 refine bodyPost_ret (v:=.agg #[.string n.word,.int .i64 n.good,.int .i64 n.bad]) (by simp[results,Tryz.results100,go_sem]) rfl ⟨rfl,?_⟩
 exact⟨(((Below.refl _ _).alloc (Nat.le_refl _) _).alloc (by simp) _).alloc (by simp;omega) _,(((Soft.refl _).alloc _ _).alloc _ _).alloc _ _⟩
structure GWordCountL (f:Nat→Value)(j:Nat)(n:GWordCount):Prop where
 c0:f (j*3)=.string n.word
 c1:f (j*3+1)=.int .i64 n.good
 c2:f (j*3+2)=.int .i64 n.bad
def GWordCountSet (w:World)(g k:Nat)(n:GWordCount):World:=(((w.setCell ⟨g,k*3,none⟩ (.string n.word)).setCell ⟨g,k*3+1,none⟩ (.int .i64 n.good)).setCell ⟨g,k*3+2,none⟩ (.int .i64 n.bad))
theorem GWordCountRow {w:World} {g t N:Nat} {f:Nat→Value} (h:w.rowIs g t N f)(k:Nat)(n:GWordCount) :
  ∃ f',(GWordCountSet w g k n).rowIs g t N f'∧GWordCountL f' k n∧∀(j:Nat) (m:GWordCount),j≠k→GWordCountL f j m→GWordCountL f' j m:=by
 refine⟨_,(((h.set _ _).set _ _).set _ _),?_,?_⟩
 ·constructor<;>simp
 ·intro j m hj hl
  obtain⟨c0,c1,c2⟩:=hl
  constructor<;>rw[if_neg (by omega),if_neg (by omega),if_neg (by omega)]<;>assumption
theorem GWordCountGr (w:World)(g k:Nat)(n:GWordCount):w.grownBy (GWordCountSet w g k n) (some g):=grG_trans (grG_trans (grG_set _ _ _ _) (grG_set _ _ _ _)) (grG_set _ _ _ _)
theorem Tryz.infoGWordCount:(Tryz.prog.info? 99).map (fun i=>(i.zero,i.size,i.bytes))=some (some (.agg #[.string ⟨#[]⟩,.int .i64 0,.int .i64 0]),3,32):=by kernel_rfl
theorem lawToSXWordCount (o:Option Addr)(F:List GWordCount)(cap lo:Nat)(w:World)(hF:GWordCountsL lo w.heap.size w o F)(hlen:F.length≤1048576)(hfit:∀f ∈ F,f.fits 1048576) :
  Calls Tryz.prog 57 #[.slice o F.length cap] w fun e w'=>e=.returned (.slice (some ⟨w.heap.size,0,none⟩) F.length F.length)∧Hid (GWordCountsL w.heap.size w'.heap.size w' (some ⟨w.heap.size,0,none⟩) F)∧Below w.heap.size w w'∧Hid (Soft w.heap.size w'):=by
 obtain⟨i0,hi,hy0,hy1,hy2⟩:=info_parts Tryz.infoGWordCount
 have hmk:=run_make (P:=Tryz.prog) w 46 99 i0 _ Tryz.underlying46 hi hy0 .i64 .i64 F.length F.length (by omega) (Int.le_refl _) (by rw[hy2];omega) (by omega)
 simp only[Int.toNat_natCast,hy1] at hmk
 have HF:=mkHid hF
 have Hfit:=mkHid hfit
 clear hF hfit
 obtain⟨c0,hc0⟩:∃c0,c0=madeCells (Value.cells (.agg #[.string ⟨#[]⟩,.int .i64 0,.int .i64 0])) (F.length*3):=⟨_,rfl⟩
 have hcs:c0.size=F.length*3:=by rw[hc0];exact size_madeCells _ _
 rw[← hc0] at hmk
 have Hrow0:Hid (∃f,(w.alloc (.cells c0 99)).rowIs w.heap.size 99 (F.length*3) f):=by
  refine⟨fun j=>c0[j]!,?_⟩
  have:=World.rowIs_alloc w c0 99 (fun j=>c0[j]!) (fun i hi=>by simp[hi])
  rw[hcs] at this
  exact this
 clear hc0 hcs
 go_enter Tryz.func57,Tryz.ntmps57
 go_wp2
 clear hmk
 generalize hG:w.heap.size=G at *
 go_loopw [4] (fun i wr=>∃ (k:Nat) (f:Nat→Value),k≤F.length∧i=.int .i64 k∧wr.rowIs G 99 (F.length*3) f∧Hid (∀j (h:j<F.length),j<k→GWordCountL f j F[j])∧Below G w wr∧Hid (Soft G wr)) (fun i _=>F.length-(Lib.intOf i).toNat)
 case atStart=>
  obtain⟨f,hx⟩:=Hrow0.out
  exact⟨0,f,Nat.zero_le _,rfl,hx,fun j h h0=>absurd h0 (Nat.not_lt_zero _),(Below.refl _ _).alloc (by omega) _,by rw[← hG];exact(Soft.refl _).alloc _ _⟩
 case round=>
  clear Hrow0
  obtain⟨k,f,hk,rfl,hrow,hall,hb,hSf⟩:=hrel
  by_cases hlt:k<F.length
  ·obtain⟨a,rfl,ha1,ha2,hA⟩:=(HF.out.below hb (Nat.le_refl _)) k hlt
   have hGl:=hrow.lt
   have hT:=mkHid (lawToXWordCount F[k] lo wr)
   have c0:=hA.c0
   have c1:=hA.c1
   have c2:=hA.c2
   clear hA
   generalize hf:F[k]=n at *
   have Hf:=mkHid hf
   clear hf
   unfold GWordCountV at hT
   go_wp2_with fail
   refine hT.out.mono ?_
   rintro e w1 ⟨rfl,hb1,hsf1⟩
   have hrow1:w1.rowIs G 99 (F.length*3) f:=hrow.of_block (hb1.block G hGl)
   have hgr:=GWordCountGr w1 G k n
   obtain⟨f',hrow2,hL,hLo⟩:=GWordCountRow hrow1 k n
   have hb1s:=hb1.size
   have hS2:Hid (Soft G (GWordCountSet w1 G k n)):=((((hSf.out.call hb1 hsf1.out).set _ _ _).set _ _ _).set _ _ _)
   have hb2:Below G w (GWordCountSet w1 G k n):=(hb.trans (hb1.mono (by omega))).grown hgr (by omega) (fun j hj=>by cases hj;exact Nat.le_refl _)
   have Hall:Hid (∀j (h:j<F.length),j<k+1→GWordCountL f' j F[j]):=by
    intro j h hj
    by_cases hjk:j=k
    ·subst hjk
     rw[Hf.out]
     exact hL
    ·exact hLo j _ hjk (hall.out j h (by omega))
   have hd:=fun (j:Nat) (hj:j<3)=>hrow1.cell (i:=k*3+j) (by omega)
   have d0:=hd 0 (by omega)
   have d1:=hd 1 (by omega)
   have d2:=hd 2 (by omega)
   have z0:=hrow1.frozen (k*3)
   have z1:=hrow1.frozen (k*3+1)
   have z2:=hrow1.frozen (k*3+2)
   rw[Nat.add_zero] at d0
   have hadd:=add_off G (k*3)
   replace hrow2:=mkHid hrow2
   replace hb2:=mkHid hb2
   clear hd hrow hrow1 hL hLo hgr hall hb hb1 hb1s hT c0 c1 c2
   unfold GWordCountSet at hrow2 hb2 hS2
   go_wp2
   go_roundw
   case rel=>exact⟨k+1,f',by omega,by go_num,hrow2.out,Hall.out,hb2.out,hS2⟩
   case measure=>simp[Lib.intOf];omega
  ·go_wp2
   go_ret
   refine⟨by rw[hG];rfl,?_,by rw[hG];exact hb,by rw[hG];exact hSf⟩
   intro i hi
   have hl:=hall.out i hi (by omega)
   refine⟨⟨w.heap.size,0,none⟩,rfl,Nat.le_refl _,by rw[hG];exact hrow.lt,?_⟩
   rw[add_off,hG]
   have hd:=fun (j:Nat) (hj:j<3)=>hrow.cell (i:=i*3+j) (by omega)
   refine⟨?_,?_,?_⟩
   ·have:=hd 0 (by omega);rw[Nat.add_zero,hl.c0] at this;exact this
   ·have:=hd 1 (by omega);rw[hl.c1] at this;exact this
   ·have:=hd 2 (by omega);rw[hl.c2] at this;exact this
theorem lawEqWordCount (n:GWordCount)(lo lo':Nat)(w:World) :
  Calls Tryz.prog 125 #[GWordCountV n,GWordCountV n] w fun e w'=>e=.returned (.bool true)∧Below w.heap.size w w':=by
 have _hlo:=lo+lo'
 unfold GWordCountV
 go_enter Tryz.func125,Tryz.ntmps125
 go_wp2
 go_ret
 exact⟨rfl,((Below.refl _ _).alloc (Nat.le_refl _) _).alloc (by simp) _⟩
set_option maxRecDepth 10000 in
theorem lawEqSWordCount (a b:Option Addr)(F:List GWordCount)(cap cap' lo lo':Nat)(w:World)(hF:GWordCountsL lo w.heap.size w a F)(hG:GWordCountsL lo' w.heap.size w b F)(hlen:F.length≤1048576)(hfit:∀f ∈ F,f.fits 1048576) :
  Calls Tryz.prog 77 #[.slice a F.length cap,.slice b F.length cap'] w fun e w'=>e=.returned (.bool true)∧Below w.heap.size w w':=by
 have HF:=mkHid hF
 have HG:=mkHid hG
 have Hfit:=mkHid hfit
 clear hF hG hfit
 go_enter Tryz.func77,Tryz.ntmps77
 go_wp2
 go_loopw [5] (fun i wr=>∃ k:Nat,k≤F.length∧i=.int .i64 k∧Below w.heap.size w wr) (fun i _=>F.length-(Lib.intOf i).toNat)
 case atStart=>exact⟨0,Nat.zero_le _,rfl,Below.refl _ _⟩
 case round=>
  obtain⟨k,hk,rfl,hb0⟩:=hrel
  by_cases hlt:k<F.length
  ·obtain⟨a',rfl,ha,ha',hA⟩:=(HF.out.below hb0 (Nat.le_refl _)) k hlt
   obtain⟨b',rfl,hb,hb',hB⟩:=(HG.out.below hb0 (Nat.le_refl _)) k hlt
   have hE:=mkHid fun (w':World) (_:Below wr.heap.size wr w')=>lawEqWordCount F[k] lo lo' w'
   have c0:=hA.c0
   have c1:=hA.c1
   have c2:=hA.c2
   have d0:=hB.c0
   have d1:=hB.c1
   have d2:=hB.c2
   clear hA hB
   generalize F[k]=n at *
   have cE:Hid (∀d os,Calls Tryz.prog 125 #[GWordCountV n,GWordCountV n] (Go.Sort.grow (redrawn wr d) os) fun e w''=>e=.returned (.bool true)∧∃p:Regrown,w''=Go.Sort.grow (redrawn wr p.d) p.os):=fun d os=>Calls.regrown_of (hE.out _ (below_regrown wr d os))
   unfold GWordCountV at cE
   go_wp2
   have k0:=cell_regrown c0
   have l0:=cell_regrown d0
   have k1:=cell_regrown c1
   have l1:=cell_regrown d1
   have k2:=cell_regrown c2
   have l2:=cell_regrown d2
   clear hE c0 c1 c2 d0 d1 d2
   refine wp_region_quiet_below (by kernel_rfl) (by kernel_rfl) ?_
   repeat (go_big_quiet_step (exact cE.out _ _))
   refine wpQuiet_nil ?_
   intro _ hw'
   obtain⟨⟨dq,osq⟩,hw''⟩:=hw'
   subst hw''
   have hbq:=mkHid (hb0.trans ((below_regrown wr dq osq).mono hb0.size))
   generalize Go.Sort.grow (redrawn wr dq) osq=wq at *
   clear k0 k1 k2 l0 l1 l2 cE hb0
   go_wp2
   go_roundw
   case rel=>exact⟨k+1,by omega,by go_num,hbq.out⟩
   case measure=>simp[Lib.intOf];omega
  ·go_wp2
   go_ret
   exact⟨rfl,hb0⟩
structure GScoreTable where
 good:Int
 bad:Int
 words:List GWordCount
def GScoreTableV (n:GScoreTable)(v2:Value):Value:=.agg #[.int .i64 n.good,.int .i64 n.bad,v2]
def GScoreTable.fits (n:GScoreTable)(m:Nat):Prop:=n.words.length≤m∧(∀x ∈ n.words,x.fits m)
structure GScoreTableIn (lo hi:Nat)(w:World)(n:GScoreTable)(v2:Value):Prop where
 s2:∃a c,v2=.slice a n.words.length c∧GWordCountsL lo hi w a n.words
theorem lawSzScoreTable (n:GScoreTable)(v2:Value)(left lo:Nat)(w:World)(hI:GScoreTableIn lo w.heap.size w n v2)(hf:n.fits maxLen)(hl:left≤1048576) :
  Calls Tryz.prog 12 #[GScoreTableV n v2,.int .i64 left] w fun e w'=>∃ r:Int,e=.returned (.int .i64 r)∧Hid (r = -1∨∃ m:Nat,r=m∧m≤left∧n.fits 1048576)∧Below w.heap.size w w':=by
 obtain⟨⟨a2,c2,rfl,t2⟩⟩:=hI
 obtain⟨f2_0,f2_1⟩:=hf
 have H2:=mkHid fun (w':World) (hb:Below w.heap.size w w') (m:Nat) (hm:m≤1048576)=>lawSzSWordCount a2 n.words c2 m lo w' ((t2.below hb (Nat.le_refl _)).mono (Nat.le_refl _) hb.size) f2_0 f2_1 hm
 unfold GScoreTableV
 clear f2_0 f2_1 t2
 obtain⟨W,hW⟩:∃W,W=w.alloc (.cells #[.int .i64 n.good,.int .i64 n.bad,.slice a2 n.words.length c2] 33):=⟨_,rfl⟩
 have hbW:Below w.heap.size w W:=by rw[hW];exact(Below.refl _ _).alloc (Nat.le_refl _) _
 have hWs:w.heap.size<W.heap.size:=by rw[hW];simp
 have HW:=mkHid hW
 clear hW
 go_enter Tryz.func12,Tryz.ntmps12
 go_wp2_with fail
 rw[← HW.out]
 refine(H2.out W hbW left (by omega)).mono ?_
 rintro e w1 ⟨r1,rfl,hr1,hb1⟩
 have hz1:w.heap.size<w1.heap.size:=Nat.lt_of_lt_of_le hWs hb1.size
 have hbw1:=hbW.trans (hb1.mono (Nat.le_of_lt hWs))
 clear hb1 HW
 rcases hr1.out with rfl|⟨m1,rfl,hm1,hf1⟩
 ·clear hr1
  go_wp2
  go_ret
  exact⟨-1,rfl,.inl rfl,hbw1⟩
 ·replace hf1:=mkHid hf1
  clear hr1
  go_wp2
  go_ret
  exact⟨_,rfl,.inr ⟨m1,rfl,by omega,hf1.out.1,hf1.out.2⟩,hbw1⟩
theorem lawToXScoreTable (n:GScoreTable)(u2:Value)(lo:Nat)(w:World)(hI:GScoreTableIn lo w.heap.size w n u2)(hf:n.fits 1048576) :
  Calls Tryz.prog 23 #[GScoreTableV n u2] w fun e w'=>∃ v2:Value,e=.returned (GScoreTableV n v2)∧Hid (GScoreTableIn w.heap.size w'.heap.size w' n v2)∧Below w.heap.size w w'∧Hid (Soft w.heap.size w'):=by
 obtain⟨⟨a2,c2,rfl,t2⟩⟩:=hI
 obtain⟨f2_0,f2_1⟩:=hf
 have H2:=mkHid fun (w':World) (hb:Below w.heap.size w w')=>lawToSXWordCount a2 n.words c2 lo w' ((t2.below hb (Nat.le_refl _)).mono (Nat.le_refl _) hb.size) f2_0 f2_1
 clear f2_0 f2_1 t2
 obtain⟨G,hG⟩:∃G,w.heap.size=G:=⟨_,rfl⟩
 obtain⟨V0,hV0⟩:∃W,W=((w.alloc (.cells #[.int .i64 n.good,.int .i64 n.bad,.slice a2 n.words.length c2] 33)).alloc (.cells #[.int .i64 0,.int .i64 0,.slice none 0 0] 48)).alloc (.cells #[.int .i64 n.good,.int .i64 n.bad,.slice none 0 0] 48):=⟨_,rfl⟩
 obtain⟨hb0,hs0,hP0,hR0,hO0⟩:=three_blocks hG hV0
 have hSf:=mkHid (show Soft G V0 by rw[hV0,← hG];exact(((Soft.refl _).alloc _ _).alloc _ _).alloc _ _)
 have HV0:=mkHid hV0
 clear hV0
 have hG':=mkHid hG
 unfold GScoreTableV
 go_enter Tryz.func23,Tryz.ntmps23
 go_wp2_with fail
 rw[← HV0.out]
 refine(H2.out V0 (by rw[hG];exact hb0)).mono ?_
 rintro e w1 ⟨rfl,hT2,hw1,hsf1⟩
 replace hSf:=mkHid (hSf.out.call hw1 hsf1.out)
 obtain⟨g2,hg2⟩:∃g,V0.heap.size=g:=⟨_,rfl⟩
 rw[hg2] at hT2 hw1 hs0 ⊢
 have hw1s:=hw1.size
 rw[hg2] at hw1s
 have hP1a:=(hw1.block G (by omega)).trans hP0
 have hR1a:=(hw1.block (G+1) (by omega)).trans hR0
 have hO1a:=(hw1.block (G+1+1) (by omega)).trans hO0
 have x1_2:w1.cell? ⟨G+1+1,2,none⟩=some (.slice none 0 0):=by simp[World.cell?,hO1a]
 have z1_2:w1.frozen? ⟨G+1+1,2,none⟩=false:=by simp[World.frozen?,hO1a]
 obtain⟨V1,hV1⟩:∃V,V=w1.setCell ⟨G+1+1,2,none⟩ (.slice (some ⟨g2,0,none⟩) n.words.length n.words.length):=⟨_,rfl⟩
 replace hSf:=mkHid (show Soft G V1 by rw[hV1];exact(hSf.out.set _ _ _))
 have hgr1:w1.grownBy V1 (some (G+1+1)):=by rw[hV1];exact grG_set _ _ _ _
 have hP1:=(hgr1.block G (by omega) (by simp;omega)).trans hP1a
 have hR1:=(hgr1.block (G+1) (by omega) (by simp)).trans hR1a
 have hO1:V1.heap[G+1+1]?=some (.cells #[.int .i64 n.good,.int .i64 n.bad,.slice (some ⟨g2,0,none⟩) n.words.length n.words.length] 48 (0,0)):=by rw[hV1];simp[World.setCell,Array.getElem?_modify,hO1a]
 have hs1:G+3≤V1.heap.size:=Nat.le_trans (Nat.le_trans hs0 hw1s) hgr1.size
 have hb1:Below G w V1:=(hb0.trans (hw1.mono (by omega))).grown hgr1 (by omega) (fun k hk=>by cases hk;omega)
 replace hT2:=mkHid ((hT2.out.same (Same.gr hgr1 (by omega) (Nat.le_refl _))).mono (show G+3≤_ by omega) hgr1.size)
 replace hV1:=mkHid hV1
 have HV1:=hV1
 clear hP1a hR1a hO1a hP0 hR0 hO0 hw1 HV0 hgr1 hb0
 clear hs0 hg2 hw1s
 have hgz:=grown_setRow V1 (G+1) #[.int .i64 n.good,.int .i64 n.bad,.slice (some ⟨g2,0,none⟩) n.words.length n.words.length]
 have hSz:=mkHid (hSf.out.setRow (G+1) #[.int .i64 n.good,.int .i64 n.bad,.slice (some ⟨g2,0,none⟩) n.words.length n.words.length])
 clear hSf
 have hbz:=mkHid (hb1.grown hgz (by omega) (fun k hk=>by cases hk;omega))
 replace hT2:=mkHid ((hT2.out.same (Same.gr hgz (by omega) (Nat.le_refl _))).mono (show G≤_ by omega) hgz.size)
 rw[HV1.out] at hT2 hbz hSz hO1 hR1
 clear hgz HV1 hV1 hb1 hP1 hs1
 go_wp2_with (first|(refine wpL_load_row rfl 48 _ rfl (G+1+1) _ 48 (0,0) _ rfl hO1 Tryz.underlying48 rfl (by kernel_rfl) ?_)|(refine wpL_store_row rfl 48 _ _ rfl (G+1) _ rfl rfl 48 _ hR1 (by kernel_rfl) rfl (by simp[Value.oneCell']) ?_)|go_in)
 refine bodyPost_ret (v:=.agg #[.int .i64 n.good,.int .i64 n.bad,.slice (some ⟨g2,0,none⟩) n.words.length n.words.length]) (results_cell_row Tryz.results23 _ _ (G+1) 48 _ (0,0) _ rfl (setRow_heap _ _ _ _ _ _ hR1) Tryz.underlying48 rfl (by kernel_rfl)) rfl ?_
 rw[hG]
 exact⟨_,rfl,⟨⟨_,_,rfl,hT2.out⟩⟩,hbz.out,hSz⟩
theorem lawEqScoreTable (n:GScoreTable)(v2:Value)(u2:Value)(lo lo':Nat)(w:World)(hI:GScoreTableIn lo w.heap.size w n v2)(hJ:GScoreTableIn lo' w.heap.size w n u2)(hf:n.fits 1048576) :
  Calls Tryz.prog 33 #[GScoreTableV n v2,GScoreTableV n u2] w fun e w'=>e=.returned (.bool true)∧Below w.heap.size w w':=by
 obtain⟨⟨a2,c2,rfl,t2⟩⟩:=hI
 obtain⟨⟨b2,d2,rfl,s2⟩⟩:=hJ
 obtain⟨f2_0,f2_1⟩:=hf
 have H2:=mkHid fun (w':World) (hb:Below w.heap.size w w')=>lawEqSWordCount a2 b2 n.words c2 d2 lo lo' w' ((t2.below hb (Nat.le_refl _)).mono (Nat.le_refl _) hb.size) ((s2.below hb (Nat.le_refl _)).mono (Nat.le_refl _) hb.size) f2_0 f2_1
 clear f2_0 f2_1 t2 s2
 unfold GScoreTableV
 obtain⟨W0,hW⟩:∃W,W=(w.alloc (.cells #[.int .i64 n.good,.int .i64 n.bad,.slice a2 n.words.length c2] 48)).alloc (.cells #[.int .i64 n.good,.int .i64 n.bad,.slice b2 n.words.length d2] 48):=⟨_,rfl⟩
 obtain⟨hb0,hs0,hA0,hB0⟩:=two_blocks hW
 have HW:=mkHid hW
 clear hW
 go_enter Tryz.func33,Tryz.ntmps33
 go_wp2_with fail
 rw[← HW.out]
 refine(H2.out W0 hb0).mono ?_
 rintro e W1 ⟨rfl,hw1⟩
 have hw1s:=hw1.size
 have hA1:=(hw1.block w.heap.size (by omega)).trans hA0
 have hB1:=(hw1.block (w.heap.size+1) (by omega)).trans hB0
 have hb1:=hb0.trans (hw1.mono (by omega))
 have hs1:w.heap.size+2≤W1.heap.size:=Nat.le_trans hs0 hw1s
 clear hA0 hB0 hw1 hs0 hb0 hw1s HW
 clear hA1 hB1 hs1
 go_wp2
 go_ret
 exact⟨rfl,hb1⟩
structure GSignKey where
 domain:ByteArray
 selector:ByteArray
 a:Int
 b:Int
def GSignKeyV (n:GSignKey):Value:=.agg #[.string n.domain,.string n.selector,.int .i64 n.a,.int .i64 n.b]
def GSignKey.fits (n:GSignKey)(m:Nat):Prop:=n.domain.size≤m∧n.selector.size≤m
structure GSignKeyAt (w:World)(A:Addr)(n:GSignKey):Prop where
 c0:w.cell? A=some (.string n.domain)
 c1:w.cell? ⟨A.block,A.off+1,none⟩=some (.string n.selector)
 c2:w.cell? ⟨A.block,A.off+2,none⟩=some (.int .i64 n.a)
 c3:w.cell? ⟨A.block,A.off+3,none⟩=some (.int .i64 n.b)
theorem GSignKeyAt.same {lo hi:Nat} {w w':World} {A:Addr} {n:GSignKey} (h:GSignKeyAt w A n)(hs:Same lo hi w w')(h1:lo≤A.block)(h2:A.block<hi):GSignKeyAt w' A n:=
 ⟨(hs.cell h1 h2).trans h.c0,(hs.cell (p:=⟨A.block,A.off+1,none⟩) h1 h2).trans h.c1,(hs.cell (p:=⟨A.block,A.off+2,none⟩) h1 h2).trans h.c2,(hs.cell (p:=⟨A.block,A.off+3,none⟩) h1 h2).trans h.c3⟩
def GSignKeysL (lo hi:Nat)(w:World)(o:Option Addr)(F:List GSignKey):Prop:=∀i (h:i<F.length),∃ a,o=some a∧lo≤a.block∧a.block<hi∧GSignKeyAt w (a.add (i*4)) F[i]
theorem GSignKeysL.same {lo hi:Nat} {w w':World} {o:Option Addr} {F:List GSignKey} (h:GSignKeysL lo hi w o F)(hs:Same lo hi w w'):GSignKeysL lo hi w' o F:=by
 intro i hi
 obtain⟨a,ho,h1,h2,h3⟩:=h i hi
 exact⟨a,ho,h1,h2,h3.same hs (by rw[add_blockG];exact h1) (by rw[add_blockG];exact h2)⟩
theorem GSignKeysL.mono {lo lo' hi hi':Nat} {w:World} {o:Option Addr} {F:List GSignKey} (h:GSignKeysL lo hi w o F)(hl:lo'≤lo)(hh:hi≤hi'):GSignKeysL lo' hi' w o F:=by
 intro i hi
 obtain⟨a,ho,h1,h2,h3⟩:=h i hi
 exact⟨a,ho,Nat.le_trans hl h1,Nat.lt_of_lt_of_le h2 hh,h3⟩
theorem GSignKeysL.below {lo hi B:Nat} {w w':World} {o:Option Addr} {F:List GSignKey} (h:GSignKeysL lo hi w o F)(hb:Below B w w')(hB:hi≤B):GSignKeysL lo hi w' o F:=h.same (Same.of_below hb hB)
theorem lawSzSignKey (n:GSignKey)(left _lo:Nat)(w:World)(hf:n.fits maxLen)(hl:left≤1048576) :
  Calls Tryz.prog 78 #[GSignKeyV n,.int .i64 left] w fun e w'=>∃ r:Int,e=.returned (.int .i64 r)∧Hid (r = -1∨∃ m:Nat,r=m∧m≤left∧n.fits 1048576)∧Below w.heap.size w w':=by
 obtain⟨f0_0,f1_0⟩:=hf
 unfold GSignKeyV
 unfold maxLen at f0_0
 unfold maxLen at f1_0
 obtain⟨W,hW⟩:∃W,W=w.alloc (.cells #[.string n.domain,.string n.selector,.int .i64 n.a,.int .i64 n.b] 137):=⟨_,rfl⟩
 have hbW:Below w.heap.size w W:=by rw[hW];exact(Below.refl _ _).alloc (Nat.le_refl _) _
 have hWs:w.heap.size<W.heap.size:=by rw[hW];simp
 have HW:=mkHid hW
 clear hW
 by_cases h0:left<n.domain.size
 ·go_enter Tryz.func78,Tryz.ntmps78
  go_wp2
  go_ret
  first|rw[← HW.out]|skip
  exact⟨-1,rfl,.inl rfl,hbW⟩
 ·obtain⟨l0,h0a⟩:∃l:Nat,left-n.domain.size=l:=⟨_,rfl⟩
  have h0b:(left:Int)-(n.domain.size:Int)=(l0:Int):=by omega
  have h0c:l0≤left:=by omega
  have g0:Hid (n.domain.size≤1048576):=by show _≤_;omega
  clear h0a
  by_cases h1:l0<n.selector.size
  ·go_enter Tryz.func78,Tryz.ntmps78
   go_wp2
   go_ret
   first|rw[← HW.out]|skip
   exact⟨-1,rfl,.inl rfl,hbW⟩
  ·obtain⟨l1,h1a⟩:∃l:Nat,l0-n.selector.size=l:=⟨_,rfl⟩
   have h1b:(l0:Int)-(n.selector.size:Int)=(l1:Int):=by omega
   have h1c:l1≤l0:=by omega
   have g1:Hid (n.selector.size≤1048576):=by show _≤_;omega
   clear h1a
   go_enter Tryz.func78,Tryz.ntmps78
   go_wp2
   go_ret
   first|rw[← HW.out]|skip
   exact⟨_,rfl,.inr ⟨l1,rfl,by omega,g0.out,g1.out⟩,hbW⟩
theorem lawSzSSignKey (o:Option Addr)(F:List GSignKey)(cap left lo:Nat)(w:World)(hF:GSignKeysL lo w.heap.size w o F)(hlen:F.length≤maxLen)(hsz:∀f ∈ F,f.fits maxLen)(hl:left≤1048576) :
  Calls Tryz.prog 34 #[.slice o F.length cap,.int .i64 left] w fun e w'=>∃ r:Int,e=.returned (.int .i64 r)∧Hid (r = -1∨∃ m:Nat,r=m∧m≤left∧F.length≤1048576∧∀f ∈ F,f.fits 1048576)∧Below w.heap.size w w':=by
 unfold maxLen at hlen
 by_cases hn:left<F.length
 ·clear hF hsz
  go_enter Tryz.func34,Tryz.ntmps34
  go_wp2
  go_ret
  exact⟨-1,rfl,Or.inl rfl,Below.refl _ _⟩
 ·obtain⟨l0,hl0⟩:∃l:Nat,left-F.length=l:=⟨_,rfl⟩
  have hl1:(left:Int)-(F.length:Int)=(l0:Int):=by omega
  have hl2:l0≤left:=by omega
  have hl3:F.length≤1048576:=by omega
  have HF:=mkHid hF
  have Hsz:=mkHid hsz
  clear hF hsz hl0
  go_enter Tryz.func34,Tryz.ntmps34
  go_wp2
  clear hl1
  go_loopw [1,5] (fun l i wr=>∃ (k m:Nat),k≤F.length∧i=.int .i64 k∧m≤left∧l=.int .i64 m∧Hid (∀j (h:j<F.length),j<k→F[j].fits 1048576)∧Below w.heap.size w wr) (fun _ i _=>F.length-(Lib.intOf i).toNat)
  case atStart=>exact⟨0,l0,Nat.zero_le _,rfl,hl2,rfl,fun j h h0=>absurd h0 (Nat.not_lt_zero _),Below.refl _ _⟩
  case round=>
   obtain⟨k,m,hk,rfl,hm,rfl,hall,hb⟩:=hrel
   by_cases hlt:k<F.length
   ·obtain⟨a,rfl,ha1,ha2,hA⟩:=(HF.out.below hb (Nat.le_refl _)) k hlt
    have hS:=mkHid (lawSzSignKey F[k] m lo wr (Hsz.out _ (List.getElem_mem hlt)) (by omega))
    have c0:=hA.c0
    have c1:=hA.c1
    have c2:=hA.c2
    have c3:=hA.c3
    clear hA
    unfold GSignKeyV at hS
    generalize hf:F[k]=f at *
    have Hf:=mkHid hf
    clear hf
    go_wp2_with fail
    refine hS.out.mono ?_
    rintro e w1 ⟨r1,rfl,hr1,hb1⟩
    have hb2:=mkHid (hb.trans (hb1.mono hb.size))
    clear hS c0 c1 c2 c3 hb1 hb
    rcases hr1.out with rfl|⟨m1,rfl,hm1,hft⟩
    ·clear hr1
     go_wp2
     go_ret
     exact⟨-1,rfl,Or.inl rfl,hb2.out⟩
    ·replace hft:=mkHid hft
     clear hr1
     go_wp2
     go_roundw
     case rel=>
      refine⟨k+1,m1,by omega,by go_num,by omega,rfl,?_,hb2.out⟩
      intro j h hj
      by_cases hjk:j<k
      ·exact hall.out j h hjk
      ·have:j=k:=by omega
       subst this
       rw[Hf.out];exact hft.out
     case measure=>simp[Lib.intOf];omega
   ·have Hall:Hid (∀f ∈ F,f.fits 1048576):=by
     intro t ht
     obtain⟨j,hj,rfl⟩:=List.getElem_of_mem ht
     exact hall.out j hj (by omega)
    go_wp2
    go_ret
    exact⟨_,rfl,Or.inr ⟨m,rfl,hm,hl3,Hall.out⟩,hb⟩
theorem lawToXSignKey (n:GSignKey)(lo:Nat)(w:World) :
  Calls Tryz.prog 97 #[GSignKeyV n] w fun e w'=>e=.returned (GSignKeyV n)∧Below w.heap.size w w'∧Hid (Soft w.heap.size w'):=by
 have _hlo:=lo
 unfold GSignKeyV
 go_enter Tryz.func97,Tryz.ntmps97
 go_wp2
 refine bodyPost_ret (v:=.agg #[.string n.domain,.string n.selector,.int .i64 n.a,.int .i64 n.b]) (by simp[results,Tryz.results97,go_sem]) rfl ⟨rfl,?_⟩
 exact⟨(((Below.refl _ _).alloc (Nat.le_refl _) _).alloc (by simp) _).alloc (by simp;omega) _,(((Soft.refl _).alloc _ _).alloc _ _).alloc _ _⟩
structure GSignKeyL (f:Nat→Value)(j:Nat)(n:GSignKey):Prop where
 c0:f (j*4)=.string n.domain
 c1:f (j*4+1)=.string n.selector
 c2:f (j*4+2)=.int .i64 n.a
 c3:f (j*4+3)=.int .i64 n.b
def GSignKeySet (w:World)(g k:Nat)(n:GSignKey):World:=((((w.setCell ⟨g,k*4,none⟩ (.string n.domain)).setCell ⟨g,k*4+1,none⟩ (.string n.selector)).setCell ⟨g,k*4+2,none⟩ (.int .i64 n.a)).setCell ⟨g,k*4+3,none⟩ (.int .i64 n.b))
theorem GSignKeyRow {w:World} {g t N:Nat} {f:Nat→Value} (h:w.rowIs g t N f)(k:Nat)(n:GSignKey) :
  ∃ f',(GSignKeySet w g k n).rowIs g t N f'∧GSignKeyL f' k n∧∀(j:Nat) (m:GSignKey),j≠k→GSignKeyL f j m→GSignKeyL f' j m:=by
 refine⟨_,((((h.set _ _).set _ _).set _ _).set _ _),?_,?_⟩
 ·constructor<;>simp
 ·intro j m hj hl
  obtain⟨c0,c1,c2,c3⟩:=hl
  constructor<;>rw[if_neg (by omega),if_neg (by omega),if_neg (by omega),if_neg (by omega)]<;>assumption
theorem GSignKeyGr (w:World)(g k:Nat)(n:GSignKey):w.grownBy (GSignKeySet w g k n) (some g):=grG_trans (grG_trans (grG_trans (grG_set _ _ _ _) (grG_set _ _ _ _)) (grG_set _ _ _ _)) (grG_set _ _ _ _)
theorem Tryz.infoGSignKey:(Tryz.prog.info? 91).map (fun i=>(i.zero,i.size,i.bytes))=some (some (.agg #[.string ⟨#[]⟩,.string ⟨#[]⟩,.int .i64 0,.int .i64 0]),4,48):=by kernel_rfl
theorem lawToSXSignKey (o:Option Addr)(F:List GSignKey)(cap lo:Nat)(w:World)(hF:GSignKeysL lo w.heap.size w o F)(hlen:F.length≤1048576)(hfit:∀f ∈ F,f.fits 1048576) :
  Calls Tryz.prog 52 #[.slice o F.length cap] w fun e w'=>e=.returned (.slice (some ⟨w.heap.size,0,none⟩) F.length F.length)∧Hid (GSignKeysL w.heap.size w'.heap.size w' (some ⟨w.heap.size,0,none⟩) F)∧Below w.heap.size w w'∧Hid (Soft w.heap.size w'):=by
 obtain⟨i0,hi,hy0,hy1,hy2⟩:=info_parts Tryz.infoGSignKey
 have hmk:=run_make (P:=Tryz.prog) w 38 91 i0 _ Tryz.underlying38 hi hy0 .i64 .i64 F.length F.length (by omega) (Int.le_refl _) (by rw[hy2];omega) (by omega)
 simp only[Int.toNat_natCast,hy1] at hmk
 have HF:=mkHid hF
 have Hfit:=mkHid hfit
 clear hF hfit
 obtain⟨c0,hc0⟩:∃c0,c0=madeCells (Value.cells (.agg #[.string ⟨#[]⟩,.string ⟨#[]⟩,.int .i64 0,.int .i64 0])) (F.length*4):=⟨_,rfl⟩
 have hcs:c0.size=F.length*4:=by rw[hc0];exact size_madeCells _ _
 rw[← hc0] at hmk
 have Hrow0:Hid (∃f,(w.alloc (.cells c0 91)).rowIs w.heap.size 91 (F.length*4) f):=by
  refine⟨fun j=>c0[j]!,?_⟩
  have:=World.rowIs_alloc w c0 91 (fun j=>c0[j]!) (fun i hi=>by simp[hi])
  rw[hcs] at this
  exact this
 clear hc0 hcs
 go_enter Tryz.func52,Tryz.ntmps52
 go_wp2
 clear hmk
 generalize hG:w.heap.size=G at *
 go_loopw [4] (fun i wr=>∃ (k:Nat) (f:Nat→Value),k≤F.length∧i=.int .i64 k∧wr.rowIs G 91 (F.length*4) f∧Hid (∀j (h:j<F.length),j<k→GSignKeyL f j F[j])∧Below G w wr∧Hid (Soft G wr)) (fun i _=>F.length-(Lib.intOf i).toNat)
 case atStart=>
  obtain⟨f,hx⟩:=Hrow0.out
  exact⟨0,f,Nat.zero_le _,rfl,hx,fun j h h0=>absurd h0 (Nat.not_lt_zero _),(Below.refl _ _).alloc (by omega) _,by rw[← hG];exact(Soft.refl _).alloc _ _⟩
 case round=>
  clear Hrow0
  obtain⟨k,f,hk,rfl,hrow,hall,hb,hSf⟩:=hrel
  by_cases hlt:k<F.length
  ·obtain⟨a,rfl,ha1,ha2,hA⟩:=(HF.out.below hb (Nat.le_refl _)) k hlt
   have hGl:=hrow.lt
   have hT:=mkHid (lawToXSignKey F[k] lo wr)
   have c0:=hA.c0
   have c1:=hA.c1
   have c2:=hA.c2
   have c3:=hA.c3
   clear hA
   generalize hf:F[k]=n at *
   have Hf:=mkHid hf
   clear hf
   unfold GSignKeyV at hT
   go_wp2_with fail
   refine hT.out.mono ?_
   rintro e w1 ⟨rfl,hb1,hsf1⟩
   have hrow1:w1.rowIs G 91 (F.length*4) f:=hrow.of_block (hb1.block G hGl)
   have hgr:=GSignKeyGr w1 G k n
   obtain⟨f',hrow2,hL,hLo⟩:=GSignKeyRow hrow1 k n
   have hb1s:=hb1.size
   have hS2:Hid (Soft G (GSignKeySet w1 G k n)):=(((((hSf.out.call hb1 hsf1.out).set _ _ _).set _ _ _).set _ _ _).set _ _ _)
   have hb2:Below G w (GSignKeySet w1 G k n):=(hb.trans (hb1.mono (by omega))).grown hgr (by omega) (fun j hj=>by cases hj;exact Nat.le_refl _)
   have Hall:Hid (∀j (h:j<F.length),j<k+1→GSignKeyL f' j F[j]):=by
    intro j h hj
    by_cases hjk:j=k
    ·subst hjk
     rw[Hf.out]
     exact hL
    ·exact hLo j _ hjk (hall.out j h (by omega))
   have hd:=fun (j:Nat) (hj:j<4)=>hrow1.cell (i:=k*4+j) (by omega)
   have d0:=hd 0 (by omega)
   have d1:=hd 1 (by omega)
   have d2:=hd 2 (by omega)
   have d3:=hd 3 (by omega)
   have z0:=hrow1.frozen (k*4)
   have z1:=hrow1.frozen (k*4+1)
   have z2:=hrow1.frozen (k*4+2)
   have z3:=hrow1.frozen (k*4+3)
   rw[Nat.add_zero] at d0
   have hadd:=add_off G (k*4)
   replace hrow2:=mkHid hrow2
   replace hb2:=mkHid hb2
   clear hd hrow hrow1 hL hLo hgr hall hb hb1 hb1s hT c0 c1 c2 c3
   unfold GSignKeySet at hrow2 hb2 hS2
   go_wp2
   go_roundw
   case rel=>exact⟨k+1,f',by omega,by go_num,hrow2.out,Hall.out,hb2.out,hS2⟩
   case measure=>simp[Lib.intOf];omega
  ·go_wp2
   go_ret
   refine⟨by rw[hG];rfl,?_,by rw[hG];exact hb,by rw[hG];exact hSf⟩
   intro i hi
   have hl:=hall.out i hi (by omega)
   refine⟨⟨w.heap.size,0,none⟩,rfl,Nat.le_refl _,by rw[hG];exact hrow.lt,?_⟩
   rw[add_off,hG]
   have hd:=fun (j:Nat) (hj:j<4)=>hrow.cell (i:=i*4+j) (by omega)
   refine⟨?_,?_,?_,?_⟩
   ·have:=hd 0 (by omega);rw[Nat.add_zero,hl.c0] at this;exact this
   ·have:=hd 1 (by omega);rw[hl.c1] at this;exact this
   ·have:=hd 2 (by omega);rw[hl.c2] at this;exact this
   ·have:=hd 3 (by omega);rw[hl.c3] at this;exact this
theorem lawEqSignKey (n:GSignKey)(lo lo':Nat)(w:World) :
  Calls Tryz.prog 122 #[GSignKeyV n,GSignKeyV n] w fun e w'=>e=.returned (.bool true)∧Below w.heap.size w w':=by
 have _hlo:=lo+lo'
 unfold GSignKeyV
 go_enter Tryz.func122,Tryz.ntmps122
 go_wp2
 go_ret
 exact⟨rfl,((Below.refl _ _).alloc (Nat.le_refl _) _).alloc (by simp) _⟩
set_option maxRecDepth 10000 in
theorem lawEqSSignKey (a b:Option Addr)(F:List GSignKey)(cap cap' lo lo':Nat)(w:World)(hF:GSignKeysL lo w.heap.size w a F)(hG:GSignKeysL lo' w.heap.size w b F)(hlen:F.length≤1048576)(hfit:∀f ∈ F,f.fits 1048576) :
  Calls Tryz.prog 72 #[.slice a F.length cap,.slice b F.length cap'] w fun e w'=>e=.returned (.bool true)∧Below w.heap.size w w':=by
 have HF:=mkHid hF
 have HG:=mkHid hG
 have Hfit:=mkHid hfit
 clear hF hG hfit
 go_enter Tryz.func72,Tryz.ntmps72
 go_wp2
 go_loopw [5] (fun i wr=>∃ k:Nat,k≤F.length∧i=.int .i64 k∧Below w.heap.size w wr) (fun i _=>F.length-(Lib.intOf i).toNat)
 case atStart=>exact⟨0,Nat.zero_le _,rfl,Below.refl _ _⟩
 case round=>
  obtain⟨k,hk,rfl,hb0⟩:=hrel
  by_cases hlt:k<F.length
  ·obtain⟨a',rfl,ha,ha',hA⟩:=(HF.out.below hb0 (Nat.le_refl _)) k hlt
   obtain⟨b',rfl,hb,hb',hB⟩:=(HG.out.below hb0 (Nat.le_refl _)) k hlt
   have hE:=mkHid fun (w':World) (_:Below wr.heap.size wr w')=>lawEqSignKey F[k] lo lo' w'
   have c0:=hA.c0
   have c1:=hA.c1
   have c2:=hA.c2
   have c3:=hA.c3
   have d0:=hB.c0
   have d1:=hB.c1
   have d2:=hB.c2
   have d3:=hB.c3
   clear hA hB
   generalize F[k]=n at *
   have cE:Hid (∀d os,Calls Tryz.prog 122 #[GSignKeyV n,GSignKeyV n] (Go.Sort.grow (redrawn wr d) os) fun e w''=>e=.returned (.bool true)∧∃p:Regrown,w''=Go.Sort.grow (redrawn wr p.d) p.os):=fun d os=>Calls.regrown_of (hE.out _ (below_regrown wr d os))
   unfold GSignKeyV at cE
   go_wp2
   have k0:=cell_regrown c0
   have l0:=cell_regrown d0
   have k1:=cell_regrown c1
   have l1:=cell_regrown d1
   have k2:=cell_regrown c2
   have l2:=cell_regrown d2
   have k3:=cell_regrown c3
   have l3:=cell_regrown d3
   clear hE c0 c1 c2 c3 d0 d1 d2 d3
   refine wp_region_quiet_below (by kernel_rfl) (by kernel_rfl) ?_
   repeat (go_big_quiet_step (exact cE.out _ _))
   refine wpQuiet_nil ?_
   intro _ hw'
   obtain⟨⟨dq,osq⟩,hw''⟩:=hw'
   subst hw''
   have hbq:=mkHid (hb0.trans ((below_regrown wr dq osq).mono hb0.size))
   generalize Go.Sort.grow (redrawn wr dq) osq=wq at *
   clear k0 k1 k2 k3 l0 l1 l2 l3 cE hb0
   go_wp2
   go_roundw
   case rel=>exact⟨k+1,by omega,by go_num,hbq.out⟩
   case measure=>simp[Lib.intOf];omega
  ·go_wp2
   go_ret
   exact⟨rfl,hb0⟩
end Go.Proofs.YtkcajnjledldnaaGreatDoor
