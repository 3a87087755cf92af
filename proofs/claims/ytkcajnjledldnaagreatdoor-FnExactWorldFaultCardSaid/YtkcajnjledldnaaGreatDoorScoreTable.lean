import Derived.Test.YtkcajnjledldnaaGreatDoorImplQueue2
import Derived.Test.YtkcajnjledldnaaGreatDoorGenBase
import Derived.Deep.OwnRows
import Derived.Lib.QuietBelow
import Derived.Deep.QuietTactic
import Derived.BigQuiet
import Derived.Deep.Slices
import Derived.SliceStrings
import Derived.ChangeSlices
import Derived.ChangeMaps5
import Derived.Carry
import Derived.ChangeOld
import Derived.Lib.SmallJoins
set_option maxRecDepth 20000
set_option maxHeartbeats 40000000
namespace Go.Proofs.YtkcajnjledldnaaGreatDoor
open Go.RowKit Go.Lib Go.Maps
abbrev bxQ (n:GQueueConfig)(v1 v2 v3:Value):Obj:=.cells #[.string n.locF,v1,v2,v3,.int .i64 n.maxAge] 44
theorem boxQ_cells (n:GQueueConfig)(v1 v2 v3:Value)(w w2:World)(hb:Below (w.alloc (bxQ n v1 v2 v3)).heap.size (w.alloc (bxQ n v1 v2 v3)) w2) :
  w2.cell? ⟨w.heap.size,1,none⟩=some v1∧w2.cell? ⟨w.heap.size,2,none⟩=some v2∧w2.cell? ⟨w.heap.size,3,none⟩=some v3∧w2.cell? ⟨w.heap.size,4,none⟩=some (.int .i64 n.maxAge):=by
 refine⟨(hb.cell (p:=⟨w.heap.size,1,none⟩) (by simp)).trans ?_,(hb.cell (p:=⟨w.heap.size,2,none⟩) (by simp)).trans ?_,(hb.cell (p:=⟨w.heap.size,3,none⟩) (by simp)).trans ?_,(hb.cell (p:=⟨w.heap.size,4,none⟩) (by simp)).trans ?_⟩<;>simp
def Ky.qimp (n:GQueueConfig):Bool:=(Ky.dok n.locF && Ky.t2 n) && (Ky.asok n.aliases && (Ky.t4 n && (n.mx.all Ky.mok && ((Ky.t5 n && Ky.t6 n) && (n.delays.all Ky.lok && (Ky.t7 n && Ky.t8 n))))))
theorem Ky.qimp_eq (n:GQueueConfig):Ky.qimp n=Ky.qok n:=by
 unfold Ky.qimp Ky.qok
 cases Ky.dok n.locF<;>cases Ky.t2 n<;>cases Ky.asok n.aliases<;>cases Ky.t4 n<;>cases n.mx.all Ky.mok<;>cases Ky.t5 n<;>cases Ky.t6 n<;>cases n.delays.all Ky.lok<;>cases Ky.t7 n<;>cases Ky.t8 n<;>rfl
theorem implQueueConfig (n:GQueueConfig)(v1 v2 v3:Value)(lo:Nat)(mx:Int)(w:World)(hI:GQueueConfigIn lo w.heap.size w n v1 v2 v3)(hf:n.fits 1048576)(hm:w.cell? ⟨0,0,none⟩=some (.int .i64 mx)) :
  Calls Tryz.prog 61 #[GQueueConfigV n v1 v2 v3] w fun e w'=>e=.returned (.bool (Ky.qok n))∧Below w.heap.size w w':=by
 rw[← Ky.qimp_eq]
 obtain⟨⟨a1,e1,rfl,s1⟩,⟨a2,e2,rfl,s2⟩,⟨a3,e3,rfl,s3⟩⟩:=hI
 obtain⟨f0,f1,f1b,f2,f2b,f3⟩:=hf
 have hlt:=bcell_lt hm
 obtain⟨V,hV⟩:∃V,w.alloc (bxQ n (.slice a1 n.aliases.length e1) (.slice a2 n.mx.length e2) (.slice a3 n.delays.length e3))=V:=⟨_,rfl⟩
 have hbV:Below w.heap.size w V:=by rw[← hV];exact(Below.refl _ _).alloc (Nat.le_refl _) _
 have hmV:V.cell? ⟨0,0,none⟩=some (.int .i64 mx):=(hbV.cell hlt).trans hm
 have q1:=mkHid (implLocalDomain n.locF mx V f0 hmV)
 have S1:=mkHid s1
 have S2:=mkHid s2
 have S3:=mkHid s3
 have Hm:=mkHid hm
 have HC:=mkHid (fun (W:World) (hb:Below V.heap.size V W)=>boxQ_cells n (.slice a1 n.aliases.length e1) (.slice a2 n.mx.length e2) (.slice a3 n.delays.length e3) w W (by rw[hV];exact hb))
 have q2:=mkHid (fun (W:World) (hb:Below w.heap.size w W)=>implAreAliases a1 n.aliases e1 lo mx W ((S1.out.below hb (Nat.le_refl _)).mono (Nat.le_refl _) hb.size) f1 f1b ((hb.cell hlt).trans Hm.out))
 have q3:=mkHid (fun (W:World) (hb:Below w.heap.size w W)=>implContainsQM a2 n.mx e2 lo mx W ((S2.out.below hb (Nat.le_refl _)).mono (Nat.le_refl _) hb.size) f2 f2b ((hb.cell hlt).trans Hm.out))
 have q4:=mkHid (fun (W:World)=>implFromToQ (n.delays.length:Int) 1 20 W)
 have q5:=mkHid (fun (W:World) (hb:Below w.heap.size w W)=>implContainsQI a3 n.delays e3 lo mx W ((S3.out.below hb (Nat.le_refl _)).mono (Nat.le_refl _) hb.size) f3 ((hb.cell hlt).trans Hm.out))
 have q6:=mkHid (fun (W:World)=>implIsTimeQ n.maxAge W)
 have h56:(decide ((1:Int)≤(n.delays.length:Int)) && decide ((n.delays.length:Int)≤20))=(Ky.t5 n && Ky.t6 n):=by
  unfold Ky.t5 Ky.t6
  congr 1<;>(apply decide_eq_decide.2;omega)
 have h78:(decide ((0:Int)≤n.maxAge) && decide (n.maxAge≤253402300799))=(Ky.t7 n && Ky.t8 n):=rfl
 have h4:decide ((n.mx.length:Int)≤100)=Ky.t4 n:=by
  unfold Ky.t4
  apply decide_eq_decide.2
  omega
 rw[h56] at q4
 rw[h78] at q6
 rw[show((Ky.low n.locF).toList==n.locF.toList)=Ky.t2 n from rfl] at q1
 clear hm hmV s1 s2 s3 f1b f2b h56 h78
 unfold GQueueConfigV Ky.qimp
 have HV:=mkHid hV
 have HbV:=mkHid hbV
 clear hV hbV
 generalize (Ky.dok n.locF && Ky.t2 n)=b1 at *
 generalize Ky.asok n.aliases=b2 at *
 generalize Ky.t4 n=b3 at *
 generalize n.mx.all Ky.mok=b4 at *
 generalize (Ky.t5 n && Ky.t6 n)=b5 at *
 generalize n.delays.all Ky.lok=b6 at *
 generalize (Ky.t7 n && Ky.t8 n)=b7 at *
 cases b1
 ·go_enter Tryz.func61,Tryz.ntmps61
  go_wp2_with fail
  rw[HV.out]
  refine q1.out.mono ?_
  rintro e w1 ⟨rfl,hb1⟩
  have B1:=mkHid hb1
  have D1:=mkHid (HbV.out.trans (hb1.mono HbV.out.size))
  clear hb1
  go_wp2
  go_ret
  exact⟨by simp,D1.out⟩
 cases b2
 ·go_enter Tryz.func61,Tryz.ntmps61
  go_wp2_with fail
  rw[HV.out]
  refine q1.out.mono ?_
  rintro e w1 ⟨rfl,hb1⟩
  have B1:=mkHid hb1
  have D1:=mkHid (HbV.out.trans (hb1.mono HbV.out.size))
  clear hb1
  obtain⟨c1,c2,c3,c4⟩:=HC.out w1 B1.out
  go_wp2_with fail
  refine(q2.out _ D1.out).mono ?_
  rintro e w2 ⟨rfl,hb2⟩
  have B2:=mkHid (B1.out.trans (hb2.mono B1.out.size))
  have D2:=mkHid (D1.out.trans (hb2.mono D1.out.size))
  clear hb2 c1 c2 c3 c4
  go_wp2
  go_ret
  exact⟨by simp,D2.out⟩
 cases b3
 ·go_enter Tryz.func61,Tryz.ntmps61
  go_wp2_with fail
  rw[HV.out]
  refine q1.out.mono ?_
  rintro e w1 ⟨rfl,hb1⟩
  have B1:=mkHid hb1
  have D1:=mkHid (HbV.out.trans (hb1.mono HbV.out.size))
  clear hb1
  obtain⟨c1,c2,c3,c4⟩:=HC.out w1 B1.out
  go_wp2_with fail
  refine(q2.out _ D1.out).mono ?_
  rintro e w2 ⟨rfl,hb2⟩
  have B2:=mkHid (B1.out.trans (hb2.mono B1.out.size))
  have D2:=mkHid (D1.out.trans (hb2.mono D1.out.size))
  clear hb2 c1 c2 c3 c4
  obtain⟨c1,c2,c3,c4⟩:=HC.out w2 B2.out
  go_wp2
  go_ret
  exact⟨by simp,D2.out⟩
 cases b4
 ·go_enter Tryz.func61,Tryz.ntmps61
  go_wp2_with fail
  rw[HV.out]
  refine q1.out.mono ?_
  rintro e w1 ⟨rfl,hb1⟩
  have B1:=mkHid hb1
  have D1:=mkHid (HbV.out.trans (hb1.mono HbV.out.size))
  clear hb1
  obtain⟨c1,c2,c3,c4⟩:=HC.out w1 B1.out
  go_wp2_with fail
  refine(q2.out _ D1.out).mono ?_
  rintro e w2 ⟨rfl,hb2⟩
  have B2:=mkHid (B1.out.trans (hb2.mono B1.out.size))
  have D2:=mkHid (D1.out.trans (hb2.mono D1.out.size))
  clear hb2 c1 c2 c3 c4
  obtain⟨c1,c2,c3,c4⟩:=HC.out w2 B2.out
  go_wp2_with fail
  refine(q3.out _ D2.out).mono ?_
  rintro e w3 ⟨rfl,hb3⟩
  have B3:=mkHid (B2.out.trans (hb3.mono B2.out.size))
  have D3:=mkHid (D2.out.trans (hb3.mono D2.out.size))
  clear hb3 c1 c2 c3 c4
  go_wp2
  go_ret
  exact⟨by simp,D3.out⟩
 cases b5
 ·go_enter Tryz.func61,Tryz.ntmps61
  go_wp2_with fail
  rw[HV.out]
  refine q1.out.mono ?_
  rintro e w1 ⟨rfl,hb1⟩
  have B1:=mkHid hb1
  have D1:=mkHid (HbV.out.trans (hb1.mono HbV.out.size))
  clear hb1
  obtain⟨c1,c2,c3,c4⟩:=HC.out w1 B1.out
  go_wp2_with fail
  refine(q2.out _ D1.out).mono ?_
  rintro e w2 ⟨rfl,hb2⟩
  have B2:=mkHid (B1.out.trans (hb2.mono B1.out.size))
  have D2:=mkHid (D1.out.trans (hb2.mono D1.out.size))
  clear hb2 c1 c2 c3 c4
  obtain⟨c1,c2,c3,c4⟩:=HC.out w2 B2.out
  go_wp2_with fail
  refine(q3.out _ D2.out).mono ?_
  rintro e w3 ⟨rfl,hb3⟩
  have B3:=mkHid (B2.out.trans (hb3.mono B2.out.size))
  have D3:=mkHid (D2.out.trans (hb3.mono D2.out.size))
  clear hb3 c1 c2 c3 c4
  obtain⟨c1,c2,c3,c4⟩:=HC.out w3 B3.out
  go_wp2_with fail
  refine(q4.out _).mono ?_
  rintro e w4 ⟨rfl,rfl⟩
  go_wp2
  go_ret
  exact⟨by simp,D3.out⟩
 cases b6
 ·go_enter Tryz.func61,Tryz.ntmps61
  go_wp2_with fail
  rw[HV.out]
  refine q1.out.mono ?_
  rintro e w1 ⟨rfl,hb1⟩
  have B1:=mkHid hb1
  have D1:=mkHid (HbV.out.trans (hb1.mono HbV.out.size))
  clear hb1
  obtain⟨c1,c2,c3,c4⟩:=HC.out w1 B1.out
  go_wp2_with fail
  refine(q2.out _ D1.out).mono ?_
  rintro e w2 ⟨rfl,hb2⟩
  have B2:=mkHid (B1.out.trans (hb2.mono B1.out.size))
  have D2:=mkHid (D1.out.trans (hb2.mono D1.out.size))
  clear hb2 c1 c2 c3 c4
  obtain⟨c1,c2,c3,c4⟩:=HC.out w2 B2.out
  go_wp2_with fail
  refine(q3.out _ D2.out).mono ?_
  rintro e w3 ⟨rfl,hb3⟩
  have B3:=mkHid (B2.out.trans (hb3.mono B2.out.size))
  have D3:=mkHid (D2.out.trans (hb3.mono D2.out.size))
  clear hb3 c1 c2 c3 c4
  obtain⟨c1,c2,c3,c4⟩:=HC.out w3 B3.out
  go_wp2_with fail
  refine(q4.out _).mono ?_
  rintro e w4 ⟨rfl,rfl⟩
  go_wp2_with fail
  refine(q5.out _ D3.out).mono ?_
  rintro e w5 ⟨rfl,hb5⟩
  have B5:=mkHid (B3.out.trans (hb5.mono B3.out.size))
  have D5:=mkHid (D3.out.trans (hb5.mono D3.out.size))
  clear hb5 c1 c2 c3 c4
  go_wp2
  go_ret
  exact⟨by simp,D5.out⟩
 go_enter Tryz.func61,Tryz.ntmps61
 go_wp2_with fail
 rw[HV.out]
 refine q1.out.mono ?_
 rintro e w1 ⟨rfl,hb1⟩
 have B1:=mkHid hb1
 have D1:=mkHid (HbV.out.trans (hb1.mono HbV.out.size))
 clear hb1
 obtain⟨c1,c2,c3,c4⟩:=HC.out w1 B1.out
 go_wp2_with fail
 refine(q2.out _ D1.out).mono ?_
 rintro e w2 ⟨rfl,hb2⟩
 have B2:=mkHid (B1.out.trans (hb2.mono B1.out.size))
 have D2:=mkHid (D1.out.trans (hb2.mono D1.out.size))
 clear hb2 c1 c2 c3 c4
 obtain⟨c1,c2,c3,c4⟩:=HC.out w2 B2.out
 go_wp2_with fail
 refine(q3.out _ D2.out).mono ?_
 rintro e w3 ⟨rfl,hb3⟩
 have B3:=mkHid (B2.out.trans (hb3.mono B2.out.size))
 have D3:=mkHid (D2.out.trans (hb3.mono D2.out.size))
 clear hb3 c1 c2 c3 c4
 obtain⟨c1,c2,c3,c4⟩:=HC.out w3 B3.out
 go_wp2_with fail
 refine(q4.out _).mono ?_
 rintro e w4 ⟨rfl,rfl⟩
 go_wp2_with fail
 refine(q5.out _ D3.out).mono ?_
 rintro e w5 ⟨rfl,hb5⟩
 have B5:=mkHid (B3.out.trans (hb5.mono B3.out.size))
 have D5:=mkHid (D3.out.trans (hb5.mono D3.out.size))
 clear hb5 c1 c2 c3 c4
 obtain⟨c1,c2,c3,c4⟩:=HC.out w5 B5.out
 go_wp2_with fail
 refine(q6.out _).mono ?_
 rintro e w6 ⟨rfl,rfl⟩
 go_wp2
 go_ret
 exact⟨by simp,D5.out⟩
theorem implQueueFault (n:GQueueConfig)(v1 v2 v3:Value)(lo:Nat)(mx:Int)(w:World)(hI:GQueueConfigIn lo w.heap.size w n v1 v2 v3)(hf:n.fits 1048576)(hm:w.cell? ⟨0,0,none⟩=some (.int .i64 mx)) :
  Calls Tryz.prog 26 #[GQueueConfigV n v1 v2 v3] w fun e w'=>e=.returned (.int .i64 (plQueueFault n))∧Below w.heap.size w w':=by
 have hlt:=bcell_lt hm
 have hbV:Below w.heap.size w (w.alloc (bxQ n v1 v2 v3)):=(Below.refl _ _).alloc (Nat.le_refl _) _
 have q1:=mkHid (implQueueConfig n v1 v2 v3 lo mx (w.alloc (bxQ n v1 v2 v3)) ((hI.same (Same.of_below hbV (Nat.le_refl _))).mono (Nat.le_refl _) hbV.size) hf ((hbV.cell hlt).trans hm))
 have q2:=mkHid (fun w=>implFormD (Ky.qok n) w)
 unfold plQueueFault
 generalize Ky.qok n=b at *
 clear hI hf hm
 unfold GQueueConfigV at q1 ⊢
 have HbV:=mkHid hbV
 clear hbV
 go_enter Tryz.func26,Tryz.ntmps26
 go_wp2_with first|(go_at_call 61;go_must (refine q1.out.mono ?_;rintro e w2 ⟨rfl,hb2⟩))|(go_at_call 24;go_must (refine(q2.out _).mono ?_;rintro e w3 ⟨rfl,rfl⟩))
 go_ret
 exact⟨rfl,HbV.out.trans (hb2.mono HbV.out.size)⟩
theorem mkHw {p:Prop} (h:p):Hid p:=h
structure Wc where
 word:ByteArray
 good:Int
 bad:Int
structure WcAt (w:World)(A:Addr)(c:Wc):Prop where
 c0:w.cell? A=some (.string c.word)
 c1:w.cell? ⟨A.block,A.off+1,none⟩=some (.int .i64 c.good)
 c2:w.cell? ⟨A.block,A.off+2,none⟩=some (.int .i64 c.bad)
theorem WcAt.below {B:Nat} {w w':World} {A:Addr} {c:Wc} (h:WcAt w A c)(hb:Below B w w')(hA:A.block<B):WcAt w' A c:=
 ⟨(hb.cell hA).trans h.c0,(hb.cell (p:=⟨A.block,A.off+1,none⟩) hA).trans h.c1,(hb.cell (p:=⟨A.block,A.off+2,none⟩) hA).trans h.c2⟩
theorem add_blockW (a:Addr)(n:Nat):(a.add n).block=a.block:=by unfold Addr.add;split<;>rfl
def Wcs (B:Nat)(w:World)(o:Option Addr)(F:List Wc):Prop:=∀i (h:i<F.length),∃ a,o=some a∧a.block<B∧WcAt w (a.add (i*3)) F[i]
theorem Wcs.below {B:Nat} {w w':World} {o:Option Addr} {F:List Wc} (h:Wcs B w o F)(hb:Below B w w'):Wcs B w' o F:=by
 intro i hi
 obtain⟨a,ho,ha,h1⟩:=h i hi
 exact⟨a,ho,ha,h1.below hb (by rw[add_blockW];exact ha)⟩
def wcV (c:Wc):Value:=.agg #[.string c.word,.int .i64 c.good,.int .i64 c.bad]
def tbV (g b:Int)(v:Value):Value:=.agg #[.int .i64 g,.int .i64 b,v]
structure L3 (f:Nat→Value)(j:Nat)(c:Wc):Prop where
 c0:f (j*3)=.string c.word
 c1:f (j*3+1)=.int .i64 c.good
 c2:f (j*3+2)=.int .i64 c.bad
namespace Sc
def low (c:UInt8):Bool:=decide (97≤c.toNat) && decide (c.toNat≤122)
def dig (c:UInt8):Bool:=decide (48≤c.toNat) && decide (c.toNat≤57)
def ch (c:UInt8):Bool:=low c || dig c
def word (t:ByteArray):Bool:=decide (3≤t.size) && (decide (t.size≤20) && t.data.toList.all ch)
end Sc
theorem specLowC (c:UInt8)(w:World):Calls Tryz.prog 86 #[.int .u8 (c.toNat:Int)] w fun e w'=>e=.returned (.bool (Sc.low c))∧w=w':=by
 have h8:c.toNat<256:=UInt8.toNat_lt _
 unfold Sc.low
 by_cases h1:97≤c.toNat
 ·by_cases h2:c.toNat≤122
  ·rw[decide_eq_true h1,decide_eq_true h2]
   have h2':decide ((c.toNat:Int)≤122)=true:=by simp;omega
   go_enter Tryz.func86,Tryz.ntmps86
   go_wp2
   go_ret
   exact⟨rfl,rfl⟩
  ·rw[decide_eq_true h1,decide_eq_false h2]
   have h2':decide ((c.toNat:Int)≤122)=false:=by simp;omega
   go_enter Tryz.func86,Tryz.ntmps86
   go_wp2
   go_ret
   exact⟨rfl,rfl⟩
 ·rw[decide_eq_false h1]
  go_enter Tryz.func86,Tryz.ntmps86
  go_wp2
  go_ret
  exact⟨rfl,rfl⟩
theorem specDigC (c:UInt8)(w:World):Calls Tryz.prog 87 #[.int .u8 (c.toNat:Int)] w fun e w'=>e=.returned (.bool (Sc.dig c))∧w=w':=by
 have h8:c.toNat<256:=UInt8.toNat_lt _
 unfold Sc.dig
 by_cases h1:48≤c.toNat
 ·by_cases h2:c.toNat≤57
  ·rw[decide_eq_true h1,decide_eq_true h2]
   have h2':decide ((c.toNat:Int)≤57)=true:=by simp;omega
   go_enter Tryz.func87,Tryz.ntmps87
   go_wp2
   go_ret
   exact⟨rfl,rfl⟩
  ·rw[decide_eq_true h1,decide_eq_false h2]
   have h2':decide ((c.toNat:Int)≤57)=false:=by simp;omega
   go_enter Tryz.func87,Tryz.ntmps87
   go_wp2
   go_ret
   exact⟨rfl,rfl⟩
 ·rw[decide_eq_false h1]
  go_enter Tryz.func87,Tryz.ntmps87
  go_wp2
  go_ret
  exact⟨rfl,rfl⟩
theorem all_dropW {α:Type} (f:α→Bool)(l:List α)(k:Nat)(h:k<l.length):(l.drop k).all f=(f l[k] && (l.drop (k+1)).all f):=by
 rw[List.drop_eq_getElem_cons h,List.all_cons]
theorem specWord (s:ByteArray)(w:World)(hs:s.size≤1048576):Calls Tryz.prog 46 #[.string s] w fun e w'=>e=.returned (.bool (Sc.word s))∧w=w':=by
 unfold Sc.word
 by_cases h1:3≤s.size
 ·by_cases h2:s.size≤20
  ·rw[decide_eq_true h1,decide_eq_true h2,Bool.true_and,Bool.true_and]
   obtain⟨A,hA⟩:∃A,s.data.toList.all Sc.ch=A:=⟨_,rfl⟩
   rw[hA]
   replace hA:=mkHw hA
   have hll:Hid (s.data.toList.length=s.size):=by simp[Hid]
   go_enter Tryz.func46,Tryz.ntmps46
   go_wp2
   go_loopw [3] (fun i wr=>∃ k:Nat,k≤s.size∧i=.int .i64 k∧Hid ((s.data.toList.drop k).all Sc.ch=A)∧wr=w) (fun i _=>s.size-(Lib.intOf i).toNat)
   case atStart=>exact⟨0,Nat.zero_le _,rfl,hA,rfl⟩
   case round=>
    obtain⟨k,hk,rfl,hal,hWr⟩:=hrel
    have hWr':wr=w:=hWr
    clear hWr
    subst hWr'
    by_cases hlt:k<s.size
    ·have hst:=all_dropW Sc.ch s.data.toList k (by rw[hll.out];exact hlt)
     rw[hal.out,show s.data.toList[k]'(by rw[hll.out];exact hlt)=s[k] from rfl] at hst
     unfold Sc.ch at hst
     replace hst:=mkHw hst
     cases hc:Sc.low s[k]
     ·cases hd:Sc.dig s[k]
      ·have hf:Hid (A=false):=by rw[hst.out,hc,hd];exact Bool.false_and _
       have hL:=specLowC s[k] wr
       rw[hc] at hL
       have hD:=specDigC s[k] wr
       rw[hd] at hD
       clear hst hal hc hd
       go_wp2_with fail
       refine hL.mono ?_
       rintro e w2 ⟨rfl,rfl⟩
       go_wp2_with fail
       refine hD.mono ?_
       rintro e w2 ⟨rfl,rfl⟩
       go_wp2
       go_ret
       rw[hf.out]
       exact⟨rfl,rfl⟩
      ·have hf:Hid ((s.data.toList.drop (k+1)).all Sc.ch=A):=by rw[hst.out,hc,hd];exact(Bool.true_and _).symm
       have hL:=specLowC s[k] wr
       rw[hc] at hL
       have hD:=specDigC s[k] wr
       rw[hd] at hD
       clear hst hal hc hd
       go_wp2_with fail
       refine hL.mono ?_
       rintro e w2 ⟨rfl,rfl⟩
       go_wp2_with fail
       refine hD.mono ?_
       rintro e w2 ⟨rfl,rfl⟩
       go_wp2
       go_roundw
       case rel=>exact⟨k+1,by omega,by go_num,hf,trivial⟩
       case measure=>simp[Lib.intOf];omega
     ·have hf:Hid ((s.data.toList.drop (k+1)).all Sc.ch=A):=by rw[hst.out,hc,Bool.true_or];exact(Bool.true_and _).symm
      have hL:=specLowC s[k] wr
      rw[hc] at hL
      clear hst hal hc
      go_wp2_with fail
      refine hL.mono ?_
      rintro e w2 ⟨rfl,rfl⟩
      go_wp2
      go_roundw
      case rel=>exact⟨k+1,by omega,by go_num,hf,trivial⟩
      case measure=>simp[Lib.intOf];omega
    ·have hf:Hid (A=true):=by
      have:=hal.out
      rw[List.drop_eq_nil_of_le (by rw[hll.out];omega)] at this
      exact this.symm
     go_wp2
     go_ret
     rw[hf.out]
     exact⟨rfl,rfl⟩
  ·rw[decide_eq_true h1,decide_eq_false h2]
   go_enter Tryz.func46,Tryz.ntmps46
   go_wp2
   go_ret
   exact⟨rfl,rfl⟩
 ·rw[decide_eq_false h1]
  go_enter Tryz.func46,Tryz.ntmps46
  go_wp2
  go_ret
  exact⟨rfl,rfl⟩
namespace Sc
end Sc
theorem wrap_inW (n:Int)(h0:-9223372036854775808≤n)(h1:n≤9223372036854775807):IntKind.i64.wrap n=n:=by
 simp only[IntKind.wrap,IntKind.bits,IntKind.signed,Bool.true_and]
 split<;>rename_i h<;>simp at h<;>omega
theorem implLowC (c:UInt8)(w:World):Calls Tryz.prog 153 #[.int .u8 (c.toNat:Int)] w fun e w'=>e=.returned (.bool (Sc.low c))∧w=w':=by
 have h8:c.toNat<256:=UInt8.toNat_lt _
 unfold Sc.low
 by_cases h1:97≤c.toNat
 ·by_cases h2:c.toNat≤122
  ·rw[decide_eq_true h1,decide_eq_true h2]
   have h2':decide ((c.toNat:Int)≤122)=true:=by simp;omega
   go_enter Tryz.func153,Tryz.ntmps153
   go_wp2
   go_ret
   exact⟨rfl,rfl⟩
  ·rw[decide_eq_true h1,decide_eq_false h2]
   have h2':decide ((c.toNat:Int)≤122)=false:=by simp;omega
   go_enter Tryz.func153,Tryz.ntmps153
   go_wp2
   go_ret
   exact⟨rfl,rfl⟩
 ·rw[decide_eq_false h1]
  go_enter Tryz.func153,Tryz.ntmps153
  go_wp2
  go_ret
  exact⟨rfl,rfl⟩
theorem implDigC (c:UInt8)(w:World):Calls Tryz.prog 154 #[.int .u8 (c.toNat:Int)] w fun e w'=>e=.returned (.bool (Sc.dig c))∧w=w':=by
 have h8:c.toNat<256:=UInt8.toNat_lt _
 unfold Sc.dig
 by_cases h1:48≤c.toNat
 ·by_cases h2:c.toNat≤57
  ·rw[decide_eq_true h1,decide_eq_true h2]
   have h2':decide ((c.toNat:Int)≤57)=true:=by simp;omega
   go_enter Tryz.func154,Tryz.ntmps154
   go_wp2
   go_ret
   exact⟨rfl,rfl⟩
  ·rw[decide_eq_true h1,decide_eq_false h2]
   have h2':decide ((c.toNat:Int)≤57)=false:=by simp;omega
   go_enter Tryz.func154,Tryz.ntmps154
   go_wp2
   go_ret
   exact⟨rfl,rfl⟩
 ·rw[decide_eq_false h1]
  go_enter Tryz.func154,Tryz.ntmps154
  go_wp2
  go_ret
  exact⟨rfl,rfl⟩
theorem implScoreByte (c:UInt8)(w:World):Calls Tryz.prog 121 #[.int .u8 (c.toNat:Int)] w fun e w'=>e=.returned (.bool (Sc.ch c))∧w=w':=by
 have h8:c.toNat<256:=UInt8.toNat_lt _
 have hL:=implLowC c w
 have hD:=implDigC c w
 unfold Sc.ch
 cases h1:Sc.low c
 ·rw[h1] at hL
  go_enter Tryz.func121,Tryz.ntmps121
  go_wp2_with fail
  refine hL.mono ?_
  rintro e w2 ⟨rfl,rfl⟩
  go_wp2_with fail
  refine hD.mono ?_
  rintro e w2 ⟨rfl,rfl⟩
  go_wp2
  go_ret
  exact⟨rfl,rfl⟩
 ·rw[h1] at hL
  go_enter Tryz.func121,Tryz.ntmps121
  go_wp2_with fail
  refine hL.mono ?_
  rintro e w2 ⟨rfl,rfl⟩
  go_wp2
  go_ret
  exact⟨rfl,rfl⟩
theorem kindScore:Kind 121 Sc.ch:=⟨Go.Proofs.enters_of Tryz.func121 (by kernel_rfl) rfl,implScoreByte⟩
theorem implHasSize (n:Nat)(w:World)(_hn:n≤1100000):Calls Tryz.prog 119 #[.int .i64 (n:Int)] w fun e w'=>e=.returned (.bool (decide (3≤n) && decide (n≤20)))∧w=w':=by
 by_cases h1:3≤n
 ·have h1':decide ((3:Int)≤(n:Int))=true:=by simp;omega
  by_cases h2:n≤20
  ·have h2':decide ((n:Int)≤20)=true:=by simp;omega
   rw[decide_eq_true h1,decide_eq_true h2]
   go_enter Tryz.func119,Tryz.ntmps119
   go_wp2
   go_ret
   exact⟨rfl,rfl⟩
  ·have h2':decide ((n:Int)≤20)=false:=by simp;omega
   rw[decide_eq_true h1,decide_eq_false h2]
   go_enter Tryz.func119,Tryz.ntmps119
   go_wp2
   go_ret
   exact⟨rfl,rfl⟩
 ·have h1':decide ((3:Int)≤(n:Int))=false:=by simp;omega
  rw[decide_eq_false h1]
  go_enter Tryz.func119,Tryz.ntmps119
  go_wp2
  go_ret
  exact⟨rfl,rfl⟩
theorem implWord (s:ByteArray)(w:World)(hs:s.size≤1048576):Calls Tryz.prog 70 #[.string s] w fun e w'=>e=.returned (.bool (Sc.word s))∧w=w':=by
 have hH:=implHasSize s.size w (by omega)
 have hA:=implAllOf kindScore s w (by omega)
 unfold Sc.word
 rw[← Bool.and_assoc]
 generalize (decide (3≤s.size) && decide (s.size≤20))=b at *
 generalize s.data.toList.all Sc.ch=A at *
 cases b
 ·go_enter Tryz.func70,Tryz.ntmps70
  go_wp2_with fail
  refine hH.mono ?_
  rintro e w2 ⟨rfl,rfl⟩
  go_wp2
  go_ret
  exact⟨rfl,rfl⟩
 ·go_enter Tryz.func70,Tryz.ntmps70
  go_wp2_with fail
  refine hH.mono ?_
  rintro e w2 ⟨rfl,rfl⟩
  go_wp2_with fail
  refine hA.mono ?_
  rintro e w2 ⟨rfl,rfl⟩
  go_wp2
  go_ret
  exact⟨rfl,rfl⟩
def ctV (g b:Int):Value:=.agg #[.int .i64 g,.int .i64 b]
theorem implTabCounts (g b:Int)(v:Value)(w:World):Calls Tryz.prog 68 #[tbV g b v] w fun e w'=>e=.returned (ctV g b)∧Below w.heap.size w w':=by
 unfold tbV ctV
 go_enter Tryz.func68,Tryz.ntmps68
 go_wp2
 refine bodyPost_ret (v:=.agg #[.int .i64 g,.int .i64 b]) (by simp[results,Tryz.results68,go_sem]) rfl ⟨rfl,?_⟩
 exact((Below.refl _ _).alloc (Nat.le_refl _) _).alloc (by simp) _
theorem implWordCounts (c:Wc)(w:World):Calls Tryz.prog 71 #[wcV c] w fun e w'=>e=.returned (ctV c.good c.bad)∧Below w.heap.size w w':=by
 unfold wcV ctV
 go_enter Tryz.func71,Tryz.ntmps71
 go_wp2
 refine bodyPost_ret (v:=.agg #[.int .i64 c.good,.int .i64 c.bad]) (by simp[results,Tryz.results71,go_sem]) rfl ⟨rfl,?_⟩
 exact((Below.refl _ _).alloc (Nat.le_refl _) _).alloc (by simp) _
namespace Sc
def within (a b g h:Int):Bool:=decide (0≤a) && (decide (a≤g) && (decide (0≤b) && decide (b≤h)))
end Sc
theorem implWithin (a b g h:Int)(w:World):Calls Tryz.prog 69 #[ctV a b,ctV g h] w fun e w'=>e=.returned (.bool (Sc.within a b g h))∧Below w.heap.size w w':=by
 unfold ctV Sc.within
 have hB:Hid (∀v1 t1 v2 t2,Below w.heap.size w ((w.alloc (.cells v1 t1)).alloc (.cells v2 t2))):=fun v1 t1 v2 t2=>((Below.refl _ _).alloc (Nat.le_refl _) _).alloc (by simp) _
 cases h1:decide (0≤a)
 ·go_enter Tryz.func69,Tryz.ntmps69
  go_wp2
  go_ret
  exact⟨rfl,hB.out _ _ _ _⟩
 ·cases h2:decide (a≤g)
  ·go_enter Tryz.func69,Tryz.ntmps69
   go_wp2
   go_ret
   exact⟨rfl,hB.out _ _ _ _⟩
  ·cases h3:decide (0≤b)
   ·go_enter Tryz.func69,Tryz.ntmps69
    go_wp2
    go_ret
    exact⟨rfl,hB.out _ _ _ _⟩
   ·cases h4:decide (b≤h)
    ·go_enter Tryz.func69,Tryz.ntmps69
     go_wp2
     go_ret
     exact⟨rfl,hB.out _ _ _ _⟩
    ·go_enter Tryz.func69,Tryz.ntmps69
     go_wp2
     go_ret
     exact⟨rfl,hB.out _ _ _ _⟩
namespace Sc
def less (p:Option ByteArray)(t:ByteArray):Bool:=match p with|none=>true|some q=>Op.bytesLess q.toList t.toList
def okRow (g b:Int)(p:Option ByteArray)(c:Wc):Bool:=word c.word && (less p c.word && (decide (0≤c.good) && (decide (c.good≤g) && (decide (0≤c.bad) && (decide (c.bad≤b) && !(c.good+c.bad==0))))))
def rows (g b:Int):Option ByteArray→List Wc→Bool
 | _,[]=>true
 | p,c::r=>okRow g b p c && rows g b (some c.word) r
def okT (g b:Int)(F:List Wc):Bool:=decide (0≤g) && (decide (g≤1000000) && (decide (0≤b) && (decide (b≤1000000) && (decide (F.length≤1000) && rows g b none F))))
def code (b:Bool):Int:=if b then 0 else 1
theorem rows_step (g b:Int)(p:Option ByteArray)(F:List Wc)(i:Nat)(h:i<F.length):rows g b p (F.drop i)=(okRow g b p F[i] && rows g b (some F[i].word) (F.drop (i+1))):=by
 rw[List.drop_eq_getElem_cons h,rows]
end Sc
theorem specTable (g b:Int)(o:Option Addr)(F:List Wc)(cap:Nat)(w:World)(hF:Wcs w.heap.size w o F)(hlF:F.length≤1048576)(hfit:∀c ∈ F,c.word.size≤1048576) :
  Calls Tryz.prog 17 #[tbV g b (.slice o F.length cap)] w fun e w'=>e=.returned (.int .i64 (Sc.code (Sc.okT g b F)))∧Below w.heap.size w w':=by
 have HF:=mkHw hF
 have Hfit:=mkHw hfit
 clear hF hfit
 unfold tbV
 obtain⟨Z,hZ⟩:∃Z,Sc.code (Sc.okT g b F)=Z:=⟨_,rfl⟩
 rw[hZ]
 unfold Sc.okT at hZ
 by_cases a1:0≤g
 ·rw[decide_eq_true a1,Bool.true_and] at hZ
  by_cases a2:g≤1000000
  ·rw[decide_eq_true a2,Bool.true_and] at hZ
   by_cases a3:0≤b
   ·rw[decide_eq_true a3,Bool.true_and] at hZ
    by_cases a4:b≤1000000
    ·rw[decide_eq_true a4,Bool.true_and] at hZ
     by_cases a5:F.length≤1000
     ·rw[decide_eq_true a5,Bool.true_and] at hZ
      have x10:decide (g<0)=false:=decide_eq_false (by omega)
      have x11:decide (1000000<g)=false:=decide_eq_false (by omega)
      have x12:decide (b<0)=false:=decide_eq_false (by omega)
      have x13:decide (1000000<b)=false:=decide_eq_false (by omega)
      have x14:decide ((1000:Int)<(F.length:Int))=false:=decide_eq_false (by omega)
      have hbA:Below w.heap.size w (w.alloc (.cells #[.int .i64 g,.int .i64 b,.slice o F.length cap] 48)):=(Below.refl _ _).alloc (Nat.le_refl _) _
      obtain⟨W,hW⟩:∃W,W=w.alloc (.cells #[.int .i64 g,.int .i64 b,.slice o F.length cap] 48):=⟨_,rfl⟩
      have t0:W.cell? ⟨w.heap.size,0,none⟩=some (.int .i64 g):=by rw[hW];simp
      have t1:W.cell? ⟨w.heap.size,1,none⟩=some (.int .i64 b):=by rw[hW];simp
      have t2:W.cell? ⟨w.heap.size,2,none⟩=some (.slice o F.length cap):=by rw[hW];simp
      have hWs:w.heap.size<W.heap.size:=by rw[hW];simp
      rw[← hW] at hbA
      have HW:=mkHw hW
      have HZ:Hid (Sc.code (Sc.rows g b none (F.drop 0))=Z):=by rw[List.drop_zero];exact hZ
      clear hW hZ
      go_enter Tryz.func17,Tryz.ntmps17
      go_wp2
      rw[← HW.out]
      clear HW
      generalize hG:w.heap.size=G at *
      go_loopw [3] (fun iv wr=>∃ (i:Nat) (p:Option ByteArray),i≤F.length∧iv=.int .i64 i∧Hid (Sc.code (Sc.rows g b p (F.drop i))=Z)∧Hid ((i=0∧p=none)∨∃ (j:Nat) (h:j<F.length),i=j+1∧p=some F[j].word)∧Below W.heap.size W wr) (fun iv _=>F.length-(Lib.intOf iv).toNat)
      case atStart=>exact⟨0,none,Nat.zero_le _,rfl,HZ,.inl ⟨rfl,rfl⟩,Below.refl _ _⟩
      case round=>
       clear HZ
       obtain⟨i,p,hi,rfl,hz,hp,hb⟩:=hrel
       have hGr:G<wr.heap.size:=Nat.lt_of_lt_of_le hWs hb.size
       have r0:=(hb.cell (p:=⟨G,0,none⟩) hWs).trans t0
       have r1:=(hb.cell (p:=⟨G,1,none⟩) hWs).trans t1
       have r2:=(hb.cell (p:=⟨G,2,none⟩) hWs).trans t2
       by_cases hlt:i<F.length
       ·have hbB:=hbA.trans (hb.mono (Nat.le_of_lt hWs))
        obtain⟨a,rfl,ha,hA⟩:=(HF.out.below hbB) i hlt
        have c0:=hA.c0
        have c1:=hA.c1
        have c2:=hA.c2
        have hz1:=hz.out
        rw[Sc.rows_step g b p F i hlt] at hz1
        replace hz1:=mkHw hz1
        have hnf:=mkHw (Hfit.out F[i] (List.getElem_mem hlt))
        obtain⟨n,hn⟩:∃n,F[i]=n:=⟨_,rfl⟩
        have hnw:Hid (some n.word=some F[i].word):=by rw[← hn];rfl
        rw[hn] at c0 c1 c2 hz1 hnf
        obtain⟨V,hV⟩:∃V,V=wr.alloc (.cells #[.string n.word,.int .i64 n.good,.int .i64 n.bad] 99):=⟨_,rfl⟩
        have q0:V.cell? ⟨wr.heap.size,0,none⟩=some (.string n.word):=by rw[hV];simp
        have q1:V.cell? ⟨wr.heap.size,1,none⟩=some (.int .i64 n.good):=by rw[hV];simp
        have q2:V.cell? ⟨wr.heap.size,2,none⟩=some (.int .i64 n.bad):=by rw[hV];simp
        have hbV:Below wr.heap.size wr V:=by rw[hV];exact(Below.refl _ _).alloc (Nat.le_refl _) _
        have hVs:wr.heap.size<V.heap.size:=by rw[hV];simp
        have hbr:=hb.trans (hbV.mono hb.size)
        have s0:=(hbV.cell (p:=⟨G,0,none⟩) hGr).trans r0
        have s1:=(hbV.cell (p:=⟨G,1,none⟩) hGr).trans r1
        have s2:=(hbV.cell (p:=⟨G,2,none⟩) hGr).trans r2
        have k0:=q0
        have k1:=q1
        have k2:=q2
        have hWr:=hb.size
        have hilt:Hid (i<F.length):=hlt
        clear hz hA q0 q1 q2
        rcases hp.out with ⟨rfl,rfl⟩|⟨j,hj,rfl,rfl⟩
        ·have hn0:=mkHw hn
         have ea0:a.add (0*3)=a:=by simp[Addr.add]
         rw[ea0] at c0 c1 c2
         clear hn hp ea0
         have cW:Hid (∀n',Calls Tryz.prog 46 #[.string n.word] (V.drewN n') fun e w''=>e=.returned (.bool (Sc.word n.word))∧∃m,w''=V.drewN m):=fun n'=>Calls.quiet_of_same ((specWord n.word _ hnf.out).mono fun e w' ⟨h1,h2⟩=>⟨h1,h2.symm⟩)
         have hV':=mkHw hV
         clear hV
         go_wp2
         rw[← hV'.out]
         clear hV'
         by_cases hw:Sc.word n.word=true
         ·rw[hw] at cW
          have hls:Sc.less none n.word=true:=rfl
          by_cases h3:0≤n.good
          ·by_cases h4:n.good≤g
           ·by_cases h5:0≤n.bad
            ·by_cases h6:n.bad≤b
             ·have x0:decide (n.good<0)=false:=decide_eq_false (by omega)
              have x1:decide (g<n.good)=false:=decide_eq_false (by omega)
              have x2:decide (n.bad<0)=false:=decide_eq_false (by omega)
              have x3:decide (b<n.bad)=false:=decide_eq_false (by omega)
              have hws:IntKind.i64.wrap (n.good+n.bad)=n.good+n.bad:=wrap_inW _ (by omega) (by omega)
              by_cases h7:n.good+n.bad=0
              ·have x7:(n.good+n.bad==0)=true:=by rw[beq_iff_eq];exact h7
               replace h7:=mkHw h7
               have hr:Hid (Z=1):=by
                show Z=1
                rw[← hz1.out]
                unfold Sc.okRow
                rw[hw,hls,decide_eq_true h3,decide_eq_true h4,decide_eq_true h5,decide_eq_true h6,x7]
                simp[Sc.code]
               clear hz1
               go_quiet (exact cW.out _)
               have hbq:=mkHw (Go.below_drewN hbr nq)
               clear s0 s1 s2 k0 k1 k2 cW
               go_wp2
               go_ret
               first|rw[hr.out,hG]|rw[hr.out]
               exact⟨rfl,hbA.trans (hbq.out.mono (Nat.le_of_lt hWs))⟩
              ·have x7:(n.good+n.bad==0)=false:=by rw[beq_eq_false_iff_ne];exact h7
               replace h7:=mkHw h7
               have hr:Hid (Sc.code (Sc.rows g b (some n.word) (F.drop (0+1)))=Z):=by
                show _=Z
                rw[← hz1.out]
                unfold Sc.okRow
                rw[hw,hls,decide_eq_true h3,decide_eq_true h4,decide_eq_true h5,decide_eq_true h6,x7]
                rfl
               clear hz1
               go_quiet (exact cW.out _)
               have hbq:=mkHw (Go.below_drewN hbr nq)
               clear s0 s1 s2 k0 k1 k2 cW
               go_wp2
               go_roundw
               case rel=>exact⟨1,some n.word,by omega,by go_num,hr,.inr ⟨0,hilt.out,rfl,hnw.out⟩,hbq.out⟩
               case measure=>simp[Lib.intOf];omega
             ·have x0:decide (n.good<0)=false:=decide_eq_false (by omega)
              have x1:decide (g<n.good)=false:=decide_eq_false (by omega)
              have x2:decide (n.bad<0)=false:=decide_eq_false (by omega)
              have x3:decide (b<n.bad)=true:=decide_eq_true (by omega)
              have hr:Hid (Z=1):=by
               show Z=1
               rw[← hz1.out]
               unfold Sc.okRow
               rw[hw,hls,decide_eq_true h3,decide_eq_true h4,decide_eq_true h5,decide_eq_false h6]
               simp[Sc.code]
              clear hz1
              go_quiet (exact cW.out _)
              have hbq:=mkHw (Go.below_drewN hbr nq)
              clear s0 s1 s2 k0 k1 k2 cW
              go_wp2
              go_ret
              first|rw[hr.out,hG]|rw[hr.out]
              exact⟨rfl,hbA.trans (hbq.out.mono (Nat.le_of_lt hWs))⟩
            ·have x0:decide (n.good<0)=false:=decide_eq_false (by omega)
             have x1:decide (g<n.good)=false:=decide_eq_false (by omega)
             have x2:decide (n.bad<0)=true:=decide_eq_true (by omega)
             have hr:Hid (Z=1):=by
              show Z=1
              rw[← hz1.out]
              unfold Sc.okRow
              rw[hw,hls,decide_eq_true h3,decide_eq_true h4,decide_eq_false h5]
              simp[Sc.code]
             clear hz1
             go_quiet (exact cW.out _)
             have hbq:=mkHw (Go.below_drewN hbr nq)
             clear s0 s1 s2 k0 k1 k2 cW
             go_wp2
             go_ret
             first|rw[hr.out,hG]|rw[hr.out]
             exact⟨rfl,hbA.trans (hbq.out.mono (Nat.le_of_lt hWs))⟩
           ·have x0:decide (n.good<0)=false:=decide_eq_false (by omega)
            have x1:decide (g<n.good)=true:=decide_eq_true (by omega)
            have hr:Hid (Z=1):=by
             show Z=1
             rw[← hz1.out]
             unfold Sc.okRow
             rw[hw,hls,decide_eq_true h3,decide_eq_false h4]
             simp[Sc.code]
            clear hz1
            go_quiet (exact cW.out _)
            have hbq:=mkHw (Go.below_drewN hbr nq)
            clear s0 s1 s2 k0 k1 k2 cW
            go_wp2
            go_ret
            first|rw[hr.out,hG]|rw[hr.out]
            exact⟨rfl,hbA.trans (hbq.out.mono (Nat.le_of_lt hWs))⟩
          ·have x0:decide (n.good<0)=true:=decide_eq_true (by omega)
           have hr:Hid (Z=1):=by
            show Z=1
            rw[← hz1.out]
            unfold Sc.okRow
            rw[hw,hls,decide_eq_false h3]
            simp[Sc.code]
           clear hz1
           go_quiet (exact cW.out _)
           have hbq:=mkHw (Go.below_drewN hbr nq)
           clear s0 s1 s2 k0 k1 k2 cW
           go_wp2
           go_ret
           first|rw[hr.out,hG]|rw[hr.out]
           exact⟨rfl,hbA.trans (hbq.out.mono (Nat.le_of_lt hWs))⟩
         ·replace hw:Sc.word n.word=false:=by simpa only[Bool.not_eq_true] using hw
          rw[hw] at cW
          have hr:Hid (Z=1):=by
           show Z=1
           rw[← hz1.out]
           unfold Sc.okRow
           rw[hw]
           simp[Sc.code]
          clear hz1
          go_quiet (exact cW.out _)
          have hbq:=mkHw (Go.below_drewN hbr nq)
          clear s0 s1 s2 k0 k1 k2 cW
          go_wp2
          go_ret
          first|rw[hr.out,hG]|rw[hr.out]
          exact⟨rfl,hbA.trans (hbq.out.mono (Nat.le_of_lt hWs))⟩
        ·obtain⟨a',ea,ha',hA'⟩:=(HF.out.below hbB) j hj
         cases ea
         have p0:=hA'.c0
         have hal:(a.add (j*3)).block<wr.heap.size:=by rw[add_blockW];omega
         have s3:=(hbV.cell (p:=a.add (j*3)) hal).trans p0
         have hji:((j+1:Nat):Int)-1=(j:Int):=by omega
         have hj0:decide ((0:Int)<((j+1:Nat):Int))=true:=by simp
         have hwj:IntKind.i64.wrap (j:Int)=(j:Int):=wrap_inW _ (by omega) (by omega)
         have hjI:(0:Int)≤(j:Int)∧(j:Int)<(F.length:Int):=⟨by omega,by omega⟩
         have hn0:=mkHw hn
         clear hA' p0 hn hp
         generalize F[j].word=pw at *
         have cW:Hid (∀n',Calls Tryz.prog 46 #[.string n.word] (V.drewN n') fun e w''=>e=.returned (.bool (Sc.word n.word))∧∃m,w''=V.drewN m):=fun n'=>Calls.quiet_of_same ((specWord n.word _ hnf.out).mono fun e w' ⟨h1,h2⟩=>⟨h1,h2.symm⟩)
         have hV':=mkHw hV
         clear hV
         go_wp2
         rw[← hV'.out]
         clear hV'
         by_cases hw:Sc.word n.word=true
         ·rw[hw] at cW
          by_cases hls:Sc.less (some pw) n.word=true
          ·have x8:Op.bytesLess pw.toList n.word.toList=true:=hls
           by_cases h3:0≤n.good
           ·by_cases h4:n.good≤g
            ·by_cases h5:0≤n.bad
             ·by_cases h6:n.bad≤b
              ·have x0:decide (n.good<0)=false:=decide_eq_false (by omega)
               have x1:decide (g<n.good)=false:=decide_eq_false (by omega)
               have x2:decide (n.bad<0)=false:=decide_eq_false (by omega)
               have x3:decide (b<n.bad)=false:=decide_eq_false (by omega)
               have hws:IntKind.i64.wrap (n.good+n.bad)=n.good+n.bad:=wrap_inW _ (by omega) (by omega)
               by_cases h7:n.good+n.bad=0
               ·have x7:(n.good+n.bad==0)=true:=by rw[beq_iff_eq];exact h7
                replace h7:=mkHw h7
                have hr:Hid (Z=1):=by
                 show Z=1
                 rw[← hz1.out]
                 unfold Sc.okRow
                 rw[hw,hls,decide_eq_true h3,decide_eq_true h4,decide_eq_true h5,decide_eq_true h6,x7]
                 simp[Sc.code]
                clear hz1
                go_quiet (exact cW.out _)
                have hbq:=mkHw (Go.below_drewN hbr nq)
                clear s0 s1 s2 k0 k1 k2 cW
                go_wp2
                go_ret
                first|rw[hr.out,hG]|rw[hr.out]
                exact⟨rfl,hbA.trans (hbq.out.mono (Nat.le_of_lt hWs))⟩
               ·have x7:(n.good+n.bad==0)=false:=by rw[beq_eq_false_iff_ne];exact h7
                replace h7:=mkHw h7
                have hr:Hid (Sc.code (Sc.rows g b (some n.word) (F.drop (j+1+1)))=Z):=by
                 show _=Z
                 rw[← hz1.out]
                 unfold Sc.okRow
                 rw[hw,hls,decide_eq_true h3,decide_eq_true h4,decide_eq_true h5,decide_eq_true h6,x7]
                 rfl
                clear hz1
                go_quiet (exact cW.out _)
                have hbq:=mkHw (Go.below_drewN hbr nq)
                clear s0 s1 s2 k0 k1 k2 cW
                go_wp2
                go_roundw
                case rel=>exact⟨j+1+1,some n.word,by omega,by go_num,hr,.inr ⟨j+1,hilt.out,rfl,hnw.out⟩,hbq.out⟩
                case measure=>simp[Lib.intOf];omega
              ·have x0:decide (n.good<0)=false:=decide_eq_false (by omega)
               have x1:decide (g<n.good)=false:=decide_eq_false (by omega)
               have x2:decide (n.bad<0)=false:=decide_eq_false (by omega)
               have x3:decide (b<n.bad)=true:=decide_eq_true (by omega)
               have hr:Hid (Z=1):=by
                show Z=1
                rw[← hz1.out]
                unfold Sc.okRow
                rw[hw,hls,decide_eq_true h3,decide_eq_true h4,decide_eq_true h5,decide_eq_false h6]
                simp[Sc.code]
               clear hz1
               go_quiet (exact cW.out _)
               have hbq:=mkHw (Go.below_drewN hbr nq)
               clear s0 s1 s2 k0 k1 k2 cW
               go_wp2
               go_ret
               first|rw[hr.out,hG]|rw[hr.out]
               exact⟨rfl,hbA.trans (hbq.out.mono (Nat.le_of_lt hWs))⟩
             ·have x0:decide (n.good<0)=false:=decide_eq_false (by omega)
              have x1:decide (g<n.good)=false:=decide_eq_false (by omega)
              have x2:decide (n.bad<0)=true:=decide_eq_true (by omega)
              have hr:Hid (Z=1):=by
               show Z=1
               rw[← hz1.out]
               unfold Sc.okRow
               rw[hw,hls,decide_eq_true h3,decide_eq_true h4,decide_eq_false h5]
               simp[Sc.code]
              clear hz1
              go_quiet (exact cW.out _)
              have hbq:=mkHw (Go.below_drewN hbr nq)
              clear s0 s1 s2 k0 k1 k2 cW
              go_wp2
              go_ret
              first|rw[hr.out,hG]|rw[hr.out]
              exact⟨rfl,hbA.trans (hbq.out.mono (Nat.le_of_lt hWs))⟩
            ·have x0:decide (n.good<0)=false:=decide_eq_false (by omega)
             have x1:decide (g<n.good)=true:=decide_eq_true (by omega)
             have hr:Hid (Z=1):=by
              show Z=1
              rw[← hz1.out]
              unfold Sc.okRow
              rw[hw,hls,decide_eq_true h3,decide_eq_false h4]
              simp[Sc.code]
             clear hz1
             go_quiet (exact cW.out _)
             have hbq:=mkHw (Go.below_drewN hbr nq)
             clear s0 s1 s2 k0 k1 k2 cW
             go_wp2
             go_ret
             first|rw[hr.out,hG]|rw[hr.out]
             exact⟨rfl,hbA.trans (hbq.out.mono (Nat.le_of_lt hWs))⟩
           ·have x0:decide (n.good<0)=true:=decide_eq_true (by omega)
            have hr:Hid (Z=1):=by
             show Z=1
             rw[← hz1.out]
             unfold Sc.okRow
             rw[hw,hls,decide_eq_false h3]
             simp[Sc.code]
            clear hz1
            go_quiet (exact cW.out _)
            have hbq:=mkHw (Go.below_drewN hbr nq)
            clear s0 s1 s2 k0 k1 k2 cW
            go_wp2
            go_ret
            first|rw[hr.out,hG]|rw[hr.out]
            exact⟨rfl,hbA.trans (hbq.out.mono (Nat.le_of_lt hWs))⟩
          ·replace hls:Sc.less (some pw) n.word=false:=by simpa only[Bool.not_eq_true] using hls
           have x8:Op.bytesLess pw.toList n.word.toList=false:=hls
           have hr:Hid (Z=1):=by
            show Z=1
            rw[← hz1.out]
            unfold Sc.okRow
            rw[hw,hls]
            simp[Sc.code]
           clear hz1
           go_quiet (exact cW.out _)
           have hbq:=mkHw (Go.below_drewN hbr nq)
           clear s0 s1 s2 k0 k1 k2 cW
           go_wp2
           go_ret
           first|rw[hr.out,hG]|rw[hr.out]
           exact⟨rfl,hbA.trans (hbq.out.mono (Nat.le_of_lt hWs))⟩
         ·replace hw:Sc.word n.word=false:=by simpa only[Bool.not_eq_true] using hw
          rw[hw] at cW
          have hr:Hid (Z=1):=by
           show Z=1
           rw[← hz1.out]
           unfold Sc.okRow
           rw[hw]
           simp[Sc.code]
          clear hz1
          go_quiet (exact cW.out _)
          have hbq:=mkHw (Go.below_drewN hbr nq)
          clear s0 s1 s2 k0 k1 k2 cW
          go_wp2
          go_ret
          first|rw[hr.out,hG]|rw[hr.out]
          exact⟨rfl,hbA.trans (hbq.out.mono (Nat.le_of_lt hWs))⟩
       ·have hr:Hid (Z=0):=by
         show Z=0
         have:=hz.out
         rw[List.drop_eq_nil_of_le (by omega),Sc.rows] at this
         exact this.symm
        go_wp2
        go_ret
        first|rw[hr.out,hG]|rw[hr.out]
        exact⟨rfl,hbA.trans (hb.mono (Nat.le_of_lt hWs))⟩
     ·rw[decide_eq_false a5,Bool.false_and] at hZ
      have x10:decide (g<0)=false:=decide_eq_false (by omega)
      have x11:decide (1000000<g)=false:=decide_eq_false (by omega)
      have x12:decide (b<0)=false:=decide_eq_false (by omega)
      have x13:decide (1000000<b)=false:=decide_eq_false (by omega)
      have x14:decide ((1000:Int)<(F.length:Int))=true:=decide_eq_true (by omega)
      replace hZ:Hid (Z=1):=hZ.symm
      clear a1 a2 a3 a4 a5
      go_enter Tryz.func17,Tryz.ntmps17
      go_wp2
      go_ret
      rw[hZ.out]
      exact⟨rfl,(Below.refl _ _).alloc (Nat.le_refl _) _⟩
    ·rw[decide_eq_false a4,Bool.false_and] at hZ
     have x10:decide (g<0)=false:=decide_eq_false (by omega)
     have x11:decide (1000000<g)=false:=decide_eq_false (by omega)
     have x12:decide (b<0)=false:=decide_eq_false (by omega)
     have x13:decide (1000000<b)=true:=decide_eq_true (by omega)
     replace hZ:Hid (Z=1):=hZ.symm
     clear a1 a2 a3 a4
     go_enter Tryz.func17,Tryz.ntmps17
     go_wp2
     go_ret
     rw[hZ.out]
     exact⟨rfl,(Below.refl _ _).alloc (Nat.le_refl _) _⟩
   ·rw[decide_eq_false a3,Bool.false_and] at hZ
    have x10:decide (g<0)=false:=decide_eq_false (by omega)
    have x11:decide (1000000<g)=false:=decide_eq_false (by omega)
    have x12:decide (b<0)=true:=decide_eq_true (by omega)
    replace hZ:Hid (Z=1):=hZ.symm
    clear a1 a2 a3
    go_enter Tryz.func17,Tryz.ntmps17
    go_wp2
    go_ret
    rw[hZ.out]
    exact⟨rfl,(Below.refl _ _).alloc (Nat.le_refl _) _⟩
  ·rw[decide_eq_false a2,Bool.false_and] at hZ
   have x10:decide (g<0)=false:=decide_eq_false (by omega)
   have x11:decide (1000000<g)=true:=decide_eq_true (by omega)
   replace hZ:Hid (Z=1):=hZ.symm
   clear a1 a2
   go_enter Tryz.func17,Tryz.ntmps17
   go_wp2
   go_ret
   rw[hZ.out]
   exact⟨rfl,(Below.refl _ _).alloc (Nat.le_refl _) _⟩
 ·rw[decide_eq_false a1,Bool.false_and] at hZ
  have x10:decide (g<0)=true:=decide_eq_true (by omega)
  replace hZ:Hid (Z=1):=hZ.symm
  clear a1
  go_enter Tryz.func17,Tryz.ntmps17
  go_wp2
  go_ret
  rw[hZ.out]
  exact⟨rfl,(Below.refl _ _).alloc (Nat.le_refl _) _⟩
end Go.Proofs.YtkcajnjledldnaaGreatDoor
