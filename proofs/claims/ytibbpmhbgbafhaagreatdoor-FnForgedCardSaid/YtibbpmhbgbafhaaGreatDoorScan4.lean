import Derived.Test.YtibbpmhbgbafhaaGreatDoorReadPlain
import Derived.Test.YtibbpmhbgbafhaaGreatDoorFields
import Derived.Lib.QuietBelow
import Derived.Deep.QuietTactic
import Derived.BigQuiet
import Derived.Deep.RegionWith
import Derived.WalkSmall
import Derived.ScopeJumps
import Derived.WalkMore
set_option maxRecDepth 20000
set_option maxHeartbeats 4000000
namespace Go.Proofs.YtibbpmhbgbafhaaGreatDoor
open Go.RowKit Go.Lib
structure Sc (w:World)(g:Nat)(s:ByteArray)(a b:Nat):Prop where
 blk:w.heap[g]?=some (.cells #[.string s,.int .i64 a,.int .i64 b] 90)
theorem Sc.c0 {w:World} {g:Nat} {s:ByteArray} {a b:Nat} (h:Sc w g s a b):w.cell? ⟨g,0,none⟩=some (.string s):=by simp[World.cell?,h.blk]
theorem Sc.c1 {w:World} {g:Nat} {s:ByteArray} {a b:Nat} (h:Sc w g s a b):w.cell? ⟨g,1,none⟩=some (.int .i64 a):=by simp[World.cell?,h.blk]
theorem Sc.c2 {w:World} {g:Nat} {s:ByteArray} {a b:Nat} (h:Sc w g s a b):w.cell? ⟨g,2,none⟩=some (.int .i64 b):=by simp[World.cell?,h.blk]
theorem Sc.f1 {w:World} {g:Nat} {s:ByteArray} {a b:Nat} (h:Sc w g s a b):w.frozen? ⟨g,1,none⟩=false:=by simp[World.frozen?,h.blk]
theorem Sc.f2 {w:World} {g:Nat} {s:ByteArray} {a b:Nat} (h:Sc w g s a b):w.frozen? ⟨g,2,none⟩=false:=by simp[World.frozen?,h.blk]
theorem Sc.lt {w:World} {g:Nat} {s:ByteArray} {a b:Nat} (h:Sc w g s a b):g<w.heap.size:=by
 have h:=h.blk
 by_cases hg:g<w.heap.size
 ·exact hg
 ·rw[Array.getElem?_eq_none (by omega)] at h;cases h
theorem Sc.below {w w':World} {g:Nat} {s:ByteArray} {a b:Nat} (h:Sc w g s a b)(hb:Below w.heap.size w w'):Sc w' g s a b:=by
 have:=h.lt
 exact⟨by rw[hb.block g this];exact h.blk⟩
theorem Sc.set1 {w:World} {g:Nat} {s:ByteArray} {a b:Nat} (h:Sc w g s a b)(n:Int)(m:Nat)(hn:n=m):Sc (w.setCell ⟨g,1,none⟩ (.int .i64 n)) g s m b:=by
 subst hn
 exact⟨by simp[World.setCell,Array.getElem?_modify,h.blk]⟩
theorem Sc.set2 {w:World} {g:Nat} {s:ByteArray} {a b:Nat} (h:Sc w g s a b)(n:Int)(m:Nat)(hn:n=m):Sc (w.setCell ⟨g,2,none⟩ (.int .i64 n)) g s a m:=by
 subst hn
 exact⟨by simp[World.setCell,Array.getElem?_modify,h.blk]⟩
theorem grown_refl (w:World)(r:Option Nat):w.grownBy w r:=⟨rfl,rfl,rfl,Nat.le_refl _,fun _ _ _=>rfl⟩
theorem grown_trans {a b c:World} {r:Option Nat} (h:a.grownBy b r)(k:b.grownBy c r):a.grownBy c r:=
 ⟨k.os.trans h.os,k.tape.trans h.tape,k.output.trans h.output,Nat.le_trans h.size k.size,fun i hi hr=>(k.block i (Nat.lt_of_lt_of_le hi h.size) hr).trans (h.block i hi hr)⟩
theorem grown_below {w w':World} {r:Option Nat} (h:Below w.heap.size w w'):w.grownBy w' r:=⟨h.os,h.tape,h.output,h.size,fun k hk _=>h.block k hk⟩
theorem grown_set (w:World)(g j:Nat)(v:Value):w.grownBy (w.setCell ⟨g,j,none⟩ v) (some g):=by
 refine⟨rfl,rfl,rfl,by simp[World.setCell],?_⟩
 intro k hk hr
 have:g≠k:=fun e=>hr (by rw[e])
 simp[World.setCell,Array.getElem?_modify,this]
def atOf (w:World)(g:Nat):Nat:=match w.cell? ⟨g,1,none⟩ with|some (.int _ n)=>n.toNat|_=>0
theorem Sc.at {w:World} {g:Nat} {s:ByteArray} {a b:Nat} (h:Sc w g s a b):atOf w g=a:=by simp[atOf,h.c1]
abbrev scp (g:Nat):Value:=.pointer (some ⟨g,0,none⟩)
theorem scEnded (g:Nat)(s:ByteArray)(a b:Nat)(w:World)(h:Sc w g s a b) :
  Calls Tryz.prog 71 #[scp g] w fun e w'=>e=.returned (.bool ((a:Int)==(s.size:Int)))∧Below w.heap.size w w':=by
 have c0:=h.c0
 have c1:=h.c1
 clear h
 go_enter Tryz.func71,Tryz.ntmps71
 go_wp2
 go_quiet (fail)
 go_wp2
 go_ret
 exact⟨rfl,Go.below_drewN (Below.refl _ _) _⟩
theorem scFail (g:Nat)(s:ByteArray)(a b:Nat)(w:World)(h:Sc w g s a b) :
  Calls Tryz.prog 156 #[scp g] w fun e w'=>e=.panicked [{ v:=.iface 86 (.agg #[.int .i64 3,.int .i64 b]),recovered:=false }]∧w'=w:=by
 have c2:=h.c2
 clear h
 go_enter Tryz.func156,Tryz.ntmps156
 go_wp2
 exact⟨rfl,rfl,rfl⟩
theorem scPass {f:FuncId} {K:UInt8→Bool} (hK:Kind f K)(g:Nat)(s:ByteArray)(a b:Nat)(w:World)(hs:s.size≤100000)(ha:a≤s.size)(h:Sc w g s a b) :
  Calls Tryz.prog 114 #[scp g,.func (.func f) #[] #[]] w fun e w'=>e=.returned (.string (s.extract a (Pl.stop K s.data.toList a)))∧Sc w' g s (Pl.stop K s.data.toList a) b∧w.grownBy w' (some g):=by
 have hE:=hK.enters
 have HC:=(show Hid _ from hK.calls)
 obtain⟨Z,hZ⟩:∃Z,Pl.stop K s.data.toList a=Z:=⟨_,rfl⟩
 rw[hZ]
 have HZ:=(show Hid _ from hZ)
 have Hsc:=(show Hid _ from h)
 have c1:=h.c1
 clear hZ h
 go_enter Tryz.func114,Tryz.ntmps114
 go_wp2
 clear c1
 go_loopw [10] (fun _ wr=>∃ k:Nat,a≤k∧k≤s.size∧Hid (Pl.stop K s.data.toList k=Z)∧Hid (Sc wr g s k b)∧Hid (w.grownBy wr (some g))) (fun _ wr=>s.size-atOf wr g)
 case atStart=>exact⟨a,Nat.le_refl _,ha,HZ,Hsc,grown_refl _ _⟩
 case round=>
  clear HZ Hsc
  obtain⟨k,hak,hk,HZ,Hsc,Hg⟩:=hrel
  have c0:=Hsc.out.c0
  have c1:=Hsc.out.c1
  have k0:=cell_regrown c0
  have k1:=cell_regrown c1
  have cE:∀d os,Calls Tryz.prog 71 #[scp g] (Go.Sort.grow (redrawn wr d) os) fun e w''=>e=.returned (.bool ((k:Int)==(s.size:Int)))∧∃p:Regrown,w''=Go.Sort.grow (redrawn wr p.d) p.os:=fun d os=>Calls.regrown_of (scEnded g s k b _ (Hsc.out.below (below_regrown wr d os)))
  by_cases hlt:k<s.size
  ·have hne:((k:Int)==(s.size:Int))=false:=by simp;omega
   simp only[hne] at cE
   have h8:s[k].toNat<256:=UInt8.toNat_lt _
   have hkI:(k:Int)<(s.size:Int):=by omega
   have cK:∀d os,Calls Tryz.prog f #[.int .u8 (s[k].toNat:Int)] (Go.Sort.grow (redrawn wr d) os) fun e w''=>e=.returned (.bool (K s[k]))∧∃p:Regrown,w''=Go.Sort.grow (redrawn wr p.d) p.os:=fun d os=>Calls.regrown_of ((HC.out s[k] _).mono fun e w' ⟨he,hw⟩=>⟨he,by rw[← hw];exact Below.refl _ _⟩)
   have hkb:Hid (Pl.b s.data.toList k=s[k]):=Pl.b_lt _ k (by simpa using hlt)
   cases hkc:K s[k]<;>simp only[hkc] at cK
   ·have hst:Hid (Z=k):=show _=_ from by
     rw[← HZ.out]
     exact Pl.stop_eq K _ k k (Nat.le_refl _) (by simp;omega) (fun j h1 h2=>by omega) (fun _=>by rw[hkb.out];exact hkc)
    clear hkc HZ
    go_wp2
    refine wp_region_quiet_below (by kernel_rfl) (by kernel_rfl) ?_
    quiet_step (fail)
    quiet_step (exact cE _ _)
    iterate 12 (quiet_step (fail))
    quiet_step (exact cK _ _)
    repeat (quiet_step (fail))
    refine wpQuiet_nil ?_
    intro _ hw'
    obtain⟨⟨dq,osq⟩,hw''⟩:=hw'
    subst hw''
    have hbq:=below_regrown wr dq osq
    have Hs2:=(show Hid _ from Hsc.out.below hbq)
    have Hg2:=(show Hid _ from grown_trans Hg.out (grown_below hbq))
    generalize Go.Sort.grow (redrawn wr dq) osq=wq at *
    clear c0 c1 k0 k1 cE cK hbq
    have c0:=Hs2.out.c0
    have c1:=Hs2.out.c1
    have k0:=cell_regrown c0
    have k1:=cell_regrown c1
    have f1:(k:Int)≤(s.size:Int):=by omega
    have f2:(a:Int)≤(k:Int):=by omega
    have cL:∀d os,Calls Tryz.prog 122 #[.string (s.extract a k)] (Go.Sort.grow (redrawn wq d) os) fun e w''=>e=.returned (.string (s.extract a k))∧∃p:Regrown,w''=Go.Sort.grow (redrawn wq p.d) p.os:=fun d os=>Calls.regrown_of (libClone _ _ (by rw[ByteArray.size_extract];omega))
    go_wp2
    refine wp_region_quiet_below (by kernel_rfl) (by kernel_rfl) ?_
    iterate 10 (quiet_step (fail))
    quiet_step (exact cL _ _)
    repeat (quiet_step (fail))
    refine wpQuiet_nil ?_
    intro _ hw'
    obtain⟨⟨dr,osr⟩,hw''⟩:=hw'
    subst hw''
    have hbr:=below_regrown wq dr osr
    go_wp2
    go_ret
    rw[hst.out]
    exact⟨rfl,Hs2.out.below hbr,grown_trans Hg2.out (grown_below hbr)⟩
   ·have hst:Hid (Pl.stop K s.data.toList (k+1)=Z):=show _=_ from by
     rw[← HZ.out]
     exact Pl.first_miss _ _ k (by simpa using hlt) (by rw[hkb.out,hkc];rfl)
    clear hkc HZ
    go_wp2
    refine wp_region_quiet_below (by kernel_rfl) (by kernel_rfl) ?_
    quiet_step (fail)
    quiet_step (exact cE _ _)
    iterate 12 (quiet_step (fail))
    quiet_step (exact cK _ _)
    repeat (quiet_step (fail))
    refine wpQuiet_nil ?_
    intro _ hw'
    obtain⟨⟨dq,osq⟩,hw''⟩:=hw'
    subst hw''
    have hbq:=below_regrown wr dq osq
    have Hs2:=(show Hid _ from Hsc.out.below hbq)
    have Hg2:=(show Hid _ from grown_trans Hg.out (grown_below hbq))
    have hat:Hid (atOf wr g=k):=Hsc.out.at
    generalize Go.Sort.grow (redrawn wr dq) osq=wq at *
    clear c0 c1 k0 k1 cE cK hbq
    have c1:=Hs2.out.c1
    have f1:=Hs2.out.f1
    go_wp2
    go_roundw
    case rel=>exact⟨k+1,by omega,by omega,hst,Hs2.out.set1 _ _ (by omega),grown_trans Hg2.out (grown_set _ _ _ _)⟩
    case measure=>
     have:=(Hs2.out.set1 ((k:Int)+1) (k+1) (by omega)).at
     rw[hat.out,this]
     omega
  ·have hkk:k=s.size:=by omega
   have hst:Hid (Z=k):=show _=_ from by
    rw[← HZ.out]
    exact Pl.first_end _ _ _ (by simp;omega)
   obtain⟨bE,hbE⟩:∃bE,((k:Int)==(s.size:Int))=bE:=⟨_,rfl⟩
   have Hb:Hid (bE=true):=show _=_ from by rw[← hbE];simp;omega
   simp only[hbE] at cE
   have f1:(k:Int)≤(s.size:Int):=by omega
   have f2:(a:Int)≤(k:Int):=by omega
   have hce:(s.extract a k).size≤1100000:=by rw[ByteArray.size_extract];omega
   clear HZ hkk hbE hlt hk hak
   go_wp2
   refine wp_region_quiet_below (by kernel_rfl) (by kernel_rfl) ?_
   quiet_step (fail)
   quiet_step (exact cE _ _)
   quiet_step (fail)
   quiet_step (fail)
   iterate 11 (refine BigFrame.wpQuiet_skip (by obtain rfl:bE=true:=Hb.out;rfl) ?_;go_simp)
   obtain rfl:bE=true:=Hb.out
   quiet_step (fail)
   refine wpQuiet_nil ?_
   rintro⟨dq,osq⟩
   simp only
   have hbq:=below_regrown wr dq osq
   have Hs2:=(show Hid _ from Hsc.out.below hbq)
   have Hg2:=(show Hid _ from grown_trans Hg.out (grown_below hbq))
   generalize Go.Sort.grow (redrawn wr dq) osq=wq at *
   clear c0 c1 k0 k1 cE hbq
   have c0:=Hs2.out.c0
   have c1:=Hs2.out.c1
   have k0:=cell_regrown c0
   have k1:=cell_regrown c1
   have cL:∀d os,Calls Tryz.prog 122 #[.string (s.extract a k)] (Go.Sort.grow (redrawn wq d) os) fun e w''=>e=.returned (.string (s.extract a k))∧∃p:Regrown,w''=Go.Sort.grow (redrawn wq p.d) p.os:=fun d os=>Calls.regrown_of (libClone _ _ hce)
   go_wp2
   refine wp_region_quiet_below (by kernel_rfl) (by kernel_rfl) ?_
   iterate 10 (quiet_step (fail))
   quiet_step (exact cL _ _)
   repeat (quiet_step (fail))
   refine wpQuiet_nil ?_
   intro _ hw'
   obtain⟨⟨dr,osr⟩,hw''⟩:=hw'
   subst hw''
   have hbr:=below_regrown wq dr osr
   go_wp2
   go_ret
   rw[hst.out]
   exact⟨rfl,Hs2.out.below hbr,grown_trans Hg2.out (grown_below hbr)⟩
theorem implLineEndAt' (s:ByteArray)(a:Nat)(w:World)(hs:s.size≤100000)(ha:a≤s.size) :
  Calls Tryz.prog 113 #[.string s,.int .i64 a] w fun e w'=>e=.returned (.bool (Pl.crlf s.data.toList a))∧Below w.heap.size w w':=
 (implLineEndAt s a w (by omega) ha).mono fun e w' ⟨he,hw⟩=>⟨he,by rw[← hw];exact Below.refl _ _⟩
theorem implFoldAt' (s:ByteArray)(a:Nat)(w:World)(hs:s.size≤100000)(ha:a≤s.size) :
  Calls Tryz.prog 159 #[.string s,.int .i64 a] w fun e w'=>e=.returned (.bool (Pl.fold s.data.toList a))∧Below w.heap.size w w':=
 (implFoldAt s a w (by omega) ha).mono fun e w' ⟨he,hw⟩=>⟨he,by rw[← hw];exact Below.refl _ _⟩
theorem scLineEndNo (g:Nat)(s:ByteArray)(a b:Nat)(w:World)(hs:s.size≤100000)(ha:a≤s.size)(h:Sc w g s a b)(hc:Pl.crlf s.data.toList a=false) :
  Calls Tryz.prog 72 #[scp g] w fun e w'=>e=.returned (.bool false)∧Below w.heap.size w w':=by
 have k0:=cell_regrown h.c0
 have k1:=cell_regrown h.c1
 have cL:∀d os,Calls Tryz.prog 113 #[.string s,.int .i64 a] (Go.Sort.grow (redrawn w d) os) fun e w''=>e=.returned (.bool false)∧∃p:Regrown,w''=Go.Sort.grow (redrawn w p.d) p.os:=fun d os=>Calls.regrown_of (by rw[← hc];exact implLineEndAt' s a _ hs ha)
 clear h hc
 go_enter Tryz.func72,Tryz.ntmps72
 go_wp2
 refine wp_region_quiet_below (by kernel_rfl) (by kernel_rfl) ?_
 iterate 8 (quiet_step (fail))
 quiet_step (exact cL _ _)
 quiet_step (fail)
 refine wpQuiet_nil ?_
 intro _ hw'
 obtain⟨⟨dq,osq⟩,hw''⟩:=hw'
 subst hw''
 go_wp2
 go_ret
 exact⟨rfl,below_regrown _ _ _⟩
theorem scLineEndYes (g:Nat)(s:ByteArray)(a b:Nat)(w:World)(hs:s.size≤100000)(ha:a≤s.size)(h:Sc w g s a b)(hc:Pl.crlf s.data.toList a=true) :
  Calls Tryz.prog 72 #[scp g] w fun e w'=>e=.returned (.bool true)∧Sc w' g s (a+2) b∧w.grownBy w' (some g):=by
 have k0:=cell_regrown h.c0
 have k1:=cell_regrown h.c1
 have cL:∀d os,Calls Tryz.prog 113 #[.string s,.int .i64 a] (Go.Sort.grow (redrawn w d) os) fun e w''=>e=.returned (.bool true)∧∃p:Regrown,w''=Go.Sort.grow (redrawn w p.d) p.os:=fun d os=>Calls.regrown_of (by rw[← hc];exact implLineEndAt' s a _ hs ha)
 have Hsc:=(show Hid _ from h)
 clear h hc
 go_enter Tryz.func72,Tryz.ntmps72
 go_wp2
 refine wp_region_quiet_below (by kernel_rfl) (by kernel_rfl) ?_
 iterate 8 (quiet_step (fail))
 quiet_step (exact cL _ _)
 quiet_step (fail)
 refine wpQuiet_nil ?_
 intro _ hw'
 obtain⟨⟨dq,osq⟩,hw''⟩:=hw'
 subst hw''
 have hbq:=below_regrown w dq osq
 have Hs2:=(show Hid _ from Hsc.out.below hbq)
 have Hg2:=(show Hid _ from grown_below (r:=some g) hbq)
 generalize Go.Sort.grow (redrawn w dq) osq=wq at *
 clear k0 k1 cL hbq
 have c1:=Hs2.out.c1
 have f1:=Hs2.out.f1
 go_wp2
 go_ret
 exact⟨rfl,Hs2.out.set1 _ _ (by omega),grown_trans Hg2.out (grown_set _ _ _ _)⟩
theorem scFoldNo (g:Nat)(s:ByteArray)(a b:Nat)(w:World)(hs:s.size≤100000)(ha:a≤s.size)(h:Sc w g s a b)(hc:Pl.fold s.data.toList a=false) :
  Calls Tryz.prog 121 #[scp g] w fun e w'=>e=.returned (.bool false)∧Below w.heap.size w w':=by
 have k0:=cell_regrown h.c0
 have k1:=cell_regrown h.c1
 obtain⟨bF,hbF⟩:∃bF,Pl.fold s.data.toList a=bF:=⟨_,rfl⟩
 have Hb:Hid (bF=false):=show _=_ from by rw[← hbF];exact hc
 have cL:∀d os,Calls Tryz.prog 159 #[.string s,.int .i64 a] (Go.Sort.grow (redrawn w d) os) fun e w''=>e=.returned (.bool bF)∧∃p:Regrown,w''=Go.Sort.grow (redrawn w p.d) p.os:=fun d os=>Calls.regrown_of (by rw[← hbF];exact implFoldAt' s a _ hs ha)
 clear h hc hbF
 go_enter Tryz.func121,Tryz.ntmps121
 go_wp2
 refine wp_region_quiet_below (by kernel_rfl) (by kernel_rfl) ?_
 iterate 8 (quiet_step (fail))
 quiet_step (exact cL _ _)
 quiet_step (fail)
 iterate 2 (refine BigFrame.wpQuiet_skip (by obtain rfl:bF=false:=Hb.out;rfl) ?_;go_simp)
 obtain rfl:bF=false:=Hb.out
 repeat (quiet_step (fail))
 refine wpQuiet_nil ?_
 rintro⟨dq,osq⟩
 simp only
 go_wp2
 go_ret
 exact⟨rfl,below_regrown _ _ _⟩
theorem scFoldYes (g:Nat)(s:ByteArray)(a b:Nat)(w:World)(hs:s.size≤100000)(ha:a≤s.size)(h:Sc w g s a b)(hc:Pl.fold s.data.toList a=true) :
  Calls Tryz.prog 121 #[scp g] w fun e w'=>e=.returned (.bool true)∧Sc w' g s (a+2) b∧w.grownBy w' (some g):=by
 have c0:=h.c0
 have c1:=h.c1
 have hF:=fun w=>implFoldAt s a w (by omega) ha
 simp only[hc] at hF
 have HL:=(show Hid _ from fun (w:World) h=>scLineEndYes g s a b w hs ha h (Pl.fold_crlf _ _ hc))
 have Hsc:=(show Hid _ from h)
 clear h hc
 go_enter Tryz.func121,Tryz.ntmps121
 go_wp2
 go_region_with first|(go_at_call 159;(refine(hF _).mono ?_;rintro e w2 ⟨rfl,rfl⟩))|(go_at_call 72;(refine(HL.out _ (Hsc.out.below (Go.below_drewN (Below.refl _ _) 1))).mono ?_;rintro e w3 ⟨rfl,hs3,hg3⟩))
 all_goals
  go_wp2
  go_ret
  exact⟨rfl,hs3,⟨hg3.os,hg3.tape,hg3.output,hg3.size,hg3.block⟩⟩
theorem scNeedYes (g:Nat)(w:World) :
  Calls Tryz.prog 117 #[scp g,.bool true] w fun e w'=>e=.returned (.tuple #[])∧w'=w:=by
 go_enter Tryz.func117,Tryz.ntmps117
 go_wp2
 exact bodyPost_end (v:=.tuple #[]) (results_none Tryz.results117 _ _ _) rfl ⟨rfl,rfl⟩
theorem scNeedNo (g:Nat)(s:ByteArray)(a b:Nat)(w:World)(h:Sc w g s a b) :
  Calls Tryz.prog 117 #[scp g,.bool false] w fun e w'=>e=.panicked [{ v:=.iface 86 (.agg #[.int .i64 3,.int .i64 b]),recovered:=false }]∧w'=w:=by
 have Hsc:=(show Hid _ from h)
 clear h
 go_enter Tryz.func117,Tryz.ntmps117
 go_wp2_with fail
 refine(scFail g s a b w Hsc.out).mono ?_
 rintro e w3 ⟨rfl,rfl⟩
 exact⟨rfl,rfl,rfl⟩
theorem scNextEnd (g:Nat)(s:ByteArray)(a b:Nat)(w:World)(h:Sc w g s a b)(ha:a=s.size) :
  Calls Tryz.prog 158 #[scp g] w fun e w'=>e=.panicked [{ v:=.iface 86 (.agg #[.int .i64 3,.int .i64 b]),recovered:=false }]∧Below w.heap.size w w':=by
 have hEn:=scEnded g s a b w h
 rw[show((a:Int)==(s.size:Int))=true from by simp;omega] at hEn
 have Hsc:=(show Hid _ from h)
 clear h ha
 go_enter Tryz.func158,Tryz.ntmps158
 go_wp2_with fail
 refine hEn.mono ?_
 rintro e w1 ⟨rfl,hb1⟩
 have S1:=(show Hid _ from Hsc.out.below hb1)
 go_wp2_with fail
 refine(scNeedNo g s a b w1 S1.out).mono ?_
 rintro e w2 ⟨rfl,rfl⟩
 exact⟨rfl,rfl,hb1⟩
theorem scNextYes (g:Nat)(s:ByteArray)(a b:Nat)(w:World)(hs:s.size≤100000)(h:Sc w g s a b)(ha:a<s.size) :
  Calls Tryz.prog 158 #[scp g] w fun e w'=>e=.returned (.int .u8 (s[a].toNat:Int))∧Sc w' g s (a+1) b∧w.grownBy w' (some g):=by
 have hEn:=scEnded g s a b w h
 rw[show((a:Int)==(s.size:Int))=false from by simp;omega] at hEn
 have Hsc:=(show Hid _ from h)
 have h8:s[a].toNat<256:=UInt8.toNat_lt _
 have hkI:(a:Int)<(s.size:Int):=by omega
 clear h
 go_enter Tryz.func158,Tryz.ntmps158
 go_wp2_with fail
 refine hEn.mono ?_
 rintro e w1 ⟨rfl,hb1⟩
 have S1:=(show Hid _ from Hsc.out.below hb1)
 have G1:=(show Hid _ from grown_below (r:=some g) hb1)
 clear hb1 hEn
 go_wp2_with fail
 refine(scNeedYes g w1).mono ?_
 rintro e w2 ⟨rfl,rfl⟩
 have c1:=S1.out.c1
 have f1:=S1.out.f1
 have Hs3:=(show Hid _ from S1.out.set1 ((a:Int)+1) (a+1) (by omega))
 have Hg3:=(show Hid _ from grown_trans G1.out (grown_set w2 g 1 (.int .i64 ((a:Int)+1))))
 go_wp2
 clear c1 f1
 generalize w2.setCell ⟨g,1,none⟩ (.int .i64 ((a:Int)+1))=wz at *
 have e0:=Hs3.out.c0
 have e1:=Hs3.out.c1
 go_quiet (fail)
 have hbz:=Go.below_drewN (Below.refl wz.heap.size wz) nq
 go_wp2
 go_ret
 exact⟨rfl,Hs3.out.below hbz,grown_trans Hg3.out (grown_below hbz)⟩
theorem scByteEnd (g:Nat)(s:ByteArray)(a b:Nat)(w:World)(h:Sc w g s a b)(ha:a=s.size) :
  Calls Tryz.prog 119 #[scp g] w fun e w'=>e=.panicked [{ v:=.iface 86 (.agg #[.int .i64 3,.int .i64 b]),recovered:=false }]∧Below w.heap.size w w':=by
 have hN:=scNextEnd g s a b w h ha
 clear h ha
 go_enter Tryz.func119,Tryz.ntmps119
 go_wp2_with fail
 refine hN.mono ?_
 rintro e w1 ⟨rfl,hb1⟩
 exact⟨rfl,rfl,hb1⟩
theorem scByteNo (g:Nat)(s:ByteArray)(a b:Nat)(w:World)(hs:s.size≤100000)(h:Sc w g s a b)(ha:a<s.size)(hl:Pl.lb s[a]=false) :
  Calls Tryz.prog 119 #[scp g] w fun e w'=>e=.panicked [{ v:=.iface 86 (.agg #[.int .i64 3,.int .i64 b]),recovered:=false }]∧w.grownBy w' (some g):=by
 have hN:=scNextYes g s a b w hs h ha
 have hK:=fun w=>implLineByte s[a] w
 simp only[hl] at hK
 have h8:s[a].toNat<256:=UInt8.toNat_lt _
 clear h hl
 go_enter Tryz.func119,Tryz.ntmps119
 go_wp2_with fail
 refine hN.mono ?_
 rintro e w1 ⟨rfl,s1,g1⟩
 have S1:=(show Hid _ from s1)
 have G1:=(show Hid _ from g1)
 clear s1 g1 hN
 go_wp2_with fail
 refine(hK _).mono ?_
 rintro e w2 ⟨rfl,rfl⟩
 go_wp2_with fail
 refine(scNeedNo g s (a+1) b _ S1.out).mono ?_
 rintro e w3 ⟨rfl,rfl⟩
 exact⟨rfl,rfl,G1.out⟩
theorem scByteYes (g:Nat)(s:ByteArray)(a b:Nat)(w:World)(hs:s.size≤100000)(h:Sc w g s a b)(ha:a<s.size)(hl:Pl.lb s[a]=true) :
  Calls Tryz.prog 119 #[scp g] w fun e w'=>e=.returned (.int .u8 (s[a].toNat:Int))∧Sc w' g s (a+1) b∧w.grownBy w' (some g):=by
 have hN:=scNextYes g s a b w hs h ha
 have hK:=fun w=>implLineByte s[a] w
 simp only[hl] at hK
 have h8:s[a].toNat<256:=UInt8.toNat_lt _
 clear h hl
 go_enter Tryz.func119,Tryz.ntmps119
 go_wp2_with fail
 refine hN.mono ?_
 rintro e w1 ⟨rfl,s1,g1⟩
 have S1:=(show Hid _ from s1)
 have G1:=(show Hid _ from g1)
 clear s1 g1 hN
 go_wp2_with fail
 refine(hK _).mono ?_
 rintro e w2 ⟨rfl,rfl⟩
 go_wp2_with fail
 refine(scNeedYes g _).mono ?_
 rintro e w3 ⟨rfl,rfl⟩
 go_wp2
 go_ret
 exact⟨rfl,S1.out,G1.out⟩
abbrev flt (c:Int)(b:Nat):List PanicEntry:=[{ v:=.iface 86 (.agg #[.int .i64 c,.int .i64 b]),recovered:=false }]
theorem ext_sl (s:ByteArray)(i j:Nat):(s.extract i j).data.toList=Pl.sl s.data.toList i j:=Pl.ext_data s i j
theorem scNameYes (g:Nat)(s:ByteArray)(a b:Nat)(w:World)(hs:s.size≤100000)(ha:a≤s.size)(h:Sc w g s a b)(hg:Pl.nameGood s.data.toList a=true) :
  Calls Tryz.prog 73 #[scp g] w fun e w'=>e=.returned (.string (s.extract a (Pl.stop Pl.nb s.data.toList a)))∧Sc w' g s (Pl.stop Pl.blank s.data.toList (Pl.stop Pl.nb s.data.toList a)+1) b∧w.grownBy w' (some g):=by
 have hll:s.data.toList.length=s.size:=by simp
 have hp1:=Pl.stop_le Pl.nb s.data.toList a (by omega)
 have hq1:=Pl.stop_le Pl.blank s.data.toList (Pl.stop Pl.nb s.data.toList a) (by omega)
 have hP:=scPass kindName g s a b w hs ha h
 have HQ:=(show Hid _ from fun (w:World) h=>scPass kindBlank g s (Pl.stop Pl.nb s.data.toList a) b w hs (by omega) h)
 rw[Pl.nameGood,Bool.and_eq_true,Bool.and_eq_true] at hg
 obtain⟨g1,g2,g3⟩:=hg
 rw[decide_eq_true_eq] at g2
 rw[← ext_sl] at g1
 have hN:=fun w=>implFieldName (s.extract a (Pl.stop Pl.nb s.data.toList a)) w (by rw[ByteArray.size_extract];omega)
 simp only[g1] at hN
 generalize Pl.stop Pl.nb s.data.toList a=p at *
 generalize Pl.stop Pl.blank s.data.toList p=q at *
 have hq:q<s.size:=by omega
 have g4:s[q]=58:=by
  have e:=Pl.b_lt s.data.toList q (by omega)
  rw[e] at g3
  exact beq_iff_eq.1 g3
 have HB:=(show Hid _ from fun (w:World) h=>scByteYes g s q b w hs h hq (by rw[g4];rfl))
 simp only[g4] at HB
 generalize s.extract a p=nm at *
 clear g1 g2 g3 g4 hll h hp1 hq1
 go_enter Tryz.func73,Tryz.ntmps73
 go_wp2_with fail
 refine hP.mono ?_
 rintro e w1 ⟨rfl,s1,g1⟩
 have S1:=(show Hid _ from s1)
 have G1:=(show Hid _ from g1)
 clear s1 g1 hP
 go_wp2_with fail
 refine(HQ.out _ S1.out).mono ?_
 rintro e w2 ⟨rfl,s2,g2⟩
 have S2:=(show Hid _ from s2)
 have G2:=(show Hid _ from grown_trans G1.out g2)
 clear s2 g2
 go_wp2_with fail
 refine(hN _).mono ?_
 rintro e w3 ⟨rfl,rfl⟩
 go_wp2_with fail
 refine(HB.out _ S2.out).mono ?_
 rintro e w4 ⟨rfl,s3,g3⟩
 have S3:=(show Hid _ from s3)
 have G3:=(show Hid _ from grown_trans G2.out g3)
 clear s3 g3
 go_wp2_with fail
 refine(scNeedYes g _).mono ?_
 rintro e w5 ⟨rfl,rfl⟩
 go_wp2
 go_ret
 exact⟨rfl,S3.out,G3.out⟩
theorem scNameNo (g:Nat)(s:ByteArray)(a b:Nat)(w:World)(hs:s.size≤100000)(ha:a≤s.size)(h:Sc w g s a b)(hg:Pl.nameGood s.data.toList a=false) :
  Calls Tryz.prog 73 #[scp g] w fun e w'=>e=.panicked (flt 3 b)∧w.grownBy w' (some g):=by
 have hll:s.data.toList.length=s.size:=by simp
 have hp1:=Pl.stop_le Pl.nb s.data.toList a (by omega)
 have hq1:=Pl.stop_le Pl.blank s.data.toList (Pl.stop Pl.nb s.data.toList a) (by omega)
 have hP:=scPass kindName g s a b w hs ha h
 have HQ:=(show Hid _ from fun (w:World) h=>scPass kindBlank g s (Pl.stop Pl.nb s.data.toList a) b w hs (by omega) h)
 rw[Pl.nameGood,← ext_sl] at hg
 have hN:=fun w=>implFieldName (s.extract a (Pl.stop Pl.nb s.data.toList a)) w (by rw[ByteArray.size_extract];omega)
 generalize Pl.stop Pl.nb s.data.toList a=p at *
 generalize Pl.stop Pl.blank s.data.toList p=q at *
 generalize s.extract a p=nm at *
 have HF:=(show Hid _ from fun (w:World) (c:Nat) h=>scNeedNo g s c b w h)
 clear h hp1
 cases hno:Pl.nameOk nm.data.toList<;>simp only[hno] at hN
 ·clear hg hno
  go_enter Tryz.func73,Tryz.ntmps73
  go_wp2_with fail
  refine hP.mono ?_
  rintro e w1 ⟨rfl,s1,g1⟩
  have S1:=(show Hid _ from s1)
  have G1:=(show Hid _ from g1)
  clear s1 g1 hP
  go_wp2_with fail
  refine(HQ.out _ S1.out).mono ?_
  rintro e w2 ⟨rfl,s2,g2⟩
  have S2:=(show Hid _ from s2)
  have G2:=(show Hid _ from grown_trans G1.out g2)
  clear s2 g2
  go_wp2_with fail
  refine(hN _).mono ?_
  rintro e w3 ⟨rfl,rfl⟩
  go_wp2_with fail
  refine(HF.out _ _ S2.out).mono ?_
  rintro e w4 ⟨rfl,rfl⟩
  exact⟨rfl,rfl,G2.out⟩
 ·rw[hno,Bool.true_and] at hg
  have hbad:Calls Tryz.prog 119 #[scp g] w (fun e w'=>True)→True:=fun _=>trivial
  by_cases hq:q<s.size
  ·have g3:s[q]≠58:=by
    rw[decide_eq_true (by omega),Bool.true_and,Pl.b_lt s.data.toList q (by omega)] at hg
    exact beq_eq_false_iff_ne.1 hg
   cases hlb:Pl.lb s[q]
   ·have HB:=(show Hid _ from fun (w:World) h=>scByteNo g s q b w hs h hq hlb)
    clear hg hno hbad g3 hll hq1
    go_enter Tryz.func73,Tryz.ntmps73
    go_wp2_with fail
    refine hP.mono ?_
    rintro e w1 ⟨rfl,s1,g1⟩
    have S1:=(show Hid _ from s1)
    have G1:=(show Hid _ from g1)
    clear s1 g1 hP
    go_wp2_with fail
    refine(HQ.out _ S1.out).mono ?_
    rintro e w2 ⟨rfl,s2,g2⟩
    have S2:=(show Hid _ from s2)
    have G2:=(show Hid _ from grown_trans G1.out g2)
    clear s2 g2
    go_wp2_with fail
    refine(hN _).mono ?_
    rintro e w3 ⟨rfl,rfl⟩
    go_wp2_with fail
    refine(HB.out _ S2.out).mono ?_
    rintro e w4 ⟨rfl,hb4⟩
    exact⟨rfl,rfl,grown_trans G2.out hb4⟩
   ·have HB:=(show Hid _ from fun (w:World) h=>scByteYes g s q b w hs h hq hlb)
    have h58:((s[q].toNat:Int)==58)=false:=by
     have:s[q].toNat≠58:=fun e=>g3 (UInt8.toNat_inj.1 e)
     simp;omega
    clear hg hno hbad g3 hll hq1
    go_enter Tryz.func73,Tryz.ntmps73
    go_wp2_with fail
    refine hP.mono ?_
    rintro e w1 ⟨rfl,s1,g1⟩
    have S1:=(show Hid _ from s1)
    have G1:=(show Hid _ from g1)
    clear s1 g1 hP
    go_wp2_with fail
    refine(HQ.out _ S1.out).mono ?_
    rintro e w2 ⟨rfl,s2,g2⟩
    have S2:=(show Hid _ from s2)
    have G2:=(show Hid _ from grown_trans G1.out g2)
    clear s2 g2
    go_wp2_with fail
    refine(hN _).mono ?_
    rintro e w3 ⟨rfl,rfl⟩
    go_wp2_with fail
    refine(HB.out _ S2.out).mono ?_
    rintro e w4 ⟨rfl,s3,g3⟩
    have S3:=(show Hid _ from s3)
    have G3:=(show Hid _ from grown_trans G2.out g3)
    clear s3 g3
    go_wp2_with fail
    refine(HF.out _ _ S3.out).mono ?_
    rintro e w5 ⟨rfl,rfl⟩
    exact⟨rfl,rfl,G3.out⟩
  ·have HB:=(show Hid _ from fun (w:World) h=>scByteEnd g s q b w h (by omega))
   clear hg hno hbad hll hq1
   go_enter Tryz.func73,Tryz.ntmps73
   go_wp2_with fail
   refine hP.mono ?_
   rintro e w1 ⟨rfl,s1,g1⟩
   have S1:=(show Hid _ from s1)
   have G1:=(show Hid _ from g1)
   clear s1 g1 hP
   go_wp2_with fail
   refine(HQ.out _ S1.out).mono ?_
   rintro e w2 ⟨rfl,s2,g2⟩
   have S2:=(show Hid _ from s2)
   have G2:=(show Hid _ from grown_trans G1.out g2)
   clear s2 g2
   go_wp2_with fail
   refine(hN _).mono ?_
   rintro e w3 ⟨rfl,rfl⟩
   go_wp2_with fail
   refine(HB.out _ S2.out).mono ?_
   rintro e w4 ⟨rfl,hb4⟩
   exact⟨rfl,rfl,grown_trans G2.out (grown_below hb4)⟩
theorem jump_mono {l:Nat} {J:Act→World→Prop} {Q:Exit→Act→World→Prop} {m:Act→World→Prop} (e:Exit)(a:Act)(w:World)(h:Exit.jump l (fun a w=>J a w∧m a w) Q e a w):Exit.jump l J Q e a w:=by
 cases e with
 | goto l'=>exact⟨h.1,h.2.1⟩
 | _=>exact h
theorem scope_jumps' {P:Program} {a:Act} {w:World} {Q:Exit→Act→World→Prop} {c X:Code} (l:Nat)(J:Act→World→Prop)(μ:Act→World→Nat)(hf:findLabel c l=some (Code.skip.seq X))
  (pass:∀a w,J a w→X.wp P (Exit.jump l (fun a' w'=>J a' w'∧μ a' w'<μ a w) Q) a w)
  (first:(∀a w,J a w→X.wp P (Exit.jump l J Q) a w)→c.wp P (Exit.jump l J Q) a w):(Code.scope c).wp P Q a w:=
 wp_scope_jumps l J μ hf (first fun a w h=>wp_mono (pass a w h) jump_mono) (fun a w h=>wp_seq (wp_skip (pass a w h)))
structure VAt (s:ByteArray)(a:Nat)(V:Nat × Nat)(w:World)(g:Nat)(wr:World):Prop where
 ex:∃cur beg f:Nat,Sc wr g s cur beg∧a≤cur∧cur≤s.size∧Pl.vend s.data.toList f cur beg=V∧s.size+1≤f+cur
 grown:w.grownBy wr (some g)
def VPost (s:ByteArray)(a:Nat)(V:Nat × Nat)(w:World)(g:Nat)(e:Ending)(w':World):Prop:=
 w.grownBy w' (some g)∧((V.1=s.size∧e=.returned (.string (s.extract a V.1))∧Sc w' g s V.1 V.2)∨(V.1<s.size∧a≤V.1∧Pl.crlf s.data.toList V.1=true∧e=.returned (.string (s.extract a V.1))∧Sc w' g s (V.1+2) V.2)∨(V.1<s.size∧Pl.crlf s.data.toList V.1=false∧e=.panicked (flt 3 V.2)))
theorem scValue (g:Nat)(s:ByteArray)(a b:Nat)(w:World)(hs:s.size≤100000)(ha:a≤s.size)(h:Sc w g s a b) :
  Calls Tryz.prog 74 #[scp g] w fun e w'=>VPost s a (Pl.vend s.data.toList (s.data.toList.length+1) a b) w g e w':=by
 have hll:s.data.toList.length=s.size:=by simp
 obtain⟨V,hV⟩:∃V,Pl.vend s.data.toList (s.data.toList.length+1) a b=V:=⟨_,rfl⟩
 rw[hV]
 have HV0:Hid (VAt s a V w g w):=⟨⟨a,b,s.data.toList.length+1,h,Nat.le_refl _,ha,hV,by omega⟩,grown_refl _ _⟩
 clear hV
 have c1:=h.c1
 clear h
 go_enter Tryz.func74,Tryz.ntmps74
 go_wp2
 refine scope_jumps' 0 (fun a' w'=>Hid (VAt s a V w g w')∧∃(u9 u10 u11 u12 u13 u14 u15 u16 u17 u18 u19:Value),a' = { tmps:=#[scp g,undef,.string ⟨#[]⟩,.int .i64 a,undef,scp g,.pointer (some ⟨g,0,none⟩),.pointer (some ⟨g,1,none⟩),.int .i64 a,u9,u10,u11,u12,u13,u14,u15,u16,u17,u18,u19,undef,undef,undef,undef,undef,undef,undef,undef,undef,undef,undef,undef,undef,undef,undef,undef,undef,undef,undef,undef],defers:=[] }) (fun _ w'=>s.size+1-atOf w' g) rfl ?_ ?_
 ·clear HV0 c1
  rintro a' wr ⟨HV,u9,u10,u11,u12,u13,u14,u15,u16,u17,u18,u19,rfl⟩
  obtain⟨⟨cur,beg,f,hsc,hac,hcn,hve,hfu⟩,hgr⟩:=HV.out
  clear HV
  obtain⟨f,rfl⟩:∃k,f=k+1:=⟨f-1,by omega⟩
  rw[Pl.vend] at hve
  have hz1:=Pl.stop_ge Pl.lb s.data.toList cur (by omega)
  have hz2:=Pl.stop_le Pl.lb s.data.toList cur (by omega)
  have hP:=scPass kindLine g s cur beg wr hs hcn hsc
  have hat:Hid (atOf wr g=cur):=hsc.at
  have Hgr:=(show Hid _ from hgr)
  clear hgr hsc
  generalize Pl.stop Pl.lb s.data.toList cur=z at *
  have Hve:=(show Hid _ from hve)
  clear hve
  cases hfold:Pl.fold s.data.toList z
  ·have HE:Hid (V=(z,beg)):=show _=_ from by rw[← Hve.out,if_neg (by rw[hfold];simp)]
   have HF:=(show Hid _ from fun (w:World) h=>scFoldNo g s z beg w hs (by omega) h hfold)
   clear Hve hfold
   go_wp2_with fail
   refine hP.mono ?_
   rintro e w1 ⟨rfl,s1,g1⟩
   have S1:=(show Hid _ from s1)
   have G1:=(show Hid _ from grown_trans Hgr.out g1)
   clear s1 g1 hP
   go_wp2_with fail
   refine(HF.out _ S1.out).mono ?_
   rintro e w2 ⟨rfl,hb2⟩
   have S2:=(show Hid _ from S1.out.below hb2)
   have G2:=(show Hid _ from grown_trans G1.out (grown_below hb2))
   clear hb2
   have c0:=S2.out.c0
   have c1:=S2.out.c1
   have k0:=cell_regrown c0
   have k1:=cell_regrown c1
   have f1:(z:Int)≤(s.size:Int):=by omega
   have f2:(a:Int)≤(z:Int):=by omega
   have cL:∀d os,Calls Tryz.prog 122 #[.string (s.extract a z)] (Go.Sort.grow (redrawn w2 d) os) fun e w''=>e=.returned (.string (s.extract a z))∧∃p:Regrown,w''=Go.Sort.grow (redrawn w2 p.d) p.os:=fun d os=>Calls.regrown_of (libClone _ _ (by rw[ByteArray.size_extract];omega))
   go_wp2
   refine wp_region_quiet_below (by kernel_rfl) (by kernel_rfl) ?_
   iterate 10 (quiet_step (fail))
   quiet_step (exact cL _ _)
   repeat (quiet_step (fail))
   refine wpQuiet_nil ?_
   intro _ hw'
   obtain⟨⟨dr,osr⟩,hw''⟩:=hw'
   subst hw''
   have hbr:=below_regrown w2 dr osr
   have S3:=(show Hid _ from S2.out.below hbr)
   have G3:=(show Hid _ from grown_trans G2.out (grown_below hbr))
   generalize Go.Sort.grow (redrawn w2 dr) osr=w3 at *
   clear c0 c1 k0 k1 cL hbr
   obtain⟨val,hval⟩:∃val,s.extract a z=val:=⟨_,rfl⟩
   rw[hval]
   have Hval:=(show Hid _ from hval)
   clear hval
   have hEn:=scEnded g s z beg w3 S3.out
   by_cases hzn:z=s.size
   ·rw[show((z:Int)==(s.size:Int))=true from by simp;omega] at hEn
    go_wp2_with fail
    refine hEn.mono ?_
    rintro e w4 ⟨rfl,hb4⟩
    go_wp2_with fail
    refine(scNeedYes g _).mono ?_
    rintro e w5 ⟨rfl,rfl⟩
    go_wp2
    simp only[Exit.jump]
    go_ret
    rw[HE.out]
    exact⟨grown_trans G3.out (grown_below hb4),.inl ⟨hzn,by rw[Hval.out];rfl,S3.out.below hb4⟩⟩
   ·rw[show((z:Int)==(s.size:Int))=false from by simp;omega] at hEn
    cases hcr:Pl.crlf s.data.toList z
    ·have HL:=(show Hid _ from fun (w:World) h=>scLineEndNo g s z beg w hs (by omega) h hcr)
     have Hcr:=(show Hid _ from hcr)
     clear hcr
     go_wp2_with fail
     refine hEn.mono ?_
     rintro e w4 ⟨rfl,hb4⟩
     have S4:=(show Hid _ from S3.out.below hb4)
     have G4:=(show Hid _ from grown_trans G3.out (grown_below hb4))
     clear hb4
     go_wp2_with fail
     refine(HL.out _ S4.out).mono ?_
     rintro e w5 ⟨rfl,hb5⟩
     have S5:=(show Hid _ from S4.out.below hb5)
     have G5:=(show Hid _ from grown_trans G4.out (grown_below hb5))
     clear hb5
     go_wp2_with fail
     refine(scNeedNo g s z beg w5 S5.out).mono ?_
     rintro e w6 ⟨rfl,rfl⟩
     refine⟨rfl,?_⟩
     rw[HE.out]
     exact⟨G5.out,.inr (.inr ⟨by omega,Hcr.out,rfl⟩)⟩
    ·have HL:=(show Hid _ from fun (w:World) h=>scLineEndYes g s z beg w hs (by omega) h hcr)
     have Hcr:=(show Hid _ from hcr)
     clear hcr
     go_wp2_with fail
     refine hEn.mono ?_
     rintro e w4 ⟨rfl,hb4⟩
     have S4:=(show Hid _ from S3.out.below hb4)
     have G4:=(show Hid _ from grown_trans G3.out (grown_below hb4))
     clear hb4
     go_wp2_with fail
     refine(HL.out _ S4.out).mono ?_
     rintro e w5 ⟨rfl,s5,g5⟩
     have S5:=(show Hid _ from s5)
     have G5:=(show Hid _ from grown_trans G4.out g5)
     clear s5 g5
     go_wp2_with fail
     refine(scNeedYes g _).mono ?_
     rintro e w6 ⟨rfl,rfl⟩
     go_wp2
     simp only[Exit.jump]
     go_ret
     rw[HE.out]
     exact⟨G5.out,.inr (.inl ⟨by omega,by show a≤z;omega,Hcr.out,by rw[Hval.out];rfl,S5.out⟩)⟩
  ·have HF:=(show Hid _ from fun (w:World) h=>scFoldYes g s z beg w hs (by omega) h hfold)
   have hz3:z+2<s.size:=by have:=(Pl.fold_b _ _ hfold).2;omega
   have HE:Hid (Pl.vend s.data.toList f (z+2) (z+2)=V):=show _=_ from by rw[← Hve.out,if_pos hfold]
   clear Hve hfold
   go_wp2_with fail
   refine hP.mono ?_
   rintro e w1 ⟨rfl,s1,g1⟩
   have S1:=(show Hid _ from s1)
   have G1:=(show Hid _ from grown_trans Hgr.out g1)
   clear s1 g1 hP
   go_wp2_with fail
   refine(HF.out _ S1.out).mono ?_
   rintro e w2 ⟨rfl,s2,g2⟩
   have S2:=(show Hid _ from s2)
   have G2:=(show Hid _ from grown_trans G1.out g2)
   clear s2 g2
   have c1:=S2.out.c1
   have c2:=S2.out.c2
   have f2:=S2.out.f2
   have S3:=(show Hid _ from S2.out.set2 ((z:Int)+2) (z+2) (by omega))
   have G3:=(show Hid _ from grown_trans G2.out (grown_set w2 g 2 (.int .i64 ((z:Int)+2))))
   go_wp2
   go_step3
   refine⟨rfl,⟨?_,_,_,_,_,_,_,_,_,_,_,_,rfl⟩,?_⟩
   ·exact⟨⟨z+2,z+2,f,S3.out,by omega,by omega,HE.out,by omega⟩,G3.out⟩
   ·rw[hat.out]
    have:=S3.out.at
    first|omega|(rw[this];omega)
 ·intro pass
  go_wp2
  go_step3
  rename_i hK
  exact hK _ _ (pass _ _ ⟨HV0,_,_,_,_,_,_,_,_,_,_,_,rfl⟩)
end Go.Proofs.YtibbpmhbgbafhaaGreatDoor
