import Derived.Test.YtkcajnjledldnaaGreatDoorRfRead1
import Derived.Test.YtkcajnjledldnaaGreatDoorTk
import Derived.RegionTactic
set_option maxRecDepth 20000
set_option maxHeartbeats 8000000
namespace Go.Proofs.YtkcajnjledldnaaGreatDoor
open Go.RowKit Go.Lib Go.Maps
theorem Ef.of_below {g:Nat} {r:Option Nat} {w w':World} (h:Below w.heap.size w w'):Ef g r w w':=⟨h.os,h.tape,h.output,h.size,fun k hk _ _=>h.block k hk⟩
theorem Ef.then_below {g:Nat} {r:Option Nat} {w w1 w2:World} (h:Ef g r w w1)(hb:Below w1.heap.size w1 w2):Ef g r w w2:=
 ⟨hb.os.trans h.os,hb.tape.trans h.tape,hb.output.trans h.output,Nat.le_trans h.size hb.size,fun k hk hg hr=>(hb.block k (Nat.lt_of_lt_of_le hk h.size)).trans (h.keep k hk hg hr)⟩
theorem specMayY (g:Nat)(tv:Value)(TE:List TkE)(i:Nat)(many:Bool)(v:Value)(E:List NdE)(w:World)(k:Nat)(t:ByteArray)(h:Rs g tv TE i false many v E w)(hi:i<TE.length)(hl:TE.length≤100000)(hy:isE TE i k t=true) :
  Calls Tryz.prog 89 #[.pointer (some ⟨g,0,none⟩),.int .u8 (k:Int),.string t] w fun e w'=>e=.returned (.bool true)∧Rs g tv TE (i+1) false many v E w'∧Ef g none w w':=by
 have cI:=mkHid (specIs g tv TE i false many v E w k t h hi)
 have H:=mkHid h
 clear h
 go_enter Tryz.func89,Tryz.ntmps89
 go_wp2_with (go_at_call 131;fail)
 refine cI.out.mono ?_
 rintro e w1 ⟨rfl,hb1⟩
 rw[hy]
 have h1:=H.out.below hb1
 obtain⟨c0,c1,c2,c3,c4⟩:=five h1.blk
 have z1:w1.frozen? ⟨g,1,none⟩=false:=by simp[World.frozen?,h1.blk]
 have H2:=mkHid (h1.set 1 (.int .i64 ((i+1:Nat):Int)) (i+1) false many rfl)
 have E2:Hid (Ef g none w (w1.setCell ⟨g,1,none⟩ (.int .i64 ((i+1:Nat):Int)))):=Ef.ahead hb1 (Ef.set g none w1 1 _)
 clear h1 hb1
 go_wp2
 go_ret
 rw[show(i:Int)+1=((i+1:Nat):Int) from by omega]
 exact⟨rfl,H2.out,E2.out⟩
theorem specMayN (g:Nat)(tv:Value)(TE:List TkE)(i:Nat)(bad many:Bool)(v:Value)(E:List NdE)(w:World)(k:Nat)(t:ByteArray)(h:Rs g tv TE i bad many v E w)(hi:i<TE.length)(hy:(!bad && isE TE i k t)=false) :
  Calls Tryz.prog 89 #[.pointer (some ⟨g,0,none⟩),.int .u8 (k:Int),.string t] w fun e w'=>e=.returned (.bool false)∧Below w.heap.size w w':=by
 have cI:=mkHid (specIs g tv TE i bad many v E w k t h hi)
 clear h
 go_enter Tryz.func89,Tryz.ntmps89
 go_wp2_with (go_at_call 131;fail)
 refine cI.out.mono ?_
 rintro e w1 ⟨rfl,hb1⟩
 rw[hy]
 replace hb1:=mkHid hb1
 go_wp2
 go_ret
 exact⟨rfl,hb1.out⟩
theorem specWantY (g:Nat)(tv:Value)(TE:List TkE)(i:Nat)(many:Bool)(v:Value)(E:List NdE)(w:World)(k:Nat)(t:ByteArray)(h:Rs g tv TE i false many v E w)(hi:i<TE.length)(hl:TE.length≤100000)(hy:isE TE i k t=true) :
  Calls Tryz.prog 95 #[.pointer (some ⟨g,0,none⟩),.int .u8 (k:Int),.string t] w fun e w'=>e=.returned (.tuple #[])∧Rs g tv TE (i+1) false many v E w'∧Ef g none w w':=by
 have cI:=mkHid (specMayY g tv TE i many v E w k t h hi hl hy)
 clear h
 go_enter Tryz.func95,Tryz.ntmps95
 go_wp2_with (go_at_call 89;fail)
 refine cI.out.mono ?_
 rintro e w1 ⟨rfl,h1,e1⟩
 replace h1:=mkHid h1
 replace e1:=mkHid e1
 go_wp2
 exact bodyPost_end (v:=.tuple #[]) (results_none Tryz.results95 _ _ _) rfl ⟨rfl,h1.out,e1.out⟩
theorem specWantN (g:Nat)(tv:Value)(TE:List TkE)(i:Nat)(bad many:Bool)(v:Value)(E:List NdE)(w:World)(k:Nat)(t:ByteArray)(h:Rs g tv TE i bad many v E w)(hi:i<TE.length)(hy:(!bad && isE TE i k t)=false) :
  Calls Tryz.prog 95 #[.pointer (some ⟨g,0,none⟩),.int .u8 (k:Int),.string t] w fun e w'=>e=.returned (.tuple #[])∧Rs g tv TE i true many v E w'∧Ef g none w w':=by
 have cI:=mkHid (specMayN g tv TE i bad many v E w k t h hi hy)
 have H:=mkHid h
 clear h
 go_enter Tryz.func95,Tryz.ntmps95
 go_wp2_with (go_at_call 89;fail)
 refine cI.out.mono ?_
 rintro e w1 ⟨rfl,hb1⟩
 have h1:=H.out.below hb1
 obtain⟨c0,c1,c2,c3,c4⟩:=five h1.blk
 have z1:w1.frozen? ⟨g,2,none⟩=false:=by simp[World.frozen?,h1.blk]
 have H2:=mkHid (h1.set 2 (.bool true) i true many rfl)
 have E2:Hid (Ef g none w (w1.setCell ⟨g,2,none⟩ (.bool true))):=Ef.ahead hb1 (Ef.set g none w1 2 _)
 clear h1 hb1
 go_wp2
 exact bodyPost_end (v:=.tuple #[]) (results_none Tryz.results95 _ _ _) rfl ⟨rfl,H2.out,E2.out⟩
theorem specTakeN (g:Nat)(tv:Value)(TE:List TkE)(i:Nat)(bad many:Bool)(v:Value)(E:List NdE)(w:World)(k:Nat)(h:Rs g tv TE i bad many v E w)(hi:i<TE.length)(hy:bad=true∨TE[i].1≠k) :
  Calls Tryz.prog 94 #[.pointer (some ⟨g,0,none⟩),.int .u8 (k:Int)] w fun e w'=>e=.returned (.string ⟨#[]⟩)∧Rs g tv TE i true many v E w'∧Ef g none w w':=by
 obtain⟨c0,c1,c2,c3,c4⟩:=five h.blk
 obtain⟨o,cap,rfl⟩:=h.tks.shape
 obtain⟨q,rfl,-,-,e0,e1,e2⟩:=h.tks.at i hi
 have hii:(i:Int)<(TE.length:Int):=by omega
 have key:∀W,Below w.heap.size w W→Hid (W.frozen? ⟨g,2,none⟩=false∧W.cell? ⟨g,2,none⟩=some (.bool bad)∧Rs g (.slice (some ⟨q,0,none⟩) TE.length cap) TE i true many v E (W.setCell ⟨g,2,none⟩ (.bool true))∧Ef g none w (W.setCell ⟨g,2,none⟩ (.bool true))):=fun W hb=>by
  have h1:=h.below hb
  exact⟨by simp[World.frozen?,h1.blk],(five h1.blk).2.2.1,h1.set 2 (.bool true) i true many rfl,Ef.ahead hb (Ef.set g none W 2 _)⟩
 generalize TE[i].1=k1 at *
 clear h
 cases bad
 ·have hk:((k1:Int) != (k:Int))=true:=by
   rw[bne_iff_ne]
   intro e
   rcases hy with hy|hy
   ·cases hy
   ·exact hy (by omega)
  clear hy
  go_enter Tryz.func94,Tryz.ntmps94
  go_wp2
  go_quiet (fail)
  obtain⟨z1,z0,K2⟩:=key (w.drewN nq) (Go.below_drewN (Below.refl _ _) _)
  replace K2:=mkHid K2
  go_wp2
  go_ret
  exact⟨rfl,K2.out.1,K2.out.2⟩
 ·clear hy
  go_enter Tryz.func94,Tryz.ntmps94
  go_wp2
  go_quiet (fail)
  obtain⟨z1,z0,K2⟩:=key (w.drewN nq) (Go.below_drewN (Below.refl _ _) _)
  replace K2:=mkHid K2
  go_wp2
  go_ret
  exact⟨rfl,K2.out.1,K2.out.2⟩
theorem specTakeY (g:Nat)(tv:Value)(TE:List TkE)(i:Nat)(many:Bool)(v:Value)(E:List NdE)(w:World)(k:Nat)(h:Rs g tv TE i false many v E w)(hi:i<TE.length)(hl:TE.length≤100000)(hy:TE[i].1=k) :
  Calls Tryz.prog 94 #[.pointer (some ⟨g,0,none⟩),.int .u8 (k:Int)] w fun e w'=>e=.returned (.string TE[i].2.1)∧Rs g tv TE (i+1) false many v E w'∧Ef g none w w':=by
 obtain⟨c0,c1,c2,c3,c4⟩:=five h.blk
 obtain⟨o,cap,rfl⟩:=h.tks.shape
 obtain⟨q,rfl,-,-,e0,e1,e2⟩:=h.tks.at i hi
 have hii:(i:Int)<(TE.length:Int):=by omega
 have key:∀W,Below w.heap.size w W→Hid (W.frozen? ⟨g,1,none⟩=false∧W.cell? ⟨g,1,none⟩=some (.int .i64 (i:Int))∧W.cell? ⟨g,0,none⟩=some (.slice (some ⟨q,0,none⟩) TE.length cap)∧Rs g (.slice (some ⟨q,0,none⟩) TE.length cap) TE (i+1) false many v E (W.setCell ⟨g,1,none⟩ (.int .i64 ((i+1:Nat):Int)))∧Ef g none w (W.setCell ⟨g,1,none⟩ (.int .i64 ((i+1:Nat):Int)))):=fun W hb=>by
  have h1:=h.below hb
  exact⟨by simp[World.frozen?,h1.blk],(five h1.blk).2.1,(five h1.blk).1,h1.set 1 (.int .i64 ((i+1:Nat):Int)) (i+1) false many rfl,Ef.ahead hb (Ef.set g none W 1 _)⟩
 have key2:∀W j bad2,Rs g (.slice (some ⟨q,0,none⟩) TE.length cap) TE j bad2 many v E W→Hid (W.cell? ⟨g,0,none⟩=some (.slice (some ⟨q,0,none⟩) TE.length cap)∧W.cell? ⟨g,1,none⟩=some (.int .i64 (j:Int))∧W.cell? ⟨q,i*3+1,none⟩=some (.string TE[i].2.1)):=fun W j bad2 h1=>by
  obtain⟨q',hq',-,-,-,e1',-⟩:=h1.tks.at i hi
  cases hq'
  exact⟨(five h1.blk).1,(five h1.blk).2.1,e1'⟩
 have hk:((TE[i].1:Int) != (k:Int))=false:=by
  rw[bne_eq_false_iff_eq,hy]
 generalize TE[i].1=k1 at *
 generalize TE[i].2.1=t1 at *
 clear h hy
 go_enter Tryz.func94,Tryz.ntmps94
 go_wp2
 go_quiet (fail)
 obtain⟨z1,z0,z2,K2⟩:=key (w.drewN nq) (Go.below_drewN (Below.refl _ _) _)
 obtain⟨K3,K4⟩:=K2
 replace K3:=mkHid K3
 replace K4:=mkHid K4
 go_wp2
 rw[show(i:Int)+1=((i+1:Nat):Int) from by omega]
 generalize hW3:(w.drewN nq).setCell ⟨g,1,none⟩ (.int .i64 ((i+1:Nat):Int))=W3 at *
 obtain⟨y0,y1,y2⟩:=key2 _ _ _ K3.out
 have hwi:IntKind.i64.wrap (i:Int)=(i:Int):=by unfold IntKind.wrap;simp[IntKind.bits,IntKind.signed];omega
 go_wp2
 refine wp_region_quiet_lit (by kernel_rfl) (by kernel_rfl) ?_
 repeat (go_big_quiet_step (fail))
 refine wpQuiet_nil ?_
 rintro _ ⟨nq2,rfl⟩
 go_wp2
 go_ret
 exact⟨rfl,K3.out.below (Go.below_drewN (Below.refl _ _) _),K4.out.then_below (Go.below_drewN (Below.refl _ _) _)⟩
theorem specCmdW (t:ByteArray)(w:World):Calls Tryz.prog 96 #[.string t] w fun e w'=>e=.returned (.int .i64 (Rf.cmdK t.toList))∧w=w':=by
 unfold Rf.cmdK
 cases h0:(t.toList == [107,101,101,112])
 case true=>
  rw[if_pos rfl]
  go_enter Tryz.func96,Tryz.ntmps96
  go_wp2
  go_ret
  exact⟨rfl,rfl⟩
 cases h1:(t.toList == [100,105,115,99,97,114,100])
 case true=>
  rw[if_neg (by decide),if_pos rfl]
  go_enter Tryz.func96,Tryz.ntmps96
  go_wp2
  go_ret
  exact⟨rfl,rfl⟩
 cases h2:(t.toList == [115,116,111,112])
 case true=>
  rw[if_neg (by decide),if_neg (by decide),if_pos rfl]
  go_enter Tryz.func96,Tryz.ntmps96
  go_wp2
  go_ret
  exact⟨rfl,rfl⟩
 cases h3:(t.toList == [102,105,108,101,105,110,116,111])
 case true=>
  rw[if_neg (by decide),if_neg (by decide),if_neg (by decide),if_pos rfl]
  go_enter Tryz.func96,Tryz.ntmps96
  go_wp2
  go_ret
  exact⟨rfl,rfl⟩
 cases h4:(t.toList == [114,101,100,105,114,101,99,116])
 case true=>
  rw[if_neg (by decide),if_neg (by decide),if_neg (by decide),if_neg (by decide),if_pos rfl]
  go_enter Tryz.func96,Tryz.ntmps96
  go_wp2
  go_ret
  exact⟨rfl,rfl⟩
 cases h5:(t.toList == [114,101,106,101,99,116])
 case true=>
  rw[if_neg (by decide),if_neg (by decide),if_neg (by decide),if_neg (by decide),if_neg (by decide),if_pos rfl]
  go_enter Tryz.func96,Tryz.ntmps96
  go_wp2
  go_ret
  exact⟨rfl,rfl⟩
 cases h6:(t.toList == [97,100,100,102,108,97,103])
 case true=>
  rw[if_neg (by decide),if_neg (by decide),if_neg (by decide),if_neg (by decide),if_neg (by decide),if_neg (by decide),if_pos rfl]
  go_enter Tryz.func96,Tryz.ntmps96
  go_wp2
  go_ret
  exact⟨rfl,rfl⟩
 rw[if_neg (by decide),if_neg (by decide),if_neg (by decide),if_neg (by decide),if_neg (by decide),if_neg (by decide),if_neg (by decide)]
 go_enter Tryz.func96,Tryz.ntmps96
 go_wp2
 go_ret
 exact⟨rfl,rfl⟩
theorem specTstW (t:ByteArray)(w:World):Calls Tryz.prog 159 #[.string t] w fun e w'=>e=.returned (.int .i64 (Rf.tstK t.toList))∧w=w':=by
 unfold Rf.tstK
 cases h0:(t.toList == [116,114,117,101])
 case true=>
  rw[if_pos rfl]
  go_enter Tryz.func159,Tryz.ntmps159
  go_wp2
  go_ret
  exact⟨rfl,rfl⟩
 cases h1:(t.toList == [102,97,108,115,101])
 case true=>
  rw[if_neg (by decide),if_pos rfl]
  go_enter Tryz.func159,Tryz.ntmps159
  go_wp2
  go_ret
  exact⟨rfl,rfl⟩
 cases h2:(t.toList == [110,111,116])
 case true=>
  rw[if_neg (by decide),if_neg (by decide),if_pos rfl]
  go_enter Tryz.func159,Tryz.ntmps159
  go_wp2
  go_ret
  exact⟨rfl,rfl⟩
 cases h3:(t.toList == [97,108,108,111,102])
 case true=>
  rw[if_neg (by decide),if_neg (by decide),if_neg (by decide),if_pos rfl]
  go_enter Tryz.func159,Tryz.ntmps159
  go_wp2
  go_ret
  exact⟨rfl,rfl⟩
 cases h4:(t.toList == [97,110,121,111,102])
 case true=>
  rw[if_neg (by decide),if_neg (by decide),if_neg (by decide),if_neg (by decide),if_pos rfl]
  go_enter Tryz.func159,Tryz.ntmps159
  go_wp2
  go_ret
  exact⟨rfl,rfl⟩
 cases h5:(t.toList == [104,101,97,100,101,114])
 case true=>
  rw[if_neg (by decide),if_neg (by decide),if_neg (by decide),if_neg (by decide),if_neg (by decide),if_pos rfl]
  go_enter Tryz.func159,Tryz.ntmps159
  go_wp2
  go_ret
  exact⟨rfl,rfl⟩
 cases h6:(t.toList == [97,100,100,114,101,115,115])
 case true=>
  rw[if_neg (by decide),if_neg (by decide),if_neg (by decide),if_neg (by decide),if_neg (by decide),if_neg (by decide),if_pos rfl]
  go_enter Tryz.func159,Tryz.ntmps159
  go_wp2
  go_ret
  exact⟨rfl,rfl⟩
 cases h7:(t.toList == [101,110,118,101,108,111,112,101])
 case true=>
  rw[if_neg (by decide),if_neg (by decide),if_neg (by decide),if_neg (by decide),if_neg (by decide),if_neg (by decide),if_neg (by decide),if_pos rfl]
  go_enter Tryz.func159,Tryz.ntmps159
  go_wp2
  go_ret
  exact⟨rfl,rfl⟩
 cases h8:(t.toList == [101,120,105,115,116,115])
 case true=>
  rw[if_neg (by decide),if_neg (by decide),if_neg (by decide),if_neg (by decide),if_neg (by decide),if_neg (by decide),if_neg (by decide),if_neg (by decide),if_pos rfl]
  go_enter Tryz.func159,Tryz.ntmps159
  go_wp2
  go_ret
  exact⟨rfl,rfl⟩
 cases h9:(t.toList == [115,105,122,101])
 case true=>
  rw[if_neg (by decide),if_neg (by decide),if_neg (by decide),if_neg (by decide),if_neg (by decide),if_neg (by decide),if_neg (by decide),if_neg (by decide),if_neg (by decide),if_pos rfl]
  go_enter Tryz.func159,Tryz.ntmps159
  go_wp2
  go_ret
  exact⟨rfl,rfl⟩
 cases h10:(t.toList == [115,116,114,105,110,103])
 case true=>
  rw[if_neg (by decide),if_neg (by decide),if_neg (by decide),if_neg (by decide),if_neg (by decide),if_neg (by decide),if_neg (by decide),if_neg (by decide),if_neg (by decide),if_neg (by decide),if_pos rfl]
  go_enter Tryz.func159,Tryz.ntmps159
  go_wp2
  go_ret
  exact⟨rfl,rfl⟩
 rw[if_neg (by decide),if_neg (by decide),if_neg (by decide),if_neg (by decide),if_neg (by decide),if_neg (by decide),if_neg (by decide),if_neg (by decide),if_neg (by decide),if_neg (by decide),if_neg (by decide)]
 go_enter Tryz.func159,Tryz.ntmps159
 go_wp2
 go_ret
 exact⟨rfl,rfl⟩
def Rf.numF (n:Nat)(l:List UInt8):Nat:=l.foldl (fun n c=>10*n+(c.toNat-48)) n
theorem Rf.numF_lt:∀(l:List UInt8)(n:Nat),l.all Rf.digK=true→Rf.numF n l<(n+1)*10 ^ l.length
 | [],n,_=>by simp[Rf.numF]
 | c::r,n,h=>by
  rw[List.all_cons,Bool.and_eq_true] at h
  have h1:=Rf.numF_lt r (10*n+(c.toNat-48)) h.2
  have h2:c.toNat-48≤9:=by
   have:=h.1
   unfold Rf.digK at this
   simp only[Bool.and_eq_true,decide_eq_true_eq] at this
   omega
  have h3:(10*n+(c.toNat-48)+1)*10 ^ r.length≤((n+1)*10)*10 ^ r.length:=Nat.mul_le_mul_right _ (by omega)
  rw[List.length_cons,Nat.pow_succ,Nat.mul_comm (10 ^ r.length) 10,← Nat.mul_assoc]
  exact Nat.lt_of_lt_of_le h1 h3
theorem Rf.num_lt (l:List UInt8)(h:l.all Rf.digK=true)(h9:l.length≤9):Rf.num l<1000000000:=by
 have h1:=Rf.numF_lt l 0 h
 have h2:10 ^ l.length≤10 ^ 9:=Nat.pow_le_pow_right (by decide) h9
 have h3:(10:Nat) ^ 9=1000000000:=rfl
 show Rf.numF 0 l<_
 omega
theorem specNum9 (t:ByteArray)(w:World)(h1:1≤t.size)(h9:t.size≤9)(hd:t.toList.all Rf.digK=true):Calls Tryz.prog 133 #[.string t,.int .i64 9] w fun e w'=>e=.returned (.int .i64 (Rf.num t.toList:Nat))∧w=w':=by
 have htl:t.toList=t.data.toList:=ByteArray.toList_eq t
 have hll:t.data.toList.length=t.size:=by simp
 have he:(t.toList == [])=false:=by
  rw[htl,beq_eq_false_iff_ne];intro e;rw[e] at hll;simp at hll;omega
 rw[htl] at hd
 obtain⟨Z,hZ⟩:∃Z,Rf.num t.toList=Z:=⟨_,rfl⟩
 rw[hZ]
 have x1:decide ((9:Int)<(t.size:Int))=false:=decide_eq_false (by omega)
 have HZ:Hid (Rf.numF 0 (t.data.toList.drop 0)=Z):=by rw[htl] at hZ;exact hZ
 have Hll:=mkHid hll
 have Hd:Hid (∀(i:Nat) (h:i<t.size),48≤t[i].toNat∧t[i].toNat≤57):=by
  show ∀_ _,_
  intro i h
  have:=List.all_eq_true.1 hd (t.data.toList[i]'(by rw[hll];exact h)) (List.getElem_mem _)
  unfold Rf.digK at this
  simp only[Bool.and_eq_true,decide_eq_true_eq] at this
  exact this
 clear hZ htl hll hd
 go_enter Tryz.func133,Tryz.ntmps133
 go_wp2
 go_loopw [5,6] (fun nv iv wr=>∃ i n:Nat,i≤t.size∧iv=.int .i64 i∧nv=.int .i64 (n:Int)∧Hid (n<10 ^ i)∧n≤1000000000∧Hid (Rf.numF n (t.data.toList.drop i)=Z)∧wr=w) (fun _ iv _=>t.size-(Lib.intOf iv).toNat)
 case atStart=>exact⟨0,0,Nat.zero_le _,rfl,rfl,by show(0:Nat)<10 ^ 0;decide,Nat.zero_le _,HZ,rfl⟩
 case round=>
  clear HZ
  obtain⟨i,n,hi,rfl,rfl,hpw,hnb,hz,rfl⟩:=hrel
  by_cases hlt:i<t.size
  ·have hli:i<t.data.toList.length:=by rw[Hll.out];exact hlt
   have hst:=hz.out
   rw[List.drop_eq_getElem_cons hli,show t.data.toList[i]'hli=t[i] from rfl] at hst
   obtain⟨y0,y1⟩:=Hd.out i hlt
   have hn9:n≤99999999:=by
    have h1':=hpw.out
    have h2':10 ^ i≤10 ^ 8:=Nat.pow_le_pow_right (by decide) (by omega)
    have h3':(10:Nat) ^ 8=100000000:=rfl
    omega
   clear hz
   have u0:decide ((t[i].toNat:Int)<48)=false:=decide_eq_false (by omega)
   have u1:decide ((57:Int)<(t[i].toNat:Int))=false:=decide_eq_false (by omega)
   obtain⟨m,hm⟩:∃m,m=10*n+(t[i].toNat-48):=⟨_,rfl⟩
   replace hst:Rf.numF m (t.data.toList.drop (i+1))=Z:=by rw[hm];exact hst
   have hpw2:Hid (m<10 ^ (i+1)):=by
    show m<10 ^ (i+1)
    rw[Nat.pow_succ]
    have:=hpw.out
    omega
   have hmb:m≤1000000000:=by omega
   have hmI:(n:Int)*10+((t[i].toNat:Int)-48)=(m:Int):=by omega
   replace hst:=mkHid hst
   replace hm:=mkHid hm
   go_wp2
   go_roundw
   case rel=>exact⟨i+1,m,by omega,by go_num,by first|(rw[← hmI];go_num)|go_num,hpw2,hmb,hst,trivial⟩
   case measure=>simp[Lib.intOf];omega
  ·have hr:Hid (Z=n):=by
    rw[← hz.out,List.drop_eq_nil_of_le (by rw[Hll.out];omega)]
    rfl
   clear hz
   go_wp2
   go_ret
   rw[hr.out]
   exact⟨rfl,rfl⟩
def GoodN (TE:List TkE):Prop:=∀e ∈ TE,e.1=110→1≤e.2.1.size∧e.2.1.size≤9∧e.2.1.toList.all Rf.digK=true
theorem specNumberY (g:Nat)(tv:Value)(TE:List TkE)(i:Nat)(many:Bool)(v:Value)(E:List NdE)(w:World)(m:Nat)(h:Rs g tv TE i false many v E w)(hi:i<TE.length)(hl:TE.length≤100000)(hg:GoodN TE)(hy:TE[i].1=110)(hm:Rf.num TE[i].2.1.toList≤m) :
  Calls Tryz.prog 91 #[.pointer (some ⟨g,0,none⟩),.int .i64 (m:Int)] w fun e w'=>e=.returned (.int .i64 (Rf.num TE[i].2.1.toList:Nat))∧Rs g tv TE (i+1) false many v E w'∧Ef g none w w':=by
 obtain⟨n1,n2,n3⟩:=hg TE[i] (List.getElem_mem _) hy
 have hC:∀W:World,Calls Tryz.prog 133 #[.string TE[i].2.1,.int .i64 9] W fun e w'=>e=.returned (.int .i64 (Rf.num TE[i].2.1.toList:Nat))∧w'=W:=fun W=>(specNum9 TE[i].2.1 W n1 n2 n3).mono fun _ _ h=>⟨h.1,h.2.symm⟩
 have hlt:=Rf.num_lt TE[i].2.1.toList n3 (by rw[ByteArray.toList_eq];simpa using n2)
 have cT:∀W:World,Below w.heap.size w W→_:=fun W hb=>specTakeY g tv TE i many v E W 110 (h.below hb) hi hl hy
 obtain⟨c0,c1,c2,c3,c4⟩:=five h.blk
 obtain⟨o,cap,rfl⟩:=h.tks.shape
 obtain⟨q,rfl,-,-,e0,e1,e2⟩:=h.tks.at i hi
 have hii:(i:Int)<(TE.length:Int):=by omega
 have hk:((TE[i].1:Int) != 110)=false:=by
  rw[bne_eq_false_iff_eq,hy];rfl
 generalize TE[i].1=k1 at *
 generalize TE[i].2.1=t1 at *
 generalize Rf.num t1.toList=z at *
 have hd:decide ((m:Int)<(z:Int))=false:=decide_eq_false (by omega)
 replace hC:=mkHid hC
 replace cT:=mkHid cT
 clear h hg n1 n2 n3
 go_enter Tryz.func91,Tryz.ntmps91
 go_wp2
 go_quiet (exact Calls.quiet_of_same (hC.out _))
 go_wp2_with (go_at_call 94;fail)
 refine(cT.out _ (Go.below_drewN (Below.refl _ _) _)).mono ?_
 rintro e w1 ⟨rfl,h1,e1⟩
 replace h1:=mkHid h1
 replace e1:=mkHid (Ef.ahead (Go.below_drewN (Below.refl _ _) _) e1)
 go_wp2_with (go_at_call 133;fail)
 refine(hC.out _).mono ?_
 rintro e w2 ⟨rfl,rfl⟩
 go_wp2
 go_ret
 exact⟨rfl,h1.out,e1.out⟩
theorem specNumberN (g:Nat)(tv:Value)(TE:List TkE)(i:Nat)(bad many:Bool)(v:Value)(E:List NdE)(w:World)(m:Nat)(h:Rs g tv TE i bad many v E w)(hi:i<TE.length)(hg:GoodN TE)(hy:bad=true∨TE[i].1≠110∨m<Rf.num TE[i].2.1.toList) :
  Calls Tryz.prog 91 #[.pointer (some ⟨g,0,none⟩),.int .i64 (m:Int)] w fun e w'=>e=.returned (.int .i64 0)∧Rs g tv TE i true many v E w'∧Ef g none w w':=by
 have hC:∀W:World,TE[i].1=110→Calls Tryz.prog 133 #[.string TE[i].2.1,.int .i64 9] W fun e w'=>e=.returned (.int .i64 (Rf.num TE[i].2.1.toList:Nat))∧w'=W:=fun W hk=>by
  obtain⟨n1,n2,n3⟩:=hg TE[i] (List.getElem_mem _) hk
  exact(specNum9 TE[i].2.1 W n1 n2 n3).mono fun _ _ h=>⟨h.1,h.2.symm⟩
 obtain⟨c0,c1,c2,c3,c4⟩:=five h.blk
 obtain⟨o,cap,rfl⟩:=h.tks.shape
 obtain⟨q,rfl,-,-,e0,e1,e2⟩:=h.tks.at i hi
 have hii:(i:Int)<(TE.length:Int):=by omega
 have key:∀W,Below w.heap.size w W→Hid (W.frozen? ⟨g,2,none⟩=false∧W.cell? ⟨g,2,none⟩=some (.bool bad)∧Rs g (.slice (some ⟨q,0,none⟩) TE.length cap) TE i true many v E (W.setCell ⟨g,2,none⟩ (.bool true))∧Ef g none w (W.setCell ⟨g,2,none⟩ (.bool true))):=fun W hb=>by
  have h1:=h.below hb
  exact⟨by simp[World.frozen?,h1.blk],(five h1.blk).2.2.1,h1.set 2 (.bool true) i true many rfl,Ef.ahead hb (Ef.set g none W 2 _)⟩
 generalize TE[i].1=k1 at *
 generalize TE[i].2.1=t1 at *
 generalize Rf.num t1.toList=z at *
 clear h hg
 cases bad
 ·by_cases hk:k1=110
  ·have hk1:((k1:Int) != 110)=false:=by rw[bne_eq_false_iff_eq,hk];rfl
   have hmz:m<z:=by rcases hy with hy|hy|hy;cases hy;exact absurd hk hy;exact hy
   have hd:decide ((m:Int)<(z:Int))=true:=decide_eq_true (by omega)
   replace hC:=mkHid (fun W=>hC W hk)
   clear hy hk
   go_enter Tryz.func91,Tryz.ntmps91
   go_wp2
   go_quiet (exact Calls.quiet_of_same (hC.out _))
   obtain⟨z1,z0,K2⟩:=key (w.drewN nq) (Go.below_drewN (Below.refl _ _) _)
   replace K2:=mkHid K2
   go_wp2
   go_ret
   exact⟨rfl,K2.out.1,K2.out.2⟩
  ·have hk1:((k1:Int) != 110)=true:=by rw[bne_iff_ne];intro e;exact hk (by omega)
   clear hy hk hC
   go_enter Tryz.func91,Tryz.ntmps91
   go_wp2
   go_quiet (fail)
   obtain⟨z1,z0,K2⟩:=key (w.drewN nq) (Go.below_drewN (Below.refl _ _) _)
   replace K2:=mkHid K2
   go_wp2
   go_ret
   exact⟨rfl,K2.out.1,K2.out.2⟩
 ·clear hy hC
  go_enter Tryz.func91,Tryz.ntmps91
  go_wp2
  go_quiet (fail)
  obtain⟨z1,z0,K2⟩:=key (w.drewN nq) (Go.below_drewN (Below.refl _ _) _)
  replace K2:=mkHid K2
  go_wp2
  go_ret
  exact⟨rfl,K2.out.1,K2.out.2⟩
theorem specMatch0 (g:Nat)(tv:Value)(TE:List TkE)(i:Nat)(many:Bool)(v:Value)(E:List NdE)(w:World)(h:Rs g tv TE i false many v E w)(hi:i<TE.length)(hl:TE.length≤100000)  (hy:isE TE i 58 ⟨#[58,105,115]⟩=true) :
  Calls Tryz.prog 161 #[.pointer (some ⟨g,0,none⟩)] w fun e w'=>e=.returned (.int .i64 0)∧Rs g tv TE (i+1) false many v E w'∧Ef g none w w':=by
 have H:=mkHid h
 clear h
 go_enter Tryz.func161,Tryz.ntmps161
 go_wp2_with (go_at_call 89;fail)
 refine(specMayY g tv TE i many v E _ 58 ⟨#[58,105,115]⟩ (H.out.below (Below.refl _ _)) hi hl hy).mono ?_
 rintro e w9 ⟨rfl,h9,e9⟩
 replace h9:=mkHid h9
 replace e9:=mkHid (Ef.ahead (Below.refl _ _) e9)
 go_wp2
 go_ret
 exact⟨rfl,h9.out,e9.out⟩
theorem specMatch1 (g:Nat)(tv:Value)(TE:List TkE)(i:Nat)(many:Bool)(v:Value)(E:List NdE)(w:World)(h:Rs g tv TE i false many v E w)(hi:i<TE.length)(hl:TE.length≤100000)(n0:isE TE i 58 ⟨#[58,105,115]⟩=false)(hy:isE TE i 58 ⟨#[58,99,111,110,116,97,105,110,115]⟩=true) :
  Calls Tryz.prog 161 #[.pointer (some ⟨g,0,none⟩)] w fun e w'=>e=.returned (.int .i64 1)∧Rs g tv TE (i+1) false many v E w'∧Ef g none w w':=by
 have H:=mkHid h
 clear h
 go_enter Tryz.func161,Tryz.ntmps161
 go_wp2_with (go_at_call 89;fail)
 refine(specMayN g tv TE i false many v E _ 58 ⟨#[58,105,115]⟩ (H.out.below (Below.refl _ _)) hi (by rw[n0];rfl)).mono ?_
 rintro e w0 ⟨rfl,hb0⟩
 replace hb0:=mkHid (hb0)
 go_wp2_with (go_at_call 89;fail)
 refine(specMayY g tv TE i many v E _ 58 ⟨#[58,99,111,110,116,97,105,110,115]⟩ (H.out.below hb0.out) hi hl hy).mono ?_
 rintro e w9 ⟨rfl,h9,e9⟩
 replace h9:=mkHid h9
 replace e9:=mkHid (Ef.ahead hb0.out e9)
 go_wp2
 go_ret
 exact⟨rfl,h9.out,e9.out⟩
theorem specMatch2 (g:Nat)(tv:Value)(TE:List TkE)(i:Nat)(many:Bool)(v:Value)(E:List NdE)(w:World)(h:Rs g tv TE i false many v E w)(hi:i<TE.length)(hl:TE.length≤100000)(n0:isE TE i 58 ⟨#[58,105,115]⟩=false)(n1:isE TE i 58 ⟨#[58,99,111,110,116,97,105,110,115]⟩=false)(hy:isE TE i 58 ⟨#[58,109,97,116,99,104,101,115]⟩=true) :
  Calls Tryz.prog 161 #[.pointer (some ⟨g,0,none⟩)] w fun e w'=>e=.returned (.int .i64 2)∧Rs g tv TE (i+1) false many v E w'∧Ef g none w w':=by
 have H:=mkHid h
 clear h
 go_enter Tryz.func161,Tryz.ntmps161
 go_wp2_with (go_at_call 89;fail)
 refine(specMayN g tv TE i false many v E _ 58 ⟨#[58,105,115]⟩ (H.out.below (Below.refl _ _)) hi (by rw[n0];rfl)).mono ?_
 rintro e w0 ⟨rfl,hb0⟩
 replace hb0:=mkHid (hb0)
 go_wp2_with (go_at_call 89;fail)
 refine(specMayN g tv TE i false many v E _ 58 ⟨#[58,99,111,110,116,97,105,110,115]⟩ (H.out.below hb0.out) hi (by rw[n1];rfl)).mono ?_
 rintro e w1 ⟨rfl,hb1⟩
 replace hb1:=mkHid (hb0.out.trans (hb1.mono hb0.out.size))
 go_wp2_with (go_at_call 89;fail)
 refine(specMayY g tv TE i many v E _ 58 ⟨#[58,109,97,116,99,104,101,115]⟩ (H.out.below hb1.out) hi hl hy).mono ?_
 rintro e w9 ⟨rfl,h9,e9⟩
 replace h9:=mkHid h9
 replace e9:=mkHid (Ef.ahead hb1.out e9)
 go_wp2
 go_ret
 exact⟨rfl,h9.out,e9.out⟩
theorem specMatchN (g:Nat)(tv:Value)(TE:List TkE)(i:Nat)(bad:Bool)(many:Bool)(v:Value)(E:List NdE)(w:World)(h:Rs g tv TE i bad many v E w)(hi:i<TE.length)(n0:(!bad && isE TE i 58 ⟨#[58,105,115]⟩)=false)(n1:(!bad && isE TE i 58 ⟨#[58,99,111,110,116,97,105,110,115]⟩)=false)(n2:(!bad && isE TE i 58 ⟨#[58,109,97,116,99,104,101,115]⟩)=false) :
  Calls Tryz.prog 161 #[.pointer (some ⟨g,0,none⟩)] w fun e w'=>e=.returned (.int .i64 0)∧Rs g tv TE i true many v E w'∧Ef g none w w':=by
 have H:=mkHid h
 clear h
 go_enter Tryz.func161,Tryz.ntmps161
 go_wp2_with (go_at_call 89;fail)
 refine(specMayN g tv TE i bad many v E _ 58 ⟨#[58,105,115]⟩ (H.out.below (Below.refl _ _)) hi n0).mono ?_
 rintro e w0 ⟨rfl,hb0⟩
 replace hb0:=mkHid (hb0)
 go_wp2_with (go_at_call 89;fail)
 refine(specMayN g tv TE i bad many v E _ 58 ⟨#[58,99,111,110,116,97,105,110,115]⟩ (H.out.below hb0.out) hi n1).mono ?_
 rintro e w1 ⟨rfl,hb1⟩
 replace hb1:=mkHid (hb0.out.trans (hb1.mono hb0.out.size))
 go_wp2_with (go_at_call 89;fail)
 refine(specMayN g tv TE i bad many v E _ 58 ⟨#[58,109,97,116,99,104,101,115]⟩ (H.out.below hb1.out) hi n2).mono ?_
 rintro e w2 ⟨rfl,hb2⟩
 replace hb2:=mkHid (hb1.out.trans (hb2.mono hb1.out.size))
 have h1:=H.out.below hb2.out
 have c2:=(five h1.blk).2.2.1
 have z1:w2.frozen? ⟨g,2,none⟩=false:=by simp[World.frozen?,h1.blk]
 have H2:=mkHid (h1.set 2 (.bool true) i true many rfl)
 have E2:Hid (Ef g none w (w2.setCell ⟨g,2,none⟩ (.bool true))):=Ef.ahead hb2.out (Ef.set g none w2 2 _)
 clear h1
 go_wp2
 go_ret
 exact⟨rfl,H2.out,E2.out⟩
theorem own_keep1 {w w':World} {B s n:Nat} {e:TypeId} {v:Value} {xs:List Value} (h:w.ownsRow B e s v n xs)(hk:∀k,v.ownBlock=some k→w'.heap[k]?=w.heap[k]?):w'.ownsRow B e s v n xs:=by
 refine⟨h.1,?_⟩
 rcases h.2 with h0|⟨g,cap,cur,rfl,hb,hg,hr⟩
 ·exact .inl h0
 ·exact .inr ⟨g,cap,cur,rfl,hb,(hk g rfl).trans hg,hr⟩
theorem Rs.of_ef {g:Nat} {tv:Value} {TE:List TkE} {i i':Nat} {bad many bad' many':Bool} {v:Value} {E:List NdE} {w w':World} (h:Rs g tv TE i bad many v E w)(he:Ef g none w w')
  (hb:w'.heap[g]?=some (.cells #[tv,.int .i64 (i':Int),.bool bad',.bool many',v] 106 (0,0))):Rs g tv TE i' bad' many' v E w':=by
 have key:∀(x:Value),(∀k,x.ownBlock=some k→g+1≤k∧k<w.heap.size)→∀k,x.ownBlock=some k→w'.heap[k]?=w.heap[k]?:=fun x hx k hk=>he.keep k (hx k hk).2 (by have:=(hx k hk).1;omega) (by simp)
 refine⟨hb,own_keep1 h.tks fun k hk=>he.keep k (World.ownsRow.lt h.tks k hk).2 ?_ (by simp),⟨own_keep1 h.nt.row (key _ (World.ownsRow.lt h.nt.row)),fun s hs=>⟨(h.nt.own s hs).1,fun hn=>own_keep1 ((h.nt.own s hs).2 hn) (key _ (World.ownsRow.lt ((h.nt.own s hs).2 hn)))⟩,h.nt.sep,fun s hs=>⟨(h.nt.ownN s hs).1,fun hn=>own_keep1 ((h.nt.ownN s hs).2 hn) (key _ (World.ownsRow.lt ((h.nt.ownN s hs).2 hn)))⟩,h.nt.sepN⟩⟩
 rintro rfl
 rcases tk_far h.blk h.tks with e|e
 ·rw[e] at hk;cases hk
 ·exact e hk
theorem Ef.trans0 {g:Nat} {w w1 w2:World} (h:Ef g none w w1)(h2:Ef g none w1 w2):Ef g none w w2:=
 ⟨h2.os.trans h.os,h2.tape.trans h.tape,h2.output.trans h.output,Nat.le_trans h.size h2.size,fun k hk hg hr=>(h2.keep k (Nat.lt_of_lt_of_le hk h.size) hg hr).trans (h.keep k hk hg hr)⟩
theorem Ef.app {g:Nat} {w w1 w2:World} {o:Option Nat} {obj:Obj} (he:Ef g none w w1)(hg:(w1.alloc obj).grownBy w2 o)(ho:∀k,o=some k→w.heap.size≤k)(hgl:g<w.heap.size):Ef g none w w2∧w2.heap[g]?=w1.heap[g]?:=by
 have hb:Below w1.heap.size w1 (w1.alloc obj):=(Below.refl _ _).alloc (Nat.le_refl _) _
 have hs:=he.size
 have hs2:=hb.size
 have key:∀k,k<w.heap.size→w2.heap[k]?=w1.heap[k]?:=fun k hk=>(hg.block k (by omega) (fun e=>by have:=ho k e.symm;omega)).trans (hb.block k (by omega))
 exact⟨⟨hg.os.trans (hb.os.trans he.os),hg.tape.trans (hb.tape.trans he.tape),hg.output.trans (hb.output.trans he.output),Nat.le_trans hs (Nat.le_trans hs2 hg.size),fun k hk h1 h2=>(key k hk).trans (he.keep k hk h1 h2)⟩,key g hgl⟩
structure Ts (g:Nat)(tv:Value)(TE:List TkE)(v:Value)(E:List NdE)(w:World)(i:Nat)(bad many:Bool)(out:Value)(L:List ByteArray)(wr:World):Prop where
 rs:Rs g tv TE i bad many v E wr
 ef:Ef g none w wr
 own:OwnX w.heap.size out L wr
theorem Ts.step {g:Nat} {tv:Value} {TE:List TkE} {v:Value} {E:List NdE} {w wr w1:World} {i i':Nat} {bad many bad' many':Bool} {out:Value} {L:List ByteArray} (h:Ts g tv TE v E w i bad many out L wr)(hgl:g<w.heap.size)(h1:Rs g tv TE i' bad' many' v E w1)(e1:Ef g none wr w1):Ts g tv TE v E w i' bad' many' out L w1:=
 ⟨h1,h.ef.trans0 e1,own_keep1 h.own fun k hk=>e1.keep k (World.ownsRow.lt h.own k hk).2 (by have:=(World.ownsRow.lt h.own k hk).1;omega) (by simp)⟩
theorem Ts.app {g:Nat} {tv:Value} {TE:List TkE} {v:Value} {E:List NdE} {w wr w2:World} {i i0:Nat} {bad many bad0 many0:Bool} {out out':Value} {L L':List ByteArray} {obj:Obj} (h:Ts g tv TE v E w i bad many out L wr)(h0:Rs g tv TE i0 bad0 many0 v E w)(hO:OwnX w.heap.size out' L' w2)(hg:(wr.alloc obj).grownBy w2 out.ownBlock):Ts g tv TE v E w i bad many out' L' w2:=by
 obtain⟨e,hb⟩:=h.ef.app hg (fun k hk=>(World.ownsRow.lt h.own k hk).1) (heap_ltM h0.blk)
 exact⟨h0.of_ef e (hb.trans h.rs.blk),e,hO⟩
def Rf.en (l:List UInt8)(t:Rf.Tk):TkE:=(t.kind,Rf.ba t.text,Rf.line l t.pos)
structure Tks (l:List UInt8)(T:List Rf.Tk)(TE:List TkE):Prop where
 map:TE=T.map (Rf.en l)
 len:T.length≤100000
 num:GoodN TE
 nxt:∀i,i<T.length→Rf.kind T i≠101→Rf.kind T i≠120→i+1<T.length
theorem Tks.length {l:List UInt8} {T:List Rf.Tk} {TE:List TkE} (h:Tks l T TE):TE.length=T.length:=by rw[h.map,List.length_map]
theorem Tks.kind {l:List UInt8} {T:List Rf.Tk} {TE:List TkE} (h:Tks l T TE)(i:Nat)(hi:i<TE.length):TE[i].1=Rf.kind T i:=by
 have h2:i<T.length:=by rw[← h.length];exact hi
 obtain rfl:=h.map
 simp[Rf.kind,Rf.en,List.getElem?_eq_getElem h2]
theorem Tks.text {l:List UInt8} {T:List Rf.Tk} {TE:List TkE} (h:Tks l T TE)(i:Nat)(hi:i<TE.length):TE[i].2.1=Rf.ba (Rf.text T i):=by
 have h2:i<T.length:=by rw[← h.length];exact hi
 obtain rfl:=h.map
 simp[Rf.text,Rf.en,List.getElem?_eq_getElem h2]
theorem Rf.ba_list (t:List UInt8):(Rf.ba t).toList=t:=by rw[ByteArray.toList_eq];simp[Rf.ba]
theorem Tks.is {l:List UInt8} {T:List Rf.Tk} {TE:List TkE} (h:Tks l T TE)(i:Nat)(hi:i<T.length)(k:Nat)(t:List UInt8):isE TE i k ⟨t.toArray⟩=Rf.is T i k t:=by
 have hi2:i<TE.length:=by rw[h.length];exact hi
 unfold isE Rf.is
 rw[List.getElem?_eq_getElem hi2,Option.map_some,Option.getD_some,h.kind i hi2,h.text i hi2,Rf.ba_list,show(⟨t.toArray⟩:ByteArray).toList=t from Rf.ba_list t]
theorem Tks.is_nxt {l:List UInt8} {T:List Rf.Tk} {TE:List TkE} (h:Tks l T TE)(i:Nat)(hi:i<T.length)(k:Nat)(t:List UInt8)(hy:Rf.is T i k t=true)(h1:k≠101:=by decide)(h2:k≠120:=by decide):i+1<T.length:=by
 unfold Rf.is at hy
 simp only[Bool.and_eq_true,beq_iff_eq] at hy
 exact h.nxt i hi (by rw[hy.1];exact h1) (by rw[hy.1];exact h2)
def TxR (bad:Bool)(i:Nat)(many:Bool)(R:Rf.TO)(i':Nat)(bad' many':Bool)(M:List ByteArray):Prop:=
 if bad=true then bad'=true∧i'=i else match R with
  | .ok j M'=>bad'=false∧i'=j∧M=M'∧many'=(many || decide (100<M.length))
  | .bad j=>bad'=true∧i'=j
theorem specTexts (g:Nat)(tv:Value)(l:List UInt8)(T:List Rf.Tk)(TE:List TkE)(i:Nat)(bad many:Bool)(v:Value)(E:List NdE)(w:World)(hK:Tks l T TE)(h:Rs g tv TE i bad many v E w)(hi:i<T.length) :
  Calls Tryz.prog 160 #[.pointer (some ⟨g,0,none⟩)] w fun e w'=>∃ out M i' bad' many',e=.returned out∧OwnX w.heap.size out M w'∧Ef g none w w'∧Rs g tv TE i' bad' many' v E w'∧TxR bad i many (Rf.txts T i) i' bad' many' M∧i'<T.length:=by
 have hgl:=heap_ltM h.blk
 have hl:TE.length≤100000:=by rw[hK.length];exact hK.len
 have hll:=hK.length
 obtain⟨W0,hW0⟩:∃W0,w.alloc (.cells #[] 9)=W0:=⟨_,rfl⟩
 have S0:Hid (Ts g tv TE v E w i bad many (.slice (some ⟨w.heap.size,0,none⟩) 0 0) [] W0):=by
  have hb:Below w.heap.size w W0:=by rw[← hW0];exact(Below.refl _ _).alloc (Nat.le_refl _) _
  exact⟨h.below hb,Ef.of_below hb,by rw[← hW0];exact OwnX.made _ _ (Nat.le_refl _)⟩
 have H0:=mkHid h
 have HW0:=mkHid hW0
 have HK:=mkHid hK
 clear h hW0 hK
 by_cases hA:(!bad && Rf.is T i 112 [91])=true
 ·obtain⟨hb0,hA1⟩:bad=false∧Rf.is T i 112 [91]=true:=by cases bad<;>simp_all
  subst hb0
  have hi1:=HK.out.is_nxt i hi 112 [91] hA1
  obtain⟨R,hR⟩:∃R,Rf.txts T i=R:=⟨_,rfl⟩
  rw[hR]
  unfold Rf.txts at hR
  rw[if_pos hA1] at hR
  go_enter Tryz.func160,Tryz.ntmps160
  go_wp2_with (go_at_call 89;fail)
  rw[HW0.out]
  refine(specMayY g tv TE i many v E _ 112 ⟨#[91]⟩ S0.out.rs (by omega) hl (by rw[HK.out.is i hi];exact hA1)).mono ?_
  rintro e w1 ⟨rfl,h1,e1⟩
  have S1:=mkHid (S0.out.step hgl h1 e1)
  clear h1 e1 S0
  go_wp2_with (go_at_call 94;fail)
  have hT:∃t,Calls Tryz.prog 94 #[.pointer (some ⟨g,0,none⟩),.int .u8 ((116:Nat):Int)] w1 fun e w'=>e=.returned (.string t)∧∃j bad',j<T.length∧i+1≤j∧Ts g tv TE v E w j bad' many (.slice (some ⟨w.heap.size,0,none⟩) 0 0) [] w'∧(bad'=true→R=.bad j)∧(bad'=false→Rf.txtsTail T T.length j [t]=R):=by
   by_cases hk:Rf.kind T (i+1)=116
   ·refine⟨(TE[i+1]'(by omega)).2.1,(specTakeY g tv TE (i+1) many v E w1 116 S1.out.rs (by omega) hl (by rw[HK.out.kind];exact hk)).mono ?_⟩
    rintro e w2 ⟨rfl,h2,e2⟩
    refine⟨rfl,i+2,false,HK.out.nxt (i+1) hi1 (by rw[hk];decide) (by rw[hk];decide),by omega,S1.out.step hgl h2 e2,fun e=>(by cases e),fun _=>?_⟩
    rw[if_pos (by rw[hk];rfl)] at hR
    rw[HK.out.text]
    exact hR
   ·refine⟨⟨#[]⟩,(specTakeN g tv TE (i+1) false many v E w1 116 S1.out.rs (by omega) (.inr (by rw[HK.out.kind];exact hk))).mono ?_⟩
    rintro e w2 ⟨rfl,h2,e2⟩
    refine⟨rfl,i+1,true,hi1,by omega,S1.out.step hgl h2 e2,fun _=>?_,fun e=>(by cases e)⟩
    rw[if_neg (by simpa using hk)] at hR
    exact hR.symm
  obtain⟨t,hT⟩:=hT
  refine hT.mono ?_
  rintro e w2 ⟨rfl,j,b2,hj,hij,s2,r1,r2⟩
  have S2:=mkHid s2
  clear s2 S1 hT
  go_wp2_with (at_builtin;go_must (refine wp_appX rfl _ _ rfl w.heap.size (.slice (some ⟨w.heap.size,0,none⟩) 0 0) [] rfl S2.out.own t 1 rfl (by simp) S2.out.ef.size ?_;intro v2 w2 hO2 hg2;refine Hid.out ?_))
  have S3:=mkHid (S2.out.app H0.out hO2 hg2)
  clear hO2 hg2 S2
  refine mkHid ?_
  replace S3:Hid (∃(j:Nat) (b:Bool) (M:List ByteArray) (f:Nat),j<T.length∧M.length≤j∧T.length≤j+f∧Hid (Ts g tv TE v E w j b many v2 M w2)∧Hid (b=true→R=.bad j)∧Hid (b=false→Rf.txtsTail T f j M=R)):=⟨j,b2,_,T.length,hj,by simp;omega,by omega,S3,r1,r2⟩
  clear r1 r2 hij hj hA hA1 hR
  go_wp2
  go_loopw [3] (fun ov wr=>∃ (j:Nat) (b:Bool) (M:List ByteArray) (f:Nat),j<T.length∧M.length≤j∧T.length≤j+f∧Hid (Ts g tv TE v E w j b many ov M wr)∧Hid (b=true→R=.bad j)∧Hid (b=false→Rf.txtsTail T f j M=R)) (fun _ wr=>T.length-(Lib.intOf ((wr.cell? ⟨g,1,none⟩).getD undef)).toNat)
  case atStart=>exact S3.out
  case round=>
   clear S3
   obtain⟨j,b,M,f,hj,hM,hf,S,R1,R2⟩:=hrel
   obtain⟨o,cap,hshape⟩:=S.out.own.shape
   subst hshape
   have hcell:=mkHid (five S.out.rs.blk).2.1
   obtain⟨f,rfl⟩:∃f',f=f'+1:=⟨f-1,by omega⟩
   by_cases hB:(!b && Rf.is T j 112 [44])=true
   ·obtain⟨hb0,hB1⟩:b=false∧Rf.is T j 112 [44]=true:=by cases b<;>simp_all
    subst hb0
    have hj1:=HK.out.is_nxt j hj 112 [44] hB1
    have R3:=R2.out rfl
    rw[Rf.txtsTail,if_pos hB1] at R3
    replace R3:=mkHid R3
    clear R1 R2
    go_wp2_with (go_at_call 89;fail)
    refine(specMayY g tv TE j many v E _ 112 ⟨#[44]⟩ S.out.rs (by omega) hl (by rw[HK.out.is j hj];exact hB1)).mono ?_
    rintro e w1 ⟨rfl,h1,e1⟩
    have S1:=mkHid (S.out.step hgl h1 e1)
    clear h1 e1 S
    go_wp2_with (go_at_call 94;fail)
    have hT:∃t,Calls Tryz.prog 94 #[.pointer (some ⟨g,0,none⟩),.int .u8 ((116:Nat):Int)] w1 fun e w'=>e=.returned (.string t)∧∃j' bad',j'<T.length∧j+1≤j'∧M.length+1≤j'∧T.length≤j'+f∧Ts g tv TE v E w j' bad' many (.slice o M.length cap) M w'∧(bad'=true→R=.bad j')∧(bad'=false→Rf.txtsTail T f j' (M ++ [t])=R):=by
     have hR:=R3.out
     by_cases hk:Rf.kind T (j+1)=116
     ·refine⟨(TE[j+1]'(by omega)).2.1,(specTakeY g tv TE (j+1) many v E w1 116 S1.out.rs (by omega) hl (by rw[HK.out.kind];exact hk)).mono ?_⟩
      rintro e w2 ⟨rfl,h2,e2⟩
      refine⟨rfl,j+2,false,HK.out.nxt (j+1) hj1 (by rw[hk];decide) (by rw[hk];decide),by omega,by omega,by omega,S1.out.step hgl h2 e2,fun e=>(by cases e),fun _=>?_⟩
      rw[if_pos (by rw[hk];rfl)] at hR
      rw[HK.out.text]
      exact hR
     ·refine⟨⟨#[]⟩,(specTakeN g tv TE (j+1) false many v E w1 116 S1.out.rs (by omega) (.inr (by rw[HK.out.kind];exact hk))).mono ?_⟩
      rintro e w2 ⟨rfl,h2,e2⟩
      refine⟨rfl,j+1,true,hj1,by omega,by omega,by omega,S1.out.step hgl h2 e2,fun _=>?_,fun e=>(by cases e)⟩
      rw[if_neg (by simpa using hk)] at hR
      exact hR.symm
    obtain⟨t,hT⟩:=hT
    refine hT.mono ?_
    rintro e w2 ⟨rfl,j',b2,hj',hjj,hM',hf',s2,r1,r2⟩
    have S2:=mkHid s2
    replace r1:=mkHid r1
    replace r2:=mkHid r2
    clear s2 S1 hT R3
    go_wp2_with (at_builtin;go_must (refine wp_appX rfl _ _ rfl w.heap.size (.slice o M.length cap) M rfl S2.out.own t 1 rfl (by have:=HK.out.len;omega) S2.out.ef.size ?_;intro v2 w2 hO2 hg2;refine Hid.out ?_))
    have S3:=mkHid (S2.out.app H0.out hO2 hg2)
    clear hO2 hg2 S2
    refine mkHid ?_
    have hcell2:=mkHid (five S3.out.rs.blk).2.1
    go_wp2
    go_roundw
    case rel=>exact⟨j',b2,_,f,hj',by simp;omega,hf',S3,r1,r2⟩
    case measure=>rw[hcell.out,hcell2.out];simp[Lib.intOf];omega
   ·have hB1:(!b && Rf.is T j 112 [44])=false:=by simpa using hB
    go_wp2_with (go_at_call 89;fail)
    refine(specMayN g tv TE j b many v E _ 112 ⟨#[44]⟩ S.out.rs (by omega) (by rw[HK.out.is j hj];exact hB1)).mono ?_
    rintro e w1 ⟨rfl,hb1⟩
    have S1:=mkHid (S.out.step hgl (S.out.rs.below hb1) (Ef.of_below hb1))
    clear hb1 S hcell
    go_wp2_with (go_at_call 95;fail)
    have hT:Calls Tryz.prog 95 #[.pointer (some ⟨g,0,none⟩),.int .u8 ((112:Nat):Int),.string ⟨#[93]⟩] w1 fun e w'=>e=.returned (.tuple #[])∧∃j' bad',j'<T.length∧Ts g tv TE v E w j' bad' many (.slice o M.length cap) M w'∧(bad'=true→R=.bad j')∧(bad'=false→R=.ok j' M):=by
     by_cases hC:(!b && Rf.is T j 112 [93])=true
     ·obtain⟨hb0,hC1⟩:b=false∧Rf.is T j 112 [93]=true:=by cases b<;>simp_all
      subst hb0
      have hj1:=HK.out.is_nxt j hj 112 [93] hC1
      refine(specWantY g tv TE j many v E _ 112 ⟨#[93]⟩ S1.out.rs (by omega) hl (by rw[HK.out.is j hj];exact hC1)).mono ?_
      rintro e w2 ⟨rfl,h2,e2⟩
      refine⟨rfl,j+1,false,hj1,S1.out.step hgl h2 e2,fun e=>(by cases e),fun _=>?_⟩
      have R3:=R2.out rfl
      rw[Rf.txtsTail,if_neg (by simpa using hB1),if_pos hC1] at R3
      exact R3.symm
     ·refine(specWantN g tv TE j b many v E _ 112 ⟨#[93]⟩ S1.out.rs (by omega) (by rw[HK.out.is j hj];simpa using hC)).mono ?_
      rintro e w2 ⟨rfl,h2,e2⟩
      refine⟨rfl,j,true,hj,S1.out.step hgl h2 e2,fun _=>?_,fun e=>(by cases e)⟩
      cases b
      ·have R3:=R2.out rfl
       rw[Rf.txtsTail,if_neg (by simpa using hB1),if_neg (by simpa using hC)] at R3
       exact R3.symm
      ·exact R1.out rfl
    refine hT.mono ?_
    rintro e w2 ⟨rfl,j',b2,hj',s2,r1,r2⟩
    have hfin:Hid (∀w3 m3,Ts g tv TE v E w j' b2 m3 (.slice o M.length cap) M w3→m3=(many || decide (100<M.length))→∃out M' i' bad' many',Ending.returned (.slice o M.length cap)=.returned out∧OwnX w.heap.size out M' w3∧Ef g none w w3∧Rs g tv TE i' bad' many' v E w3∧TxR false i many R i' bad' many' M'∧i'<T.length):=by
     show ∀_ _,_
     intro w3 m3 s3 hm3
     refine⟨_,M,j',b2,m3,rfl,s3.own,s3.ef,s3.rs,?_,hj'⟩
     cases b2
     ·rw[r2 rfl]
      exact⟨rfl,rfl,rfl,hm3⟩
     ·rw[r1 rfl]
      exact⟨rfl,rfl⟩
    have S2:=mkHid s2
    clear s2 S1 hT R1 R2 r1 r2
    have x3:=(five S2.out.rs.blk).2.2.2.1
    have z3:w2.frozen? ⟨g,3,none⟩=false:=by simp[World.frozen?,S2.out.rs.blk]
    have HS:=mkHid (fun m3 (hm:#[tv,.int .i64 (j':Int),.bool b2,.bool many,v].setIfInBounds 3 (.bool m3)=#[tv,.int .i64 (j':Int),.bool b2,.bool m3,v])=>S2.out.step hgl (S2.out.rs.set 3 (.bool m3) j' b2 m3 hm) (Ef.set g none w2 3 _))
    clear S2
    cases many
    ·go_wp2
     go_ret
     exact hfin.out _ (decide ((100:Int)<(M.length:Int))) (HS.out _ rfl) (by simp only[Bool.false_or];exact decide_eq_decide.2 (by omega))
    ·go_wp2
     go_ret
     exact hfin.out _ true (HS.out _ rfl) rfl
 ·have hA1:(!bad && Rf.is T i 112 [91])=false:=by simpa using hA
  obtain⟨R,hR⟩:∃R,Rf.txts T i=R:=⟨_,rfl⟩
  rw[hR]
  go_enter Tryz.func160,Tryz.ntmps160
  go_wp2_with (go_at_call 89;fail)
  rw[HW0.out]
  refine(specMayN g tv TE i bad many v E _ 112 ⟨#[91]⟩ S0.out.rs (by omega) (by rw[HK.out.is i hi];exact hA1)).mono ?_
  rintro e w1 ⟨rfl,hb1⟩
  have S1:=mkHid (S0.out.step hgl (S0.out.rs.below hb1) (Ef.of_below hb1))
  clear hb1 S0
  go_wp2_with (go_at_call 94;fail)
  have hT:∃t,Calls Tryz.prog 94 #[.pointer (some ⟨g,0,none⟩),.int .u8 ((116:Nat):Int)] w1 fun e w'=>e=.returned (.string t)∧∃j bad',j<T.length∧Ts g tv TE v E w j bad' many (.slice (some ⟨w.heap.size,0,none⟩) 0 0) [] w'∧TxR bad i many R j bad' many [t]:=by
   by_cases hk:bad=false∧Rf.kind T i=116
   ·obtain⟨hb0,hk⟩:=hk
    subst hb0
    refine⟨(TE[i]'(by omega)).2.1,(specTakeY g tv TE i many v E w1 116 S1.out.rs (by omega) hl (by rw[HK.out.kind];exact hk)).mono ?_⟩
    rintro e w2 ⟨rfl,h2,e2⟩
    refine⟨rfl,i+1,false,HK.out.nxt i hi (by rw[hk];decide) (by rw[hk];decide),S1.out.step hgl h2 e2,?_⟩
    unfold Rf.txts at hR
    rw[if_neg (by simpa using hA1),if_pos (by rw[hk];rfl)] at hR
    rw[HK.out.text,← hR]
    exact⟨rfl,rfl,rfl,by simp⟩
   ·refine⟨⟨#[]⟩,(specTakeN g tv TE i bad many v E w1 116 S1.out.rs (by omega) (by rw[HK.out.kind];cases bad;exact .inr (fun e=>hk ⟨rfl,e⟩);exact .inl rfl)).mono ?_⟩
    rintro e w2 ⟨rfl,h2,e2⟩
    refine⟨rfl,i,true,hi,S1.out.step hgl h2 e2,?_⟩
    cases bad
    ·unfold Rf.txts at hR
     rw[if_neg (by simpa using hA1),if_neg (by simp;exact fun e=>hk ⟨rfl,e⟩)] at hR
     rw[← hR]
     exact⟨rfl,rfl⟩
    ·exact⟨rfl,rfl⟩
  obtain⟨t,hT⟩:=hT
  refine hT.mono ?_
  rintro e w2 ⟨rfl,j,b2,hj,s2,r1⟩
  have S2:=mkHid s2
  replace r1:=mkHid r1
  clear s2 S1 hT
  go_wp2_with (at_builtin;go_must (refine wp_appX rfl _ _ rfl w.heap.size (.slice (some ⟨w.heap.size,0,none⟩) 0 0) [] rfl S2.out.own t 1 rfl (by simp) S2.out.ef.size ?_;intro v2 w2 hO2 hg2;refine Hid.out ?_))
  have S3:=mkHid (S2.out.app H0.out hO2 hg2)
  clear hO2 hg2 S2
  refine mkHid ?_
  go_wp2
  go_ret
  exact⟨_,_,j,b2,many,rfl,S3.out.own,S3.out.ef,S3.out.rs,r1.out,hj⟩
theorem seven_cells {w:World} {b:Nat} {t:TypeId} {z:Nat × Nat} (e:NdE)(h:w.heap[b]?=some (.cells #[.int .i64 e.1.kind,.int .i64 e.1.num,.int .i64 e.1.mat,.string e.1.text,e.2.1,e.2.2.1,e.2.2.2] t z))(j:Nat)(y:Value)(hy:(cell7 e)[j]?=some y):w.cell? ⟨b,j,none⟩=some y:=by
 simp only[World.cell?,h]
 simpa [cell7] using hy
theorem Tryz.infoNd:(Tryz.prog.info? 109).map (fun i=>(i.zero,i.size,i.bytes))=some (some (.agg #[.int .i64 0,.int .i64 0,.int .i64 0,.string ⟨#[]⟩,.slice none 0 0,.slice none 0 0,.slice none 0 0]),7,112):=by kernel_rfl
theorem opAppNt {w:World} {o:Oper} {a:Act} {K:Act→World→Prop} {Q:Exit→Act→World→Prop} (s x:Operand)
  (ho:o.op=.call { callee:=.builtin .append,args:=#[s,x],argTypes:=#[67,67] })
  (B:Nat) (v:Value) (E:List NdE) (hs:a.eval s=v) (hown:w.ownsRow B 109 7 v E.length (ndCells E)) (e:NdE) (g c:Nat) (hx:a.eval x=.slice (some ⟨g,0,none⟩) 1 c)
  (hnew:∀(j:Nat) (y:Value),(cell7 e)[j]?=some y→w.cell? ⟨g,j,none⟩=some y) (hone:∀y ∈ cell7 e,y.oneCell'=true) (hlen:E.length≤1000000) (hB:B≤w.heap.size)
  (h:∀v' w',w'.ownsRow B 109 7 v' (E.length+1) (ndCells (E ++ [e]))→w.grownBy w' v.ownBlock→Nw w v v'→K (a.put o.dst v') w'):o.wp Tryz.prog a w K Q:=by
 obtain⟨i0,hi0,hz0,hz1,hz2⟩:=info_parts Tryz.infoNd
 obtain⟨v',w',hr,h2,h3,h4,h5⟩:=run_append_own_at (P:=Tryz.prog) w B 67 o.type 109 i0 _ 7 _ Tryz.underlying67 hi0 hz0 hz1 hz2 rfl (by decide) v E.length (ndCells E) hown ⟨g,0,none⟩ 1 c (cell7 e) rfl (by
  intro j y hj
  rw[add_off]
  exact hnew j y hj) hone (by unfold maxLen;omega) (by omega) hB
 unfold Oper.wp execOp
 simp only[ho,resolve,invoke,builtin,Sem.run_bind,Sem.run_pure,Result.andThen_ok,List.map_toArray,List.map_cons,List.map_nil,hs,hx,hr]
 refine h v' w' ?_ h3 ?_
 ·rw[ndCells_app]
  exact h2
 ·rcases h5 with e|e
  ·exact .inl e
  ·exact .inr ⟨_,Nat.le_refl _,e⟩
abbrev bxN (n:Nd)(vn vk vd:Value):Obj:=.cells #[.int .i64 n.kind,.int .i64 n.num,.int .i64 n.mat,.string n.text,vn,vk,vd] 109
theorem specPutT (g:Nat)(tv:Value)(TE:List TkE)(i:Nat)(bad many:Bool)(v:Value)(E:List NdE)(n:Nd)(vn vk vd:Value)(w:World)(hM:Rs g tv TE i bad many v E w)(hlen:E.length≤100000)
  (hn:LsX (g+1) w (vn,n.names)) (hk:LsX (g+1) w (vk,n.keys)) (hd:LsN (g+1) w (vd,n.kids)) (hf:FarX (vn,n.names) (vk,n.keys)) (hfar:∀s ∈ slots E,FarX s (vn,n.names)∧FarX s (vk,n.keys)) (hfarN:∀s ∈ kslots E,FarN s (vd,n.kids)) :
  Calls Tryz.prog 50 #[.pointer (some ⟨g,0,none⟩),ndV n vn vk vd] w fun e w'=>e=.returned (.int .i64 (E.length:Int))∧∃v',Rs g tv TE i bad many v' (E ++ [(n,vn,vk,vd)]) w'∧Ef g v.ownBlock w w'∧Nw w v v':=by
 obtain⟨hblk,hT,hC⟩:=hM
 have hgl:=heap_ltM hblk
 have hn0:=hn
 have hk0:=hk
 have hd0:=hd
 obtain⟨⟨on,cn,e1⟩,-⟩:=hn0
 obtain⟨⟨ok,ck,e2⟩,-⟩:=hk0
 obtain⟨⟨od,cd,e3⟩,-⟩:=hd0
 dsimp only at e1 e2 e3
 obtain⟨o,cap,hv⟩:=hC.shape
 have hone:Hid (∀y ∈ cell7 (n,vn,vk,vd),y.oneCell'=true):=by
  show ∀y ∈ _,_
  intro y hy
  simp only[cell7,List.mem_cons,List.not_mem_nil,or_false] at hy
  rcases hy with rfl|rfl|rfl|rfl|rfl|rfl|rfl<;>first|rfl|(rw[e1];rfl)|(rw[e2];rfl)|(rw[e3];rfl)
 obtain⟨W1,hW1⟩:∃W1,w.alloc (bxN n vn vk vd)=W1:=⟨_,rfl⟩
 have b1:Below w.heap.size w W1:=by rw[← hW1];exact(Below.refl _ _).alloc (Nat.le_refl _) _
 have hs1:W1.heap.size=w.heap.size+1:=by rw[← hW1];simp
 have hbx:W1.heap[w.heap.size]?=some (bxN n vn vk vd):=by rw[← hW1];exact heap_alloc_at _ _
 obtain⟨W2,hW2⟩:∃W2,(W1.alloc (bxN n vn vk vd)).drew=W2:=⟨_,rfl⟩
 have b2:Below w.heap.size w W2:=by rw[← hW2];exact(b1.alloc (by omega) _).drew
 have hs2:W2.heap.size=w.heap.size+2:=by rw[← hW2];simp[World.drew,hs1]
 have y1:W1.cell? ⟨g,4,none⟩=some v:=(five ((b1.block g hgl).trans hblk)).2.2.2.2
 have y2:(W1.alloc (bxN n vn vk vd)).cell? ⟨g,4,none⟩=some v:=(five (((b1.alloc (by omega) _).block g hgl).trans hblk)).2.2.2.2
 have d0:W1.cell? ⟨w.heap.size,0,none⟩=some (.int .i64 n.kind):=by simp[World.cell?,hbx]
 have d1:W1.cell? ⟨w.heap.size,1,none⟩=some (.int .i64 n.num):=by simp[World.cell?,hbx]
 have d2:W1.cell? ⟨w.heap.size,2,none⟩=some (.int .i64 n.mat):=by simp[World.cell?,hbx]
 have d3:W1.cell? ⟨w.heap.size,3,none⟩=some (.string n.text):=by simp[World.cell?,hbx]
 have d4:W1.cell? ⟨w.heap.size,4,none⟩=some (vn):=by simp[World.cell?,hbx]
 have d5:W1.cell? ⟨w.heap.size,5,none⟩=some (vk):=by simp[World.cell?,hbx]
 have d6:W1.cell? ⟨w.heap.size,6,none⟩=some (vd):=by simp[World.cell?,hbx]
 have hC2:=mkHid (hC.below b2)
 have hT2:=mkHid (hT.below b2)
 have hn2:=mkHid (hn.below b2)
 have hk2:=mkHid (hk.below b2)
 have hd2:=mkHid (hd.below b2)
 have hb2:=mkHid (show W2.heap[g]?=some (.cells #[tv,.int .i64 (i:Int),.bool bad,.bool many,v] 106 (0,0)) from (b2.block g hgl).trans hblk)
 have hnew:Hid (∀(j:Nat) (y:Value),(cell7 (n,vn,vk,vd))[j]?=some y→W2.cell? ⟨W1.heap.size,j,none⟩=some y):=by
  show ∀_ _,_
  intro j y hy
  refine seven_cells (t:=109) (z:=(0,0)) _ ?_ j y hy
  have:=heap_alloc_at W1 (bxN n vn vk vd)
  rw[← hW2]
  exact this
 have HW1:=mkHid hW1
 have HW2:=mkHid hW2
 have Hb2:=mkHid b2
 have Hs2:=mkHid hs2
 have hN:=mkHid hf
 have hFar:=mkHid hfar
 have hFarN:=mkHid hfarN
 have Hs1:=mkHid hs1
 unfold ndV
 clear hblk hC hn hk hd hf hfar hfarN hW1 hW2 b1 b2 hs2 hbx hs1 hT
 subst e1 e2 e3 hv
 go_enter Tryz.func50,Tryz.ntmps50
 go_wp2
 rw[HW1.out]
 refine wp_region_any (by kernel_rfl) ?_
 refine ta 0 (.pointer (some ⟨g,0,none⟩)) ?_ ?_
 ·intro w
  go_simp
  all_goals omega
 go_simp
 refine ta 1 (.pointer (some ⟨g,0,none⟩)) ?_ ?_
 ·intro w
  go_simp
  all_goals omega
 go_simp
 refine ta 2 (.pointer (some ⟨g,0,none⟩)) ?_ ?_
 ·intro w
  go_simp
  all_goals omega
 go_simp
 refine ta 3 (.pointer (some ⟨g,4,none⟩)) ?_ ?_
 ·intro w
  go_simp
  all_goals omega
 go_simp
 refine wpAny_ready (rs:=[4,5]) (by kernel_rfl) (by simp) ?_
 refine AllReady.cons rfl (fun K hK=>?_) (AllReady.cons rfl (fun K hK=>?_) AllReady.nil)
 ·go_simp
  refine hK _ _ ?_
  clear hK K
  go_simp
  refine r1 5 (fun K hK=>?_)
  go_simp
  refine hK _ _ ?_
  clear hK K
  go_simp
  refine r1 6 (fun K hK=>?_)
  go_simp
  refine hK _ _ ?_
  clear hK K
  go_simp
  refine r1 7 (fun K hK=>?_)
  rw[HW2.out]
  refine opAppNt _ _ rfl (g+1) (.slice o E.length cap) E rfl hC2.out.row (n,.slice on n.names.length cn,.slice ok n.keys.length ck,.slice od n.kids.length cd) W1.heap.size 1 rfl hnew.out hone.out (by omega) (by rw[Hs2.out];omega) ?_
  intro y5 w6 hrow6 hg6 hnw6
  have hC6:=hC2.out.push hn2.out hk2.out hd2.out hN.out hFar.out hFarN.out hrow6 hg6
  have hlow:∀k,(Value.slice o E.length cap).ownBlock=some k→g+1≤k:=fun k hk=>(World.ownsRow.lt hC2.out.row k hk).1
  have hT6:OwnK 0 tv TE w6:=World.ownsRow.kept hT2.out hg6 (own_apart9 hT2.out hC2.out.row (by decide))
  have hO6:w6.heap[g]?=some (.cells #[tv,.int .i64 (i:Int),.bool bad,.bool many,.slice o E.length cap] 106 (0,0)):=(hg6.block g (by rw[Hs2.out];omega) (fun e=>by have:=hlow _ e.symm;omega)).trans hb2.out
  have hb6:Ef g (Value.slice o E.length cap).ownBlock w w6:=Ef.ahead Hb2.out ⟨hg6.os,hg6.tape,hg6.output,hg6.size,fun k hk _ hr=>hg6.block k hk hr⟩
  have hN6:=mkHid (Nw.ahead (show w.heap.size≤W2.heap.size by rw[Hs2.out];omega) hnw6)
  have x6:=(five hO6).2.2.2.2
  have z6:w6.frozen? ⟨g,4,none⟩=false:=by simp[World.frozen?,hO6]
  obtain⟨o5,k5,hv5⟩:=hC6.shape
  rw[show(E ++ [(n,Value.slice on n.names.length cn,Value.slice ok n.keys.length ck,Value.slice od n.kids.length cd)]).length=E.length+1 from by simp] at hv5
  subst hv5
  refine hK _ _ ?_
  clear hK K
  go_simp
  refine ta 8 (.pointer (some ⟨g,0,none⟩)) ?_ ?_
  ·intro w
   go_simp
   all_goals omega
  go_simp
  refine ta 9 (.pointer (some ⟨g,4,none⟩)) ?_ ?_
  ·intro w
   go_simp
   all_goals omega
  go_simp
  refine r1 10 (fun K hK=>?_)
  go_simp
  refine hK _ _ ?_
  clear hK K
  go_simp
  refine wpAny_done (by kernel_rfl) ?_ _
  have hM7:Hid (Rs g tv TE i bad many (.slice o5 (E.length+1) k5) _ (w6.setCell ⟨g,4,none⟩ (.slice o5 (E.length+1) k5))):=⟨by simp[World.setCell,Array.getElem?_modify,hO6],World.ownsRow.kept hT6 (grG_set w6 g 4 _) (tk_far hO6 hT6),hC6.set (by omega)⟩
  have hE7:Hid (Ef g (Value.slice o E.length cap).ownBlock w (w6.setCell ⟨g,4,none⟩ (.slice o5 (E.length+1) k5))):=⟨hb6.os,hb6.tape,hb6.output,by simpa using hb6.size,fun k hk hg hr=>((grG_set w6 g 4 _).block k (Nat.lt_of_lt_of_le hk hb6.size) (by simpa using hg)).trans (hb6.keep k hk hg hr)⟩
  have x7:(w6.setCell ⟨g,4,none⟩ (.slice o5 (E.length+1) k5)).cell? ⟨g,4,none⟩=some (.slice o5 (E.length+1) k5):=by simp[World.setCell,World.cell?,Array.getElem?_modify,hO6]
  clear hrow6 hg6 hC6 hO6 x6 z6 hb6 hnw6
  go_wp2
  go_ret
  refine⟨?_,_,hM7.out,hE7.out,hN6.out⟩
  first|rfl|(simp;done)|(simp;omega)
 ·go_simp
  refine hK _ _ ?_
  clear hK K
  go_simp
  refine wpAny_ready (rs:=[4,6]) (by kernel_rfl) (by simp) ?_
  refine AllReady.cons rfl (fun K hK=>?_) (AllReady.cons rfl (fun K hK=>?_) AllReady.nil)
  ·go_simp
   refine hK _ _ ?_
   clear hK K
   go_simp
   refine r1 6 (fun K hK=>?_)
   go_simp
   refine hK _ _ ?_
   clear hK K
   go_simp
   refine r1 7 (fun K hK=>?_)
   rw[HW2.out]
   refine opAppNt _ _ rfl (g+1) (.slice o E.length cap) E rfl hC2.out.row (n,.slice on n.names.length cn,.slice ok n.keys.length ck,.slice od n.kids.length cd) W1.heap.size 1 rfl hnew.out hone.out (by omega) (by rw[Hs2.out];omega) ?_
   intro y5 w6 hrow6 hg6 hnw6
   have hC6:=hC2.out.push hn2.out hk2.out hd2.out hN.out hFar.out hFarN.out hrow6 hg6
   have hlow:∀k,(Value.slice o E.length cap).ownBlock=some k→g+1≤k:=fun k hk=>(World.ownsRow.lt hC2.out.row k hk).1
   have hT6:OwnK 0 tv TE w6:=World.ownsRow.kept hT2.out hg6 (own_apart9 hT2.out hC2.out.row (by decide))
   have hO6:w6.heap[g]?=some (.cells #[tv,.int .i64 (i:Int),.bool bad,.bool many,.slice o E.length cap] 106 (0,0)):=(hg6.block g (by rw[Hs2.out];omega) (fun e=>by have:=hlow _ e.symm;omega)).trans hb2.out
   have hb6:Ef g (Value.slice o E.length cap).ownBlock w w6:=Ef.ahead Hb2.out ⟨hg6.os,hg6.tape,hg6.output,hg6.size,fun k hk _ hr=>hg6.block k hk hr⟩
   have hN6:=mkHid (Nw.ahead (show w.heap.size≤W2.heap.size by rw[Hs2.out];omega) hnw6)
   have x6:=(five hO6).2.2.2.2
   have z6:w6.frozen? ⟨g,4,none⟩=false:=by simp[World.frozen?,hO6]
   obtain⟨o5,k5,hv5⟩:=hC6.shape
   rw[show(E ++ [(n,Value.slice on n.names.length cn,Value.slice ok n.keys.length ck,Value.slice od n.kids.length cd)]).length=E.length+1 from by simp] at hv5
   subst hv5
   refine hK _ _ ?_
   clear hK K
   go_simp
   refine ta 8 (.pointer (some ⟨g,0,none⟩)) ?_ ?_
   ·intro w
    go_simp
    all_goals omega
   go_simp
   refine ta 9 (.pointer (some ⟨g,4,none⟩)) ?_ ?_
   ·intro w
    go_simp
    all_goals omega
   go_simp
   refine r1 10 (fun K hK=>?_)
   go_simp
   refine hK _ _ ?_
   clear hK K
   go_simp
   refine wpAny_done (by kernel_rfl) ?_ _
   have hM7:Hid (Rs g tv TE i bad many (.slice o5 (E.length+1) k5) _ (w6.setCell ⟨g,4,none⟩ (.slice o5 (E.length+1) k5))):=⟨by simp[World.setCell,Array.getElem?_modify,hO6],World.ownsRow.kept hT6 (grG_set w6 g 4 _) (tk_far hO6 hT6),hC6.set (by omega)⟩
   have hE7:Hid (Ef g (Value.slice o E.length cap).ownBlock w (w6.setCell ⟨g,4,none⟩ (.slice o5 (E.length+1) k5))):=⟨hb6.os,hb6.tape,hb6.output,by simpa using hb6.size,fun k hk hg hr=>((grG_set w6 g 4 _).block k (Nat.lt_of_lt_of_le hk hb6.size) (by simpa using hg)).trans (hb6.keep k hk hg hr)⟩
   have x7:(w6.setCell ⟨g,4,none⟩ (.slice o5 (E.length+1) k5)).cell? ⟨g,4,none⟩=some (.slice o5 (E.length+1) k5):=by simp[World.setCell,World.cell?,Array.getElem?_modify,hO6]
   clear hrow6 hg6 hC6 hO6 x6 z6 hb6 hnw6
   go_wp2
   go_ret
   refine⟨?_,_,hM7.out,hE7.out,hN6.out⟩
   first|rfl|(simp;done)|(simp;omega)
  ·go_simp
   refine hK _ _ ?_
   clear hK K
   go_simp
   refine r1 4 (fun K hK=>?_)
   go_simp
   refine hK _ _ ?_
   clear hK K
   go_simp
   refine r1 7 (fun K hK=>?_)
   rw[HW2.out]
   refine opAppNt _ _ rfl (g+1) (.slice o E.length cap) E rfl hC2.out.row (n,.slice on n.names.length cn,.slice ok n.keys.length ck,.slice od n.kids.length cd) W1.heap.size 1 rfl hnew.out hone.out (by omega) (by rw[Hs2.out];omega) ?_
   intro y5 w6 hrow6 hg6 hnw6
   have hC6:=hC2.out.push hn2.out hk2.out hd2.out hN.out hFar.out hFarN.out hrow6 hg6
   have hlow:∀k,(Value.slice o E.length cap).ownBlock=some k→g+1≤k:=fun k hk=>(World.ownsRow.lt hC2.out.row k hk).1
   have hT6:OwnK 0 tv TE w6:=World.ownsRow.kept hT2.out hg6 (own_apart9 hT2.out hC2.out.row (by decide))
   have hO6:w6.heap[g]?=some (.cells #[tv,.int .i64 (i:Int),.bool bad,.bool many,.slice o E.length cap] 106 (0,0)):=(hg6.block g (by rw[Hs2.out];omega) (fun e=>by have:=hlow _ e.symm;omega)).trans hb2.out
   have hb6:Ef g (Value.slice o E.length cap).ownBlock w w6:=Ef.ahead Hb2.out ⟨hg6.os,hg6.tape,hg6.output,hg6.size,fun k hk _ hr=>hg6.block k hk hr⟩
   have hN6:=mkHid (Nw.ahead (show w.heap.size≤W2.heap.size by rw[Hs2.out];omega) hnw6)
   have x6:=(five hO6).2.2.2.2
   have z6:w6.frozen? ⟨g,4,none⟩=false:=by simp[World.frozen?,hO6]
   obtain⟨o5,k5,hv5⟩:=hC6.shape
   rw[show(E ++ [(n,Value.slice on n.names.length cn,Value.slice ok n.keys.length ck,Value.slice od n.kids.length cd)]).length=E.length+1 from by simp] at hv5
   subst hv5
   refine hK _ _ ?_
   clear hK K
   go_simp
   refine ta 8 (.pointer (some ⟨g,0,none⟩)) ?_ ?_
   ·intro w
    go_simp
    all_goals omega
   go_simp
   refine ta 9 (.pointer (some ⟨g,4,none⟩)) ?_ ?_
   ·intro w
    go_simp
    all_goals omega
   go_simp
   refine r1 10 (fun K hK=>?_)
   go_simp
   refine hK _ _ ?_
   clear hK K
   go_simp
   refine wpAny_done (by kernel_rfl) ?_ _
   have hM7:Hid (Rs g tv TE i bad many (.slice o5 (E.length+1) k5) _ (w6.setCell ⟨g,4,none⟩ (.slice o5 (E.length+1) k5))):=⟨by simp[World.setCell,Array.getElem?_modify,hO6],World.ownsRow.kept hT6 (grG_set w6 g 4 _) (tk_far hO6 hT6),hC6.set (by omega)⟩
   have hE7:Hid (Ef g (Value.slice o E.length cap).ownBlock w (w6.setCell ⟨g,4,none⟩ (.slice o5 (E.length+1) k5))):=⟨hb6.os,hb6.tape,hb6.output,by simpa using hb6.size,fun k hk hg hr=>((grG_set w6 g 4 _).block k (Nat.lt_of_lt_of_le hk hb6.size) (by simpa using hg)).trans (hb6.keep k hk hg hr)⟩
   have x7:(w6.setCell ⟨g,4,none⟩ (.slice o5 (E.length+1) k5)).cell? ⟨g,4,none⟩=some (.slice o5 (E.length+1) k5):=by simp[World.setCell,World.cell?,Array.getElem?_modify,hO6]
   clear hrow6 hg6 hC6 hO6 x6 z6 hb6 hnw6
   go_wp2
   go_ret
   refine⟨?_,_,hM7.out,hE7.out,hN6.out⟩
   first|rfl|(simp;done)|(simp;omega)
end Go.Proofs.YtkcajnjledldnaaGreatDoor
