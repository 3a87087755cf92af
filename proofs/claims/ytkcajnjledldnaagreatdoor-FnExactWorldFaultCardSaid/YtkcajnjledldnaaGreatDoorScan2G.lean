import Derived.Test.YtkcajnjledldnaaGreatDoorTk
import Derived.Test.YtkcajnjledldnaaGreatDoorRfToks
import Derived.Test.YtkcajnjledldnaaGreatDoorRfLex
import Derived.Test.YtkcajnjledldnaaGreatDoorSignTests
import Derived.Test.YtkcajnjledldnaaGreatDoorRfRead1
import Derived.Lib.QuietBelow
import Derived.Deep.QuietTactic
import Derived.BigQuiet
import Derived.Deep.RegionWith
import Derived.WalkSmall
set_option maxRecDepth 20000
set_option maxHeartbeats 16000000
namespace Go.Proofs.YtkcajnjledldnaaGreatDoor
open Go.RowKit Go.Lib Go.Maps
def Rf.fin (l:List UInt8)(T:List Rf.Tk):Rf.Out→Int × Nat × List Nd
 | .bad j=>(3,Rf.line l (Rf.pos T j),[])
 | .ok _ N=>if (N.any Rf.long || (decide (2000<N.length) || decide (20<Tr.depTo (Fn.kids N) N.length (N.length-1))))=true then (4,0,[]) else (0,0,N)
def Rf.ans (l:List UInt8):Int × Nat × List Nd:=Rf.fin l (Rf.tk l) (Rf.script (Rf.tk l))
theorem Rf.fin_bad {l:List UInt8} {T:List Rf.Tk} {j:Nat} {N:List Nd} (h:(N.any Rf.long || (decide (2000<N.length) || decide (20<Tr.depTo (Fn.kids N) N.length (N.length-1))))=true):Rf.fin l T (.ok j N)=(4,0,[]):=if_pos h
theorem Rf.fin_ok {l:List UInt8} {T:List Rf.Tk} {j:Nat} {N:List Nd} (h:(N.any Rf.long || (decide (2000<N.length) || decide (20<Tr.depTo (Fn.kids N) N.length (N.length-1))))=false):Rf.fin l T (.ok j N)=(0,0,N):=if_neg (Bool.eq_false_iff.1 h)
theorem tks_of (l:List UInt8)(hl:l.length≤10000):Tks l (Rf.tk l) ((Rf.tk l).map (Rf.en l)):=by
 obtain⟨h1,h2⟩:=Rf.tk_one l
 refine⟨rfl,by omega,?_,?_⟩
 ·intro e he hk
  obtain⟨t,ht,rfl⟩:=List.mem_map.1 he
  obtain⟨n1,n2,n3⟩:=h1.num t ht hk
  refine⟨by show 1≤(Rf.ba t.text).size;rw[Rf.ba_size];exact n1,by show(Rf.ba t.text).size≤9;rw[Rf.ba_size];exact n2,?_⟩
  show(Rf.ba t.text).toList.all Rf.digK=true
  rw[Rf.ba_list]
  exact n3
 ·intro i hi a b
  have e:Rf.kind (Rf.tk l) i=(Rf.tk l)[i].kind:=by unfold Rf.kind;rw[List.getElem?_eq_getElem hi];rfl
  rw[e] at a b
  exact h1.nxt i hi a b
theorem tks_small (l:List UInt8)(hl:l.length≤10000):Rf.Small (Rf.tk l):=fun t ht=>Nat.le_trans ((Rf.tk_one l).1.small t ht) hl
theorem Tks.line {l:List UInt8} {T:List Rf.Tk} {TE:List TkE} (h:Tks l T TE)(i:Nat)(hi:i<TE.length):TE[i].2.2=Rf.line l (Rf.pos T i):=by
 have h2:i<T.length:=by rw[← h.length];exact hi
 obtain rfl:=h.map
 simp[Rf.pos,Rf.en,List.getElem?_eq_getElem h2]
theorem Nt.lower {B B':Nat} {v:Value} {E:List NdE} {w:World} (h:Nt B v E w)(hB:B'≤B):Nt B' v E w:=
 ⟨own_base h.row hB,fun s hs=>⟨(h.own s hs).1,fun hn=>own_base ((h.own s hs).2 hn) hB⟩,h.sep,fun s hs=>⟨(h.ownN s hs).1,fun hn=>own_base ((h.ownN s hs).2 hn) hB⟩,h.sepN⟩
theorem good_fits {T:List Rf.Tk} {N:List Nd} (h:Rf.Good T N)(hT:T.length≤30000):(∀n ∈ N,n.fits 1048576)∧∀i,i<N.length→∀k ∈ Fn.kids N i,0≤k∧k<(i:Int):=by
 refine⟨fun n hn=>?_,fun i hi k hk=>?_⟩
 ·obtain⟨i,hi,rfl⟩:=List.getElem_of_mem hn
  have:=h i hi
  exact⟨Nat.le_trans this.text (by omega),Nat.le_trans this.nl (by omega),fun t ht=>Nat.le_trans (this.ns t ht) (by omega),Nat.le_trans this.yl (by omega),fun t ht=>Nat.le_trans (this.ys t ht) (by omega),Nat.le_trans this.kl (by omega)⟩
 ·unfold Fn.kids at hk
  rw[List.getElem?_eq_getElem hi] at hk
  exact(h i hi).kids k hk
theorem Nt.setRow {B R0:Nat} {v:Value} {E:List NdE} {w:World} (h:Nt B v E w)(hR:R0<B)(cs:Array Value):Nt B v E (w.setRow R0 cs):=by
 have key:∀(x:Value),(∀k,x.ownBlock=some k→B≤k)→x.ownBlock=none∨x.ownBlock≠some R0:=by
  intro x hx
  cases ho:x.ownBlock with
  | none=>exact .inl rfl
  | some k=>exact .inr (by have:=hx k ho;intro e;cases e;omega)
 refine h.grown (grown_setRow w R0 cs) (key _ fun k hk=>(World.ownsRow.lt h.row k hk).1) (fun s hs=>?_) (fun s hs=>?_)
 ·by_cases hn:s.2=[]
  ·exact .inl hn
  ·exact .inr (key _ fun k hk=>(World.ownsRow.lt ((h.own s hs).2 hn) k hk).1)
 ·by_cases hn:s.2=[]
  ·exact .inl hn
  ·exact .inr (key _ fun k hk=>(World.ownsRow.lt ((h.ownN s hs).2 hn) k hk).1)
def Rf.topEnd:Rf.KO→Rf.Out
 | .ok i N ks=>.ok i (N ++ [{ Rf.zn 1 with kids:=ks }])
 | .bad j=>.bad j
theorem Rf.script_eq (T:List Rf.Tk):Rf.script T=Rf.topEnd (Rf.all T (Rf.lv T T.length).2 T.length 0 [] []):=by
 unfold Rf.script
 cases Rf.all T (Rf.lv T T.length).2 T.length 0 [] []<;>rfl
def TopInv (g:Nat)(tv:Value)(T:List Rf.Tk)(TE:List TkE)(w:World)(B:Nat)(R:Rf.Out)(C:Nat→List Nd→Rf.Out)(wr:World):Prop:=
 ∃ (j:Nat) (bd mn:Bool) (v' vd:Value) (A:List NdE) (ks:List Int) (F:Nat),j<T.length∧T.length≤j+F∧ks.length≤j+1∧(bd=false→ks.length≤j)∧A.length≤3*j∧Hid (Fm g tv TE (.slice none 0 0) [] w B { Rf.zn 1 with kids:=ks } (.slice none 0 0) (.slice none 0 0) vd j bd mn v' A wr)∧Hid (bd=true→R=.bad j)∧Hid (bd=false→R=Rf.topEnd (Rf.all T C F j (A.map (·.1)) ks)∧mn=big A)
theorem specReadBig (s:ByteArray)(w:World)(hs:10000<s.size) :
  Calls Tryz.prog 19 #[.string s] w fun e w'=>e=.returned (.agg #[.int .i64 2,.int .i64 0,.slice none 0 0])∧Below w.heap.size w w':=by
 obtain⟨W1,hW1⟩:∃W1,w.alloc (.cells #[.int .i64 0,.int .i64 0,.slice none 0 0] 69)=W1:=⟨_,rfl⟩
 have hr1:W1.heap[w.heap.size]?=some (.cells #[.int .i64 0,.int .i64 0,.slice none 0 0] 69 (0,0)):=by rw[← hW1];exact heap_alloc_at _ _
 have hb1:Below w.heap.size w W1:=by rw[← hW1];exact(Below.refl _ _).alloc (Nat.le_refl _) _
 have HW1:=mkHid hW1
 have Hb1:=mkHid hb1
 clear hW1 hb1
 go_enter Tryz.func19,Tryz.ntmps19
 go_wp2_with (first|(rw[HW1.out];refine wpL_store_row rfl 69 _ _ rfl w.heap.size #[.int .i64 2,.int .i64 0,.slice none 0 0] rfl rfl 69 _ hr1 (by kernel_rfl) rfl (by simp[Value.oneCell']) ?_)|go_in)
 refine bodyPost_ret (v:=.agg #[.int .i64 2,.int .i64 0,.slice none 0 0]) (results_cell_row Tryz.results19 _ _ w.heap.size 69 _ (0,0) _ rfl (setRow_heap _ _ _ _ _ _ hr1) Tryz.underlying69 rfl (by kernel_rfl)) rfl ?_
 exact⟨rfl,Hb1.out.grown (grown_setRow _ _ _) Hb1.out.size (fun j hj=>by cases hj;exact Nat.le_refl _)⟩
theorem specReadF (s:ByteArray)(w:World)(hs:s.size≤10000) :
  Calls Tryz.prog 19 #[.string s] w fun e w'=>∃ v E,e=.returned (.agg #[.int .i64 (Rf.ans s.data.toList).1,.int .i64 ((Rf.ans s.data.toList).2.1:Int),v])∧Nt w.heap.size v E w'∧E.map (·.1)=(Rf.ans s.data.toList).2.2∧Below w.heap.size w w':=by
 obtain⟨l,hl⟩:∃l,s.data.toList=l:=⟨_,rfl⟩
 have hn:l.length=s.size:=by rw[← hl];simp
 obtain⟨T,hT⟩:∃T,Rf.tk l=T:=⟨_,rfl⟩
 obtain⟨Z,hZ⟩:∃Z,Rf.ans l=Z:=⟨_,rfl⟩
 obtain⟨R,hR⟩:∃R,Rf.script T=R:=⟨_,rfl⟩
 have hZR:Z=Rf.fin l T R:=by rw[← hZ,← hR,← hT];rfl
 rw[hl,hZ]
 have hsm:Rf.Small T:=by rw[← hT];exact tks_small l (by omega)
 have hT1:T.length≤10001:=by have:=(Rf.tk_one l).2;rw[hT] at this;omega
 have hT0:0<T.length:=by have:=(Rf.tk_one l).1.pos;rw[hT] at this;exact this
 have hK:Tks l T (T.map (Rf.en l)):=by rw[← hT];exact tks_of l (by omega)
 have hSz:∀e ∈ T.map (Rf.en l),e.2.1.size≤1048576:=by
  intro e he
  obtain⟨t,ht,rfl⟩:=List.mem_map.1 he
  show(Rf.ba t.text).size≤_
  rw[Rf.ba_size]
  exact Nat.le_trans (hsm t ht) (by omega)
 obtain⟨W1,hW1⟩:∃W1,w.alloc (.cells #[.int .i64 0,.int .i64 0,.slice none 0 0] 69)=W1:=⟨_,rfl⟩
 have hr1:W1.heap[w.heap.size]?=some (.cells #[.int .i64 0,.int .i64 0,.slice none 0 0] 69 (0,0)):=by rw[← hW1];exact heap_alloc_at _ _
 have hb1:Below w.heap.size w W1:=by rw[← hW1];exact(Below.refl _ _).alloc (Nat.le_refl _) _
 have hs1:w.heap.size<W1.heap.size:=by rw[← hW1];simp
 have kL:=mkHid (specLex s W1 hs)
 have HW1:=mkHid hW1
 have Hb1:=mkHid hb1
 have Hr1:=mkHid hr1
 have HZ:=mkHid hZR
 have HR:=mkHid hR
 have Hl:=mkHid hl
 have HT:=mkHid hT
 have Hsm:=mkHid hsm
 have HK:=mkHid hK
 have HSz:=mkHid hSz
 clear hW1 hb1 hr1 hZ hZR hR hl hT hsm hK hSz
 go_enter Tryz.func19,Tryz.ntmps19
 go_wp2_with (go_at_call 48;fail)
 rw[HW1.out]
 refine kL.out.mono ?_
 rintro e w2 ⟨tv,TE,rfl,hO,hE,hb2⟩
 have hTE:TE=T.map (Rf.en l):=by rw[hE.out,Hl.out,← hn,← HT.out];rfl
 rw[← hTE] at HK HSz
 have hll1:TE.length≤T.length:=by rw[HK.out.length];exact Nat.le_refl _
 have hll2:T.length≤TE.length:=by rw[HK.out.length];exact Nat.le_refl _
 clear hTE hE
 have hr2:=(hb2.block w.heap.size hs1).trans Hr1.out
 have hs2:=hb2.size
 have Hb2:=mkHid (Hb1.out.trans (hb2.mono (Nat.le_of_lt hs1)))
 have Hr2:=mkHid hr2
 obtain⟨o,cap,htv⟩:=hO.out.shape
 obtain⟨g,hg⟩:∃g,w2.heap.size=g:=⟨_,rfl⟩
 obtain⟨W3,hW3⟩:∃W3,w2.alloc (.cells #[tv,.int .i64 0,.bool false,.bool false,.slice none 0 0] 106)=W3:=⟨_,rfl⟩
 have b3:Below w2.heap.size w2 W3:=by rw[← hW3];exact(Below.refl _ _).alloc (Nat.le_refl _) _
 have s3:W3.heap.size=g+1:=by rw[← hW3,← hg];simp
 have R3:Rs g tv TE 0 false false (.slice none 0 0) [] W3:=⟨by rw[← hW3,← hg];exact heap_alloc_at _ _,own_base (hO.out.below b3) (Nat.zero_le _),Nt.nil _ _⟩
 have hown:∀k,tv.ownBlock=some k→w.heap.size<k:=fun k hk=>by have:=(World.ownsRow.lt hO.out k hk).1;omega
 replace hown:=mkHid hown
 have S0:=mkHid (Fm.start (by omega) R3 (Ef.refl2 _ _ _) 1)
 obtain⟨B,hB⟩:∃B,W3.heap.size=B:=⟨_,rfl⟩
 obtain⟨W4,hW4⟩:∃W4,W3.alloc (.cells #[.int .i64 1,.int .i64 0,.int .i64 0,.string ⟨#[]⟩,.slice none 0 0,.slice none 0 0,.slice none 0 0] 109)=W4:=⟨_,rfl⟩
 rw[hB,show W3.alloc (.cells (sevC (Rf.zn 1) (.slice none 0 0) (.slice none 0 0) (.slice none 0 0)) 109)=W4 from hW4] at S0
 have Hb3:=mkHid (Hb2.out.trans (b3.mono Hb2.out.size))
 have Hr3:=mkHid ((b3.block w.heap.size (by omega)).trans Hr2.out)
 have hgw:w.heap.size<g:=by omega
 have hBg:B=g+1:=by omega
 have hBg2:g<B:=by omega
 replace hBg:=mkHid hBg
 have hg3:g<W3.heap.size:=by omega
 replace s3:=mkHid s3
 have HLv:=mkHid (fun f=>(specLv g tv l T TE HK.out (by omega) HSz.out f).2)
 have HTop:Hid (TopInv g tv T TE W3 B R (Rf.lv T T.length).2 W4):=⟨0,false,false,_,_,[],[],T.length,hT0,by omega,by simp,by simp,by simp,S0,fun e=>(by cases e),fun _=>⟨by rw[← HR.out];exact Rf.script_eq T,rfl⟩⟩
 obtain⟨C,hC⟩:∃C,(Rf.lv T T.length).2=C:=⟨_,rfl⟩
 replace HLv:=mkHid (HLv.out T.length)
 rw[hC] at HTop HLv
 have HW3:=mkHid hW3
 have HW4:=mkHid hW4
 have Hg:=mkHid hg
 have HB:=mkHid hB
 have HC:=mkHid hC
 clear hW3 hW4 hg hB hO hb2 hr2 b3 R3 S0 kL hC
 subst htv
 go_wp2
 rw[HW3.out,HW4.out,Hg.out,← hBg.out]
 generalize Value.slice o TE.length cap=tv at *
 clear HW3 HW4 Hg HB
 go_loopw [] (fun wr=>TopInv g tv T TE W3 B R C wr) (fun wr=>blkM T g wr)
 case atStart=>exact HTop.out
 case round=>
  clear HTop
  obtain⟨j,bd,mn,v',vd,A,ks,F,hj,hF,hks,hks2,hcn,S,R1,R2⟩:=hrel
  have c1':=mkHid (five S.out.rs.blk).2.1
  have c2':=mkHid (five S.out.rs.blk).2.2.1
  obtain⟨F,rfl⟩:∃F',F=F'+1:=⟨F-1,by omega⟩
  have hr5:=mkHid ((S.out.ef.keep w.heap.size (by omega) (by omega) (by simp[Value.ownBlock])).trans Hr3.out)
  obtain⟨c0,c1,c2,c3,c4⟩:=five S.out.rs.blk
  obtain⟨o,cap,htv⟩:=S.out.rs.tks.shape
  have htk:=S.out.rs.tks
  rw[htv] at htk c0
  replace htv:=mkHid htv
  have hj4:j<TE.length:=by omega
  obtain⟨q,ho,-,-,e0,e1,e2⟩:=htk.at j hj4
  subst ho
  clear htk
  have hii:((j:Nat):Int)<(TE.length:Int):=by omega
  have hkd:=HK.out.kind j hj4
  have hln:=HK.out.line j hj4
  generalize TE[j].1=k1 at *
  generalize TE[j].2.1=t1 at *
  generalize TE[j].2.2=ln at *
  cases bd
  ·have hks2:=hks2 rfl
   obtain⟨hRb,hmn⟩:=R2.out rfl
   replace hRb:=mkHid hRb
   replace hmn:=mkHid hmn
   clear R1 R2
   by_cases hk:k1=101
   ·have hk1:((k1:Int) != 101)=false:=by rw[bne_eq_false_iff_eq,hk];rfl
    have hkr:Hid (Rf.kind T j=101):=show _=_ from by rw[← hkd];exact hk
    clear hk hkd
    go_wp2
    go_quiet (fail)
    have bN:Below wr.heap.size wr (wr.drewN nq):=Go.below_drewN (Below.refl _ _) nq
    obtain⟨V,hV⟩:∃V,wr.drewN nq=V:=⟨_,rfl⟩
    rw[hV] at bN
    have S1:=mkHid (S.out.small (S.out.rs.below bN) (Ef.of_below bN))
    have HV:=mkHid hV
    clear S bN hV c0 c1 c2 c3 c4 e0 e1 e2
    obtain⟨c0,c1,c2,c3,c4⟩:=five S1.out.rs.blk
    rw[htv.out] at c0
    obtain⟨oD,cD,eD⟩:=own_shape S1.out.od
    subst eD
    have hbk:=S1.out.blk
    have d0:V.cell? ⟨B,0,none⟩=some (.int .i64 1):=by simp[World.cell?,hbk];rfl
    have d1:V.cell? ⟨B,1,none⟩=some (.int .i64 0):=by simp[World.cell?,hbk];rfl
    have d2:V.cell? ⟨B,2,none⟩=some (.int .i64 0):=by simp[World.cell?,hbk];rfl
    have d3:V.cell? ⟨B,3,none⟩=some (.string ⟨#[]⟩):=by simp[World.cell?,hbk];rfl
    have d4:V.cell? ⟨B,4,none⟩=some (.slice none 0 0):=by simp[World.cell?,hbk]
    have d5:V.cell? ⟨B,5,none⟩=some (.slice none 0 0):=by simp[World.cell?,hbk]
    have d6:V.cell? ⟨B,6,none⟩=some (.slice oD ks.length cD):=by simp[World.cell?,hbk]
    clear hbk
    rw[← HV.out] at c0 c1 c2 c3 c4 d0 d1 d2 d3 d4 d5 d6
    have kP:=mkHid (S1.out.put (by simp;omega))
    clear S1
    go_wp2_with (go_at_call 50;fail)
    rw[HV.out]
    refine kP.out.mono ?_
    rintro e w9 ⟨rfl,v9,h9,e9,n9,f9,g9⟩
    clear d0 d1 d2 d3 d4 d5 d6 kP c0 c1 c2 c3 c4 HV
    rw[List.nil_append] at h9
    obtain⟨E9,hE9⟩:∃E9,A ++ [(({ Rf.zn 1 with kids:=ks }:Nd),(.slice none 0 0:Value),(.slice none 0 0:Value),Value.slice oD ks.length cD)]=E9:=⟨_,rfl⟩
    rw[hE9] at h9
    obtain⟨N,hN⟩:∃N,E9.map (·.1)=N:=⟨_,rfl⟩
    have hNl:N.length=E9.length:=by rw[← hN,List.length_map]
    have hRR:R=.ok j N:=by
     rw[hRb.out,Rf.all,if_pos (by rw[hkr.out];rfl),← hN,← hE9]
     simp[Rf.topEnd]
    have hbig:N.any Rf.long=mn:=by
     rw[hmn.out,← hN,← hE9]
     simp[big,Rf.long,List.any_map,List.any_append,Rf.zn]
     rfl
    obtain⟨hgood,hpos⟩:=Rf.script_ok Hsm.out (HR.out.trans hRR)
    have hz:Z=Rf.fin l T (.ok j N):=by rw[HZ.out,hRR]
    have hr9:=(e9.keep w.heap.size (by omega) (by omega) (by simp[Value.ownBlock])).trans Hr3.out
    have hb9:Below w.heap.size w w9:=⟨e9.os.trans Hb3.out.os,e9.tape.trans Hb3.out.tape,e9.output.trans Hb3.out.output,Nat.le_trans Hb3.out.size e9.size,fun k hk=>(e9.keep k (by omega) (by omega) (by simp[Value.ownBlock])).trans (Hb3.out.block k hk)⟩
    obtain⟨o9,c9,ev9⟩:=h9.nt.shape
    subst ev9
    obtain⟨c0,c1,c2,c3,c4⟩:=five h9.blk
    have hnt:=mkHid h9.nt
    have hl9:E9.length≤100000:=by rw[← hE9];simp;omega
    have Hz:=mkHid hz
    have Hb9:=mkHid hb9
    have HN:=mkHid hN
    clear hz hb9 hE9 hN hRR e9 n9 f9 g9 hmn hRb
    obtain⟨n9,hn9⟩:∃n9,E9.length=n9:=⟨_,rfl⟩
    rw[hn9] at c4 hnt hNl hl9
    have hds:=mkHid (by have:=h9.nt.nds;rw[HN.out] at this;exact this:Nds w9.heap.size w9 o9 N)
    clear h9 hn9
    have bad4:(N.any Rf.long || (decide (2000<N.length) || decide (20<Tr.depTo (Fn.kids N) N.length (N.length-1))))=true→∃v E,Ending.returned (.agg #[.int .i64 4,.int .i64 0,.slice none 0 0])=.returned (.agg #[.int .i64 Z.1,.int .i64 (Z.2.1:Int),v])∧Nt w.heap.size v E (w9.setRow w.heap.size #[.int .i64 4,.int .i64 0,.slice none 0 0])∧E.map (·.1)=Z.2.2:=by
     intro h
     have e:Z=(4,0,[]):=by rw[Hz.out];exact Rf.fin_bad h
     rw[e]
     exact⟨_,[],rfl,Nt.nil _ _,rfl⟩
    replace bad4:=mkHid bad4
    have Hbig:=mkHid hbig
    have HNl:=mkHid hNl
    clear hbig hNl
    cases mn
    ·by_cases h2:2000<n9
     ·have hx:=mkHid (bad4.out (by rw[HNl.out,decide_eq_true h2];simp))
      have dh:decide ((2000:Int)<(n9:Int))=true:=decide_eq_true (by omega)
      clear bad4
      go_wp2_with (first|(refine wpL_store_row rfl 69 _ _ rfl w.heap.size #[.int .i64 4,.int .i64 0,.slice none 0 0] rfl rfl 69 _ hr9 (by kernel_rfl) rfl (by simp[Value.oneCell']) ?_)|go_in)
      refine bodyPost_ret (v:=.agg #[.int .i64 4,.int .i64 0,.slice none 0 0]) (results_cell_row Tryz.results19 _ _ w.heap.size 69 _ (0,0) _ rfl (setRow_heap _ _ _ _ _ _ hr9) Tryz.underlying69 rfl (by kernel_rfl)) rfl ?_
      obtain⟨v,E,x1,x2,x3⟩:=hx.out
      exact⟨v,E,x1,x2,x3,Hb9.out.grown (grown_setRow _ _ _) Hb9.out.size (fun j hj=>by cases hj;exact Nat.le_refl _)⟩
     ·have dh:decide ((2000:Int)<(n9:Int))=false:=decide_eq_false (by omega)
      have hgf:=good_fits hgood (by omega)
      have kD:=mkHid (by have:=specDeep o9 N c9 w9 hds.out (by rw[HNl.out];omega) hpos hgf.1 hgf.2;rw[HNl.out] at this;exact this)
      obtain⟨dp,hdp⟩:∃dp,Tr.depTo (Fn.kids N) n9 (n9-1)=dp:=⟨_,rfl⟩
      rw[hdp] at kD
      rw[HNl.out,hdp] at bad4
      replace hdp:=mkHid hdp
      clear hgf
      go_wp2_with (go_at_call 51;fail)
      refine kD.out.mono ?_
      rintro e w10 ⟨rfl,hb10⟩
      have hs9:w.heap.size<w9.heap.size:=heap_ltM hr9
      have hg9:g<w9.heap.size:=World.block_lt_of_cell? _ _ c0
      have hr10:=(hb10.block w.heap.size hs9).trans hr9
      have Hb10:=mkHid (Hb9.out.trans (hb10.mono Hb9.out.size))
      have c4':=(hb10.cell (p:=⟨g,4,none⟩) hg9).trans c4
      have hnt10:=mkHid (hnt.out.below hb10)
      clear kD hb10 c0 c1 c2 c3 c4 hnt hr9
      by_cases h20:20<dp
      ·have dd:decide ((20:Int)<(dp:Int))=true:=decide_eq_true (by omega)
       have hZ4:Hid (Z=(4,0,[])):=by
        show _=_
        rw[Hz.out]
        exact Rf.fin_bad (by rw[HNl.out,hdp.out,decide_eq_true h20];simp)
       clear bad4
       go_wp2_with (first|(refine wpL_store_row rfl 69 _ _ rfl w.heap.size #[.int .i64 4,.int .i64 0,.slice none 0 0] rfl rfl 69 _ hr10 (by kernel_rfl) rfl (by simp[Value.oneCell']) ?_)|go_in)
       refine bodyPost_ret (v:=.agg #[.int .i64 4,.int .i64 0,.slice none 0 0]) (results_cell_row Tryz.results19 _ _ w.heap.size 69 _ (0,0) _ rfl (setRow_heap _ _ _ _ _ _ hr10) Tryz.underlying69 rfl (by kernel_rfl)) rfl ?_
       rw[hZ4.out]
       exact⟨_,[],rfl,Nt.nil _ _,rfl,Hb10.out.grown (grown_setRow _ _ _) Hb10.out.size (fun j hj=>by cases hj;exact Nat.le_refl _)⟩
      ·have dd:decide ((20:Int)<(dp:Int))=false:=decide_eq_false (by omega)
       have hZ0:Hid (Z=(0,0,N)):=by
        show _=_
        rw[Hz.out]
        exact Rf.fin_ok (by rw[Hbig.out,HNl.out,hdp.out,decide_eq_false h20,decide_eq_false h2];simp)
       clear bad4
       go_wp2_with (first|(refine wpL_store_row rfl 69 _ _ rfl w.heap.size #[.int .i64 0,.int .i64 0,.slice o9 n9 c9] rfl rfl 69 _ hr10 (by kernel_rfl) rfl (by simp[Value.oneCell']) ?_)|go_in)
       refine bodyPost_ret (v:=.agg #[.int .i64 0,.int .i64 0,.slice o9 n9 c9]) (results_cell_row Tryz.results19 _ _ w.heap.size 69 _ (0,0) _ rfl (setRow_heap _ _ _ _ _ _ hr10) Tryz.underlying69 rfl (by kernel_rfl)) rfl ?_
       rw[hZ0.out]
       refine⟨_,E9,rfl,?_,HN.out,Hb10.out.grown (grown_setRow _ _ _) Hb10.out.size (fun j hj=>by cases hj;exact Nat.le_refl _)⟩
       exact(hnt10.out.setRow (show w.heap.size<g+1 by omega) _).lower (show w.heap.size≤g+1 by omega)
    ·have hx:=mkHid (bad4.out (by rw[Hbig.out];rfl))
     clear bad4
     go_wp2_with (first|(refine wpL_store_row rfl 69 _ _ rfl w.heap.size #[.int .i64 4,.int .i64 0,.slice none 0 0] rfl rfl 69 _ hr9 (by kernel_rfl) rfl (by simp[Value.oneCell']) ?_)|go_in)
     refine bodyPost_ret (v:=.agg #[.int .i64 4,.int .i64 0,.slice none 0 0]) (results_cell_row Tryz.results19 _ _ w.heap.size 69 _ (0,0) _ rfl (setRow_heap _ _ _ _ _ _ hr9) Tryz.underlying69 rfl (by kernel_rfl)) rfl ?_
     obtain⟨v,E,x1,x2,x3⟩:=hx.out
     exact⟨v,E,x1,x2,x3,Hb9.out.grown (grown_setRow _ _ _) Hb9.out.size (fun j hj=>by cases hj;exact Nat.le_refl _)⟩
   ·have hk1:((k1:Int) != 101)=true:=by rw[bne_iff_ne];intro e;exact hk (by omega)
    have hkr:Hid (¬(Rf.kind T j==101)=true):=by show ¬_;rw[beq_iff_eq,← hkd];exact hk
    clear hk hkd
    go_wp2
    go_quiet (fail)
    have bN:Below wr.heap.size wr (wr.drewN nq):=Go.below_drewN (Below.refl _ _) nq
    obtain⟨V,hV⟩:∃V,wr.drewN nq=V:=⟨_,rfl⟩
    rw[hV] at bN
    have S1:=mkHid (S.out.small (S.out.rs.below bN) (Ef.of_below bN))
    have HV:=mkHid hV
    clear S bN hV c0 c1 c2 c3 c4 e0 e1 e2
    go_wp2
    rw[HV.out]
    clear HV
    obtain⟨RR,hRR⟩:∃RR:Act→Act→World→Prop,RR=(fun a a' w'=>∃ (z:Int) (A1:List NdE) (j':Nat) (bd' mn':Bool) (v1 vd':Value) (hh:Nat) (w3:World),a'=(((((((a.put (some 33) (.pointer (some ⟨B,6,none⟩))).put (some 34) vd).put (some 35) (.pointer (some ⟨g,0,none⟩))).put (some 36) (.int .i64 z)).put (some 37) (.slice (some ⟨hh,0,none⟩) 1 1)).put (some 38) vd').put (some 39) (.pointer (some ⟨B,6,none⟩)))∧Hid (Fm g tv TE (.slice none 0 0) ([]:List NdE) W3 B { Rf.zn 1 with kids:=ks ++ [z] } (.slice none 0 0) (.slice none 0 0) vd' j' bd' mn' v1 (A++A1) w')∧Hid (RdP g tv T TE 0 C j false mn v' (([]:List NdE)++A) V.drew z A1 j' bd' mn' v1 w3)):=⟨_,rfl⟩
    have HRR:=mkHid hRR
    clear hRR
    refine wp_cut RR ?_ ?_
    ·have SD:=mkHid (S1.out.small (S1.out.rs.below (below_drew (Below.refl _ _))) (Ef.of_below (below_drew (Below.refl _ _))))
     have kC:=mkHid (HLv.out j false mn v' (([]:List NdE)++A) V.drew SD.out.rs hj (by omega) (by simp;omega))
     obtain⟨oD,cD,eD⟩:=own_shape S1.out.od
     subst eD
     have y0:V.cell? ⟨B,6,none⟩=some (.slice oD ks.length cD):=by simp[World.cell?,S1.out.blk]
     refine wp_region_any (by kernel_rfl) ?_
     refine ta 0 (.pointer (some ⟨B,6,none⟩)) (hQ:=fun _ _ _ h=>nomatch h.1) ?_ ?_
     ·intro W3
      go_simp
      all_goals omega
     go_simp
     refine ta 2 (.pointer (some ⟨g,0,none⟩)) (hQ:=fun _ _ _ h=>nomatch h.1) ?_ ?_
     ·intro W3
      go_simp
      all_goals omega
     go_simp
     refine wpAny_ready (rs:=[1,3]) (by kernel_rfl) (by simp) ?_
     refine AllReady.cons rfl (fun K hK=>?_) (AllReady.cons rfl (fun K hK=>?_) AllReady.nil)
     ·skip
      go_simp
      refine hK _ _ ?_
      clear hK K
      go_simp
      refine r1 3 (fun K hK=>?_)
      go_simp
      refine kC.out.mono ?_
      rintro e w3 ⟨z,A1,j',bd',mn',v1,rfl,hp⟩
      have S3:=mkHid (SD.out.call hp)
      have HP:=mkHid hp
      clear hp
      have y3:w3.cell? ⟨B,6,none⟩=some (.slice oD ks.length cD):=by simp[World.cell?,S3.out.blk]
      have y4:(w3.alloc (.cells #[.int .i64 z] 2)).cell? ⟨B,6,none⟩=some (.slice oD ks.length cD):=(World.cell?_of_block (((Below.refl w3.heap.size w3).alloc (Nat.le_refl _) _).block B (heap_ltM S3.out.blk))).trans y3
      go_simp
      refine hK _ _ ?_
      clear hK K
      go_simp
      refine r1 4 (fun K hK=>?_)
      go_simp
      refine hK _ _ ?_
      clear hK K
      go_simp
      refine r1 5 (fun K hK=>?_)
      refine opAppKd _ _ rfl W3.heap.size (.slice oD ks.length cD) ks rfl (S3.out.od.below ((Below.refl _ _).alloc (Nat.le_refl _) _)) z w3.heap.size 1 rfl (by simp) (by omega) (by have:=S3.out.ef.size;simp;omega) ?_
      intro vd' w4 ho4 hg4 hn4
      obtain⟨x6,z6,s5⟩:=S3.out.kid ho4 hg4 hn4
      obtain⟨o5,c5,e5⟩:=own_shape ho4
      rw[List.length_append,List.length_singleton] at e5
      subst e5
      have S5:=mkHid s5
      clear s5 ho4 hg4 hn4
      refine hK _ _ ?_
      clear hK K
      go_simp
      refine ta 6 (.pointer (some ⟨B,6,none⟩)) (hQ:=fun _ _ _ h=>nomatch h.1) ?_ ?_
      ·intro W3
       go_simp
       all_goals omega
      go_simp
      refine r1 7 (fun K hK=>?_)
      go_simp
      refine hK _ _ ?_
      clear hK K
      go_simp
      refine wpAny_done (by kernel_rfl) ?_ _
      first|refine⟨rfl,?_⟩|skip
      rw[HRR.out]
      exact⟨z,A1,j',bd',mn',v1,.slice o5 (ks.length+1) c5,w3.heap.size,w3,by kernel_rfl,S5,HP⟩
     ·skip
      go_simp
      refine kC.out.mono ?_
      rintro e w3 ⟨z,A1,j',bd',mn',v1,rfl,hp⟩
      have S3:=mkHid (SD.out.call hp)
      have HP:=mkHid hp
      clear hp
      have y3:w3.cell? ⟨B,6,none⟩=some (.slice oD ks.length cD):=by simp[World.cell?,S3.out.blk]
      have y4:(w3.alloc (.cells #[.int .i64 z] 2)).cell? ⟨B,6,none⟩=some (.slice oD ks.length cD):=(World.cell?_of_block (((Below.refl w3.heap.size w3).alloc (Nat.le_refl _) _).block B (heap_ltM S3.out.blk))).trans y3
      go_simp
      refine hK _ _ ?_
      clear hK K
      go_simp
      refine wpAny_ready (rs:=[1,4]) (by kernel_rfl) (by simp) ?_
      refine AllReady.cons rfl (fun K hK=>?_) (AllReady.cons rfl (fun K hK=>?_) AllReady.nil)
      ·skip
       go_simp
       refine hK _ _ ?_
       clear hK K
       go_simp
       refine r1 4 (fun K hK=>?_)
       go_simp
       refine hK _ _ ?_
       clear hK K
       go_simp
       refine r1 5 (fun K hK=>?_)
       refine opAppKd _ _ rfl W3.heap.size (.slice oD ks.length cD) ks rfl (S3.out.od.below ((Below.refl _ _).alloc (Nat.le_refl _) _)) z w3.heap.size 1 rfl (by simp) (by omega) (by have:=S3.out.ef.size;simp;omega) ?_
       intro vd' w4 ho4 hg4 hn4
       obtain⟨x6,z6,s5⟩:=S3.out.kid ho4 hg4 hn4
       obtain⟨o5,c5,e5⟩:=own_shape ho4
       rw[List.length_append,List.length_singleton] at e5
       subst e5
       have S5:=mkHid s5
       clear s5 ho4 hg4 hn4
       refine hK _ _ ?_
       clear hK K
       go_simp
       refine ta 6 (.pointer (some ⟨B,6,none⟩)) (hQ:=fun _ _ _ h=>nomatch h.1) ?_ ?_
       ·intro W3
        go_simp
        all_goals omega
       go_simp
       refine r1 7 (fun K hK=>?_)
       go_simp
       refine hK _ _ ?_
       clear hK K
       go_simp
       refine wpAny_done (by kernel_rfl) ?_ _
       first|refine⟨rfl,?_⟩|skip
       rw[HRR.out]
       exact⟨z,A1,j',bd',mn',v1,.slice o5 (ks.length+1) c5,w3.heap.size,w3,by kernel_rfl,S5,HP⟩
      ·skip
       go_simp
       refine hK _ _ ?_
       clear hK K
       go_simp
       refine r1 1 (fun K hK=>?_)
       go_simp
       refine hK _ _ ?_
       clear hK K
       go_simp
       refine r1 5 (fun K hK=>?_)
       refine opAppKd _ _ rfl W3.heap.size (.slice oD ks.length cD) ks rfl (S3.out.od.below ((Below.refl _ _).alloc (Nat.le_refl _) _)) z w3.heap.size 1 rfl (by simp) (by omega) (by have:=S3.out.ef.size;simp;omega) ?_
       intro vd' w4 ho4 hg4 hn4
       obtain⟨x6,z6,s5⟩:=S3.out.kid ho4 hg4 hn4
       obtain⟨o5,c5,e5⟩:=own_shape ho4
       rw[List.length_append,List.length_singleton] at e5
       subst e5
       have S5:=mkHid s5
       clear s5 ho4 hg4 hn4
       refine hK _ _ ?_
       clear hK K
       go_simp
       refine ta 6 (.pointer (some ⟨B,6,none⟩)) (hQ:=fun _ _ _ h=>nomatch h.1) ?_ ?_
       ·intro W3
        go_simp
        all_goals omega
       go_simp
       refine r1 7 (fun K hK=>?_)
       go_simp
       refine hK _ _ ?_
       clear hK K
       go_simp
       refine wpAny_done (by kernel_rfl) ?_ _
       first|refine⟨rfl,?_⟩|skip
       rw[HRR.out]
       exact⟨z,A1,j',bd',mn',v1,.slice o5 (ks.length+1) c5,w3.heap.size,w3,by kernel_rfl,S5,HP⟩
    rw[HRR.out]
    clear HRR RR
    rintro a' w5 ⟨z,A1,j',bd',mn',v1,vd',hh,w3,rfl,S5,HP⟩
    obtain⟨q1,q2⟩:=HP.out.given
    rw[List.nil_append] at q1 q2
    have hlt:=HP.out.lt
    have hle:=HP.out.le
    have hadv:=HP.out.adv
    have hcnt:=HP.out.cnt
    have c3:=mkHid (five S5.out.rs.blk).2.1
    have c4:=mkHid (five S5.out.rs.blk).2.2.1
    clear HP S1
    have HI:Hid (TopInv g tv T TE W3 B R C w5):=by
     cases bd'
     ·have hadv:=hadv rfl
      obtain⟨p1,p2,p3⟩:=q2 rfl
      refine⟨j',false,mn',v1,vd',A++A1,ks ++ [z],F,hlt,by omega,by simp;omega,fun _=>by simp;omega,by simp;omega,S5,fun e=>(by cases e),fun _=>⟨?_,?_⟩⟩
      ·rw[hRb.out,Rf.all,if_neg hkr.out,p1,p2]
      ·rw[p3,hmn.out,big_app]
     ·refine⟨j',true,mn',v1,vd',A++A1,ks ++ [z],F+1,hlt,by omega,by simp;omega,fun e=>(by cases e),by simp;omega,S5,fun _=>?_,fun e=>(by cases e)⟩
      rw[hRb.out,Rf.all,if_neg hkr.out,q1 rfl]
      rfl
    have HM:Hid (blkM T g w5<blkM T g wr):=by
     show _<_
     unfold blkM
     rw[c1'.out,c2'.out,c3.out,c4.out]
     cases bd'
     ·have hadv:=hadv rfl
      simp[Lib.intOf]
      omega
     ·simp[Lib.intOf]
      omega
    clear S5 q1 q2 hadv
    go_wp2
    go_simp
    go_roundw
    case rel=>
     exact HI.out
    case measure=>exact HM.out
  ·clear R2
   go_wp2
   go_quiet (fail)
   have bN:Below wr.heap.size wr (wr.drewN nq):=Go.below_drewN (Below.refl _ _) nq
   obtain⟨V,hV⟩:∃V,wr.drewN nq=V:=⟨_,rfl⟩
   rw[hV] at bN
   have S1:=mkHid (S.out.small (S.out.rs.below bN) (Ef.of_below bN))
   have HV:=mkHid hV
   clear bN hV c0 c1 c2 c3 c4 e0 e1 e2
   obtain⟨c0,c1,c2,c3,c4⟩:=five S1.out.rs.blk
   have htk:=S1.out.rs.tks
   rw[htv.out] at htk c0
   obtain⟨q',ho,-,-,e0,e1,e2⟩:=htk.at j hj4
   obtain rfl:q=q':=by simpa using ho
   rw[show TE[j].2.2=Rf.line l (Rf.pos T j) from HK.out.line j hj4] at e2
   have hqw:q≠w.heap.size:=by have:=hown.out q (by rw[htv.out];rfl);omega
   clear htk ho e0 e1
   rw[← HV.out] at c0 c1 c2 c3 c4 e2
   go_wp2
   rw[HV.out]
   rw[HV.out] at c0 c1 c2 c3 c4 e2
   have hr9:=(S1.out.ef.keep w.heap.size (by omega) (by omega) (by simp[Value.ownBlock])).trans Hr3.out
   have hb9:Below w.heap.size w V:=⟨S1.out.ef.os.trans Hb3.out.os,S1.out.ef.tape.trans Hb3.out.tape,S1.out.ef.output.trans Hb3.out.output,Nat.le_trans Hb3.out.size S1.out.ef.size,fun k hk=>(S1.out.ef.keep k (by omega) (by omega) (by simp[Value.ownBlock])).trans (Hb3.out.block k hk)⟩
   obtain⟨ll,hll⟩:∃ll,Rf.line l (Rf.pos T j)=ll:=⟨_,rfl⟩
   rw[hll] at e2
   have hz:Hid (Z=(3,ll,[])):=by show _=_;rw[HZ.out,R1.out trivial,← hll];rfl
   have Hb9:=mkHid hb9
   clear S1 S HV hb9 hll R1
   have hS:V.cell? ⟨g,0,none⟩=some (.slice (some ⟨q,0,none⟩) TE.length cap)∧V.cell? ⟨g,1,none⟩=some (.int .i64 (j:Int))∧V.cell? ⟨q,j*3+2,none⟩=some (.int .i64 (ll:Int)):=⟨c0,c1,e2⟩
   refine wp_region_held (S:=fun w=>w.cell? ⟨g,0,none⟩=some (.slice (some ⟨q,0,none⟩) TE.length cap)∧w.cell? ⟨g,1,none⟩=some (.int .i64 (j:Int))∧w.cell? ⟨q,j*3+2,none⟩=some (.int .i64 (ll:Int))) (by kernel_rfl) ?_
   refine tk 0 (.pointer (some ⟨g,0,none⟩)) hS ?_ ?_
   ·rintro w ⟨s1,s2,s3⟩
    go_simp
    all_goals omega
   go_simp
   refine tk 1 (.pointer (some ⟨g,0,none⟩)) hS ?_ ?_
   ·rintro w ⟨s1,s2,s3⟩
    go_simp
    all_goals omega
   go_simp
   refine tk 2 (.pointer (some ⟨g,0,none⟩)) hS ?_ ?_
   ·rintro w ⟨s1,s2,s3⟩
    go_simp
    all_goals omega
   go_simp
   refine tk 3 (.slice (some ⟨q,0,none⟩) TE.length cap) hS ?_ ?_
   ·rintro w ⟨s1,s2,s3⟩
    go_simp
    all_goals omega
   go_simp
   refine tk 4 (.pointer (some ⟨g,0,none⟩)) hS ?_ ?_
   ·rintro w ⟨s1,s2,s3⟩
    go_simp
    all_goals omega
   go_simp
   refine tk 5 (.pointer (some ⟨g,0,none⟩)) hS ?_ ?_
   ·rintro w ⟨s1,s2,s3⟩
    go_simp
    all_goals omega
   go_simp
   refine tk 6 (.pointer (some ⟨g,1,none⟩)) hS ?_ ?_
   ·rintro w ⟨s1,s2,s3⟩
    go_simp
    all_goals omega
   go_simp
   refine tk 7 (.int .i64 (j:Int)) hS ?_ ?_
   ·rintro w ⟨s1,s2,s3⟩
    go_simp
    all_goals omega
   go_simp
   refine tk 8 (.pointer (some ⟨q,j*3,none⟩)) hS ?_ ?_
   ·rintro w ⟨s1,s2,s3⟩
    go_simp
    all_goals omega
   go_simp
   refine tk 9 (.pointer (some ⟨q,j*3+2,none⟩)) hS ?_ ?_
   ·rintro w ⟨s1,s2,s3⟩
    go_simp
    all_goals omega
   go_simp
   refine tk 10 (.int .i64 (ll:Int)) hS ?_ ?_
   ·rintro w ⟨s1,s2,s3⟩
    go_simp
    all_goals omega
   go_simp
   refine tk 11 (.agg #[.int .i64 3,.int .i64 (ll:Int),.slice none 0 0]) hS ?_ ?_
   ·rintro w ⟨s1,s2,s3⟩
    go_simp
    all_goals omega
   go_simp
   refine wpAnyH_all (rs:=[12]) (by kernel_rfl) (by simp) ?_
   intro k hk
   simp only[List.mem_cons,List.not_mem_nil,or_false] at hk
   subst hk
   refine wpOp_step rfl (fun K hK=>?_)
   refine wp_store_row 69 _ _ rfl w.heap.size #[.int .i64 3,.int .i64 (ll:Int),.slice none 0 0] rfl rfl 69 _ hr9 (by kernel_rfl) rfl (by simp[Value.oneCell']) ?_
   refine hK _ _ ⟨?_,?_⟩
   ·have kp:∀(b n:Nat) (x:Value),b≠w.heap.size→V.cell? ⟨b,n,none⟩=some x→(V.setRow w.heap.size #[.int .i64 3,.int .i64 (ll:Int),.slice none 0 0]).cell? ⟨b,n,none⟩=some x:=fun b n x hb hx=>(World.cell?_of_block (a:=⟨b,n,none⟩) ((grown_setRow V w.heap.size _).block b (World.block_lt_of_cell? _ _ hx) (by simpa using hb))).trans hx
    exact⟨kp g 0 _ (by omega) c0,kp g 1 _ (by omega) c1,kp q _ _ hqw e2⟩
   clear hK K
   go_simp
   refine wpAnyH_done (by kernel_rfl) ?_ _
   go_wp2
   refine bodyPost_ret (v:=.agg #[.int .i64 3,.int .i64 (ll:Int),.slice none 0 0]) (results_cell_row Tryz.results19 _ _ w.heap.size 69 _ (0,0) _ rfl (setRow_heap _ _ _ _ _ _ hr9) Tryz.underlying69 rfl (by kernel_rfl)) rfl ?_
   rw[hz.out]
   exact⟨_,[],rfl,Nt.nil _ _,rfl,(below_drew Hb9.out).grown (grown_setRow _ _ _) Hb9.out.size (fun j hj=>by cases hj;exact Nat.le_refl _)⟩
namespace Rf
def ptk (l:List UInt8)(p:Nat):Option (Nat × List UInt8 × Nat):=
 if Pl.b l p==34 then
  match qd (l.drop (p+1)) with
  | some (t,k)=>if t.length≤1000 then some (3,t,p+1+k) else none
  | none=>none
 else if digK (Pl.b l p) then (if Pl.stop digK l p-p≤9 then some (2,cut l p (Pl.stop digK l p),Pl.stop digK l p) else none)
 else if lowK (Pl.b l p) then some (1,cut l p (Pl.stop lowK l p),Pl.stop lowK l p)
 else if Pl.b l p==58 then some (1,cut l p (Pl.stop lowK l (p+1)),Pl.stop lowK l (p+1))
 else some (1,[Pl.b l p],p+1)
def cls:List UInt8→Nat
 | []=>120
 | c::r=>if lowK c then 119 else if c==58 then (if r.isEmpty then 120 else 58) else if isSign c then 112 else 120
theorem cut_cons (l:List UInt8)(p q:Nat)(h:p<q)(hq:q≤l.length):cut l p q=Pl.b l p::cut l (p+1) q:=by
 have hp:p<l.length:=by omega
 unfold cut
 rw[Pl.b_lt l p hp,List.drop_eq_getElem_cons (by rw[List.length_take];omega)]
 simp
theorem byte_ne {c d:UInt8} {K:UInt8→Bool} (h:K c=true)(hd:K d=false):(c==d)=false:=by
 rw[beq_eq_false_iff_ne]
 rintro rfl
 rw[h] at hd
 cases hd
theorem low_not {c:UInt8} (h:lowK c=true):(c==34)=false∧digK c=false∧(c==58)=false∧isSign c=false:=by
 refine⟨byte_ne h (by decide),?_,byte_ne h (by decide),?_⟩
 ·unfold lowK at h
  unfold digK
  simp only[Bool.and_eq_true,decide_eq_true_eq,Bool.and_eq_false_iff,decide_eq_false_iff_not] at h ⊢
  omega
 ·unfold isSign
  rw[byte_ne h (d:=123) (by decide),byte_ne h (d:=125) (by decide),byte_ne h (d:=40) (by decide),byte_ne h (d:=41) (by decide),byte_ne h (d:=91) (by decide),byte_ne h (d:=93) (by decide),byte_ne h (d:=44) (by decide),byte_ne h (d:=59) (by decide)]
  rfl
theorem dig_not {c:UInt8} (h:digK c=true):(c==34)=false∧lowK c=false∧(c==58)=false∧isSign c=false:=by
 refine⟨byte_ne h (by decide),?_,byte_ne h (by decide),?_⟩
 ·unfold digK at h
  unfold lowK
  simp only[Bool.and_eq_true,decide_eq_true_eq,Bool.and_eq_false_iff,decide_eq_false_iff_not] at h ⊢
  omega
 ·unfold isSign
  rw[byte_ne h (d:=123) (by decide),byte_ne h (d:=125) (by decide),byte_ne h (d:=40) (by decide),byte_ne h (d:=41) (by decide),byte_ne h (d:=91) (by decide),byte_ne h (d:=93) (by decide),byte_ne h (d:=44) (by decide),byte_ne h (d:=59) (by decide)]
  rfl
theorem stop_over (K:UInt8→Bool)(l:List UInt8)(p:Nat)(h:p<l.length)(hK:K (Pl.b l p)=true):p<Pl.stop K l p:=by
 have h1:=Pl.stop_ge K l p (by omega)
 rcases Nat.lt_or_ge p (Pl.stop K l p) with h3|h3
 ·exact h3
 ·have e:Pl.stop K l p=p:=by omega
  have:=Pl.stop_not K l p (by omega) (by omega)
  rw[e,hK] at this
  cases this
theorem ptk_none (l:List UInt8)(p:Nat)(h:ptk l p=none):(tok l p).1=120:=by
 unfold ptk at h
 unfold tok
 dsimp only
 split at h
 ·rename_i h34
  have e:Pl.b l p=34:=by simpa using h34
  rw[e]
  rw[if_neg (by decide),if_neg (by decide),if_neg (by decide),if_pos (by decide)]
  cases hq:qd (l.drop (p+1)) with
  | none=>rfl
  | some x=>
   obtain⟨t,k⟩:=x
   rw[hq] at h
   dsimp only at h ⊢
   split at h
   ·cases h
   ·rename_i hn
    rw[if_neg hn]
 ·split at h
  ·rename_i hd
   obtain⟨-,d2,d3,-⟩:=dig_not hd
   rw[if_neg (by rw[d2];decide),if_neg (by rw[d3];decide),if_pos hd]
   split at h
   ·cases h
   ·rename_i hn
    rw[if_neg hn]
  ·split at h
   ·cases h
   ·split at h<;>cases h
theorem ptk_some (l:List UInt8)(p kd:Nat)(x:List UInt8)(a:Nat)(hp:p<l.length)(h:ptk l p=some (kd,x,a)):a≤l.length∧x.length≤l.length∧((kd=1∧(tok l p).1=cls x∧(cls x≠120→tok l p=(cls x,x,a)))∨(kd=2∧tok l p=(110,x,a))∨(kd=3∧tok l p=(116,x,a))):=by
 unfold ptk at h
 split at h
 ·rename_i h34
  have e:Pl.b l p=34:=by simpa using h34
  cases hq:qd (l.drop (p+1)) with
  | none=>rw[hq] at h;cases h
  | some y=>
   obtain⟨t,k⟩:=y
   rw[hq] at h
   dsimp only at h
   split at h
   ·rename_i ht
    cases h
    have:=qd_pos _ _ _ hq
    rw[List.length_drop] at this
    refine⟨by omega,by omega,.inr (.inr ⟨rfl,?_⟩)⟩
    unfold tok
    dsimp only
    rw[e,if_neg (by decide),if_neg (by decide),if_neg (by decide),if_pos (by decide),hq]
    dsimp only
    rw[if_pos ht]
   ·cases h
 ·rename_i h34
  split at h
  ·rename_i hd
   obtain⟨-,d2,d3,-⟩:=dig_not hd
   split at h
   ·rename_i h9
    cases h
    have h2:=Pl.stop_le digK l p (by omega)
    refine⟨h2,cut_len _ _ _,.inr (.inl ⟨rfl,?_⟩)⟩
    unfold tok
    dsimp only
    rw[if_neg (by rw[d2];decide),if_neg (by rw[d3];decide),if_pos hd,if_pos h9]
   ·cases h
  ·rename_i hd
   split at h
   ·rename_i hl
    cases h
    have h1:=stop_over lowK l p hp hl
    have h2:=Pl.stop_le lowK l p (by omega)
    have hc:cls (cut l p (Pl.stop lowK l p))=119:=by rw[cut_cons l p _ h1 h2,cls,if_pos hl]
    have ht:tok l p=(119,cut l p (Pl.stop lowK l p),Pl.stop lowK l p):=by unfold tok;dsimp only;rw[if_pos hl]
    exact⟨h2,cut_len _ _ _,.inl ⟨rfl,by rw[ht,hc],fun _=>by rw[hc,ht]⟩⟩
   ·rename_i hl
    split at h
    ·rename_i h58
     have e:Pl.b l p=58:=by simpa using h58
     cases h
     have h1:=Pl.stop_ge lowK l (p+1) (by omega)
     have h2:=Pl.stop_le lowK l (p+1) (by omega)
     have hcc:=cut_cons l p (Pl.stop lowK l (p+1)) (by omega) h2
     by_cases hq:p+1<Pl.stop lowK l (p+1)
     ·have ht:tok l p=(58,cut l p (Pl.stop lowK l (p+1)),Pl.stop lowK l (p+1)):=by unfold tok;dsimp only;rw[e,if_neg (by decide),if_pos (by decide),if_pos hq]
      have hne:(cut l (p+1) (Pl.stop lowK l (p+1))).isEmpty=false:=by
       rw[cut_cons l (p+1) _ hq h2]
       rfl
      have hc:cls (cut l p (Pl.stop lowK l (p+1)))=58:=by rw[hcc,cls,e,if_neg (by decide),if_pos (by decide),hne];rfl
      exact⟨h2,cut_len _ _ _,.inl ⟨rfl,by rw[ht,hc],fun _=>by rw[hc,ht]⟩⟩
     ·have ht:(tok l p).1=120:=by unfold tok;dsimp only;rw[e,if_neg (by decide),if_pos (by decide),if_neg hq]
      have hce:cut l (p+1) (Pl.stop lowK l (p+1))=[]:=by
       have:=cut_exact l (p+1) (Pl.stop lowK l (p+1)) h2
       exact List.eq_nil_of_length_eq_zero (by omega)
      have hc:cls (cut l p (Pl.stop lowK l (p+1)))=120:=by rw[hcc,cls,e,hce];rfl
      exact⟨h2,cut_len _ _ _,.inl ⟨rfl,by rw[ht,hc],fun hn=>absurd hc hn⟩⟩
    ·rename_i h58
     cases h
     refine⟨by omega,by simp;omega,.inl ⟨rfl,?_,?_⟩⟩
     ·unfold tok
      dsimp only
      rw[if_neg hl,if_neg h58,if_neg hd,if_neg h34]
      show _=if lowK (Pl.b l p)=true then 119 else if (Pl.b l p==58)=true then _ else if isSign (Pl.b l p)=true then 112 else 120
      rw[if_neg hl,if_neg h58]
      split<;>rfl
     ·intro hn
      have hc:cls [Pl.b l p]=if isSign (Pl.b l p)=true then 112 else 120:=by
       show(if lowK (Pl.b l p)=true then 119 else if (Pl.b l p==58)=true then _ else if isSign (Pl.b l p)=true then 112 else 120)=_
       rw[if_neg hl,if_neg h58]
      rw[hc] at hn ⊢
      unfold tok
      dsimp only
      rw[if_neg hl,if_neg h58,if_neg hd,if_neg h34]
      split
      ·rfl
      ·rename_i hs
       rw[if_neg hs] at hn
       exact absurd rfl hn
structure Cur (l:List UInt8)(T:List Tk)(n kd:Nat)(x:List UInt8)(a:Nat):Prop where
 lt:n<T.length
 le:a≤l.length
 kinds:(kd=0∧kind T n=101∧x=[])∨(kd=1∧kind T n=cls x∧(cls x≠120→text T n=x))∨(kd=2∧kind T n=110∧text T n=x)∨(kd=3∧kind T n=116∧text T n=x)
 rest:kind T n≠101→kind T n≠120→∃f,l.length-a<f∧T.drop (n+1)=toks l f a
 small:x.length≤l.length
theorem head_of {T:List Tk} {m:Nat} {t:Tk} {r:List Tk} (h:T.drop m=t::r):m<T.length∧kind T m=t.kind∧text T m=t.text∧pos T m=t.pos∧T.drop (m+1)=r:=by
 have hl:m<T.length:=by
  rcases Nat.lt_or_ge m T.length with h1|h1
  ·exact h1
  ·rw[List.drop_eq_nil_of_le h1] at h;cases h
 rw[List.drop_eq_getElem_cons hl] at h
 simp only[List.cons.injEq] at h
 refine⟨hl,?_,?_,?_,h.2⟩
 ·unfold kind;rw[List.getElem?_eq_getElem hl,← h.1];rfl
 ·unfold text;rw[List.getElem?_eq_getElem hl,← h.1];rfl
 ·unfold pos;rw[List.getElem?_eq_getElem hl,← h.1];rfl
theorem cur_end {l:List UInt8} {T:List Tk} {m f q:Nat} (hf:l.length-q<f)(hT:T.drop m=toks l f q)(hg:¬gap l q<l.length)(hg2:gap l q≤l.length):Cur l T m 0 [] (gap l q)∧pos T m=gap l q:=by
 obtain⟨f,rfl⟩:∃f',f=f'+1:=⟨f-1,by omega⟩
 rw[toks,if_neg hg] at hT
 obtain⟨h1,h2,-,h4,-⟩:=head_of hT
 exact⟨⟨h1,hg2,.inl ⟨rfl,h2,rfl⟩,fun h=>absurd h2 h,Nat.zero_le _⟩,by rw[h4];show l.length=_;omega⟩
theorem cur_none {l:List UInt8} {T:List Tk} {m f q:Nat} (hf:l.length-q<f)(hT:T.drop m=toks l f q)(hg:gap l q<l.length)(hp:ptk l (gap l q)=none):m<T.length∧kind T m=120∧pos T m=gap l q:=by
 obtain⟨f,rfl⟩:∃f',f=f'+1:=⟨f-1,by omega⟩
 rw[toks,if_pos hg,if_pos (ptk_none l _ hp)] at hT
 obtain⟨h1,h2,-,h4,-⟩:=head_of hT
 exact⟨h1,h2,h4⟩
theorem cur_some {l:List UInt8} {T:List Tk} {m f q kd:Nat} {x:List UInt8} {a:Nat} (hq:q≤l.length)(hf:l.length-q<f)(hT:T.drop m=toks l f q)(hg:gap l q<l.length)(hp:ptk l (gap l q)=some (kd,x,a)):Cur l T m kd x a∧pos T m=gap l q:=by
 have hge:=gap_ge l q
 obtain⟨f,rfl⟩:∃f',f=f'+1:=⟨f-1,by omega⟩
 obtain⟨p1,p2,p3⟩:=ptk_some l _ kd x a hg hp
 rw[toks,if_pos hg] at hT
 by_cases h120:(tok l (gap l q)).1=120
 ·rw[if_pos h120] at hT
  obtain⟨h1,h2,-,h4,-⟩:=head_of hT
  have h2':kind T m=120:=h2
  refine⟨⟨h1,p1,?_,fun _ h=>absurd h2' h,p2⟩,h4⟩
  rcases p3 with ⟨rfl,e1,-⟩|⟨-,e⟩|⟨-,e⟩
  ·have hc:cls x=120:=by rw[← e1];exact h120
   exact .inr (.inl ⟨rfl,by rw[h2',hc],fun h=>absurd hc h⟩)
  ·rw[e] at h120;cases h120
  ·rw[e] at h120;cases h120
 ·rw[if_neg h120] at hT
  obtain⟨h1,h2,h3,h4,h5⟩:=head_of hT
  have hnx:=tok_next l _ hg h120
  rcases p3 with ⟨rfl,e1,e2⟩|⟨rfl,e⟩|⟨rfl,e⟩
  ·have hc:cls x≠120:=by rw[← e1];exact h120
   have e:=e2 hc
   rw[e] at h2 h3 h5 hnx
   exact⟨⟨h1,p1,.inr (.inl ⟨rfl,h2,fun _=>h3⟩),fun _ _=>⟨f,by dsimp only at hnx;omega,h5⟩,p2⟩,h4⟩
  ·rw[e] at h2 h3 h5 hnx
   exact⟨⟨h1,p1,.inr (.inr (.inl ⟨rfl,h2,h3⟩)),fun _ _=>⟨f,by dsimp only at hnx;omega,h5⟩,p2⟩,h4⟩
  ·rw[e] at h2 h3 h5 hnx
   exact⟨⟨h1,p1,.inr (.inr (.inr ⟨rfl,h2,h3⟩)),fun _ _=>⟨f,by dsimp only at hnx;omega,h5⟩,p2⟩,h4⟩
theorem Cur.takes {l:List UInt8} {T:List Tk} {n kd:Nat} {x:List UInt8} {a:Nat} (h:Cur l T n kd x a)(w:List UInt8)(hw:cls w≠120):(kd==1 && x==w)=is T n (cls w) w:=by
 rw[Bool.eq_iff_iff]
 unfold is
 simp only[Bool.and_eq_true,beq_iff_eq]
 have hcw:cls w=119∨cls w=58∨cls w=112:=by
  cases w with
  | nil=>exact absurd rfl hw
  | cons c r=>
   rw[cls] at hw ⊢
   split
   ·exact .inl rfl
   ·rename_i h1
    rw[if_neg h1] at hw
    split
    ·rename_i h2
     rw[if_pos h2] at hw
     split
     ·rename_i h3
      rw[if_pos h3] at hw
      exact absurd rfl hw
     ·exact .inr (.inl rfl)
    ·rename_i h2
     rw[if_neg h2] at hw
     split
     ·exact .inr (.inr rfl)
     ·rename_i h3
      rw[if_neg h3] at hw
      exact absurd rfl hw
 rcases h.kinds with ⟨rfl,k1,-⟩|⟨rfl,k1,k2⟩|⟨rfl,k1,k2⟩|⟨rfl,k1,k2⟩
 ·rw[k1]
  refine⟨fun h=>absurd h.1 (by decide),fun h=>?_⟩
  exfalso
  have:=h.1
  omega
 ·rw[k1]
  refine⟨fun h=>?_,fun h=>?_⟩
  ·obtain⟨-,rfl⟩:=h
   exact⟨rfl,k2 hw⟩
  ·refine⟨rfl,?_⟩
   rw[← h.2,k2 (by rw[h.1];exact hw)]
 ·rw[k1]
  refine⟨fun h=>absurd h.1 (by decide),fun h=>?_⟩
  exfalso
  have:=h.1
  omega
 ·rw[k1]
  refine⟨fun h=>absurd h.1 (by decide),fun h=>?_⟩
  exfalso
  have:=h.1
  omega
end Rf
open Go.RowKit Go.Lib
variable {R:List Value × TypeId}
structure Sc (R:List Value × TypeId)(w:World)(g:Nat)(s:ByteArray)(a b:Nat):Prop where
 blk:w.heap[g]?=some (.cells (.string s :: .int .i64 a :: .int .i64 b::R.1).toArray R.2)
theorem Sc.c0 {w:World} {g:Nat} {s:ByteArray} {a b:Nat} (h:Sc R w g s a b):w.cell? ⟨g,0,none⟩=some (.string s):=by simp[World.cell?,h.blk]
theorem Sc.c1 {w:World} {g:Nat} {s:ByteArray} {a b:Nat} (h:Sc R w g s a b):w.cell? ⟨g,1,none⟩=some (.int .i64 a):=by simp[World.cell?,h.blk]
theorem Sc.c2 {w:World} {g:Nat} {s:ByteArray} {a b:Nat} (h:Sc R w g s a b):w.cell? ⟨g,2,none⟩=some (.int .i64 b):=by simp[World.cell?,h.blk]
theorem Sc.f1 {w:World} {g:Nat} {s:ByteArray} {a b:Nat} (h:Sc R w g s a b):w.frozen? ⟨g,1,none⟩=false:=by simp[World.frozen?,h.blk]
theorem Sc.f2 {w:World} {g:Nat} {s:ByteArray} {a b:Nat} (h:Sc R w g s a b):w.frozen? ⟨g,2,none⟩=false:=by simp[World.frozen?,h.blk]
theorem Sc.lt {w:World} {g:Nat} {s:ByteArray} {a b:Nat} (h:Sc R w g s a b):g<w.heap.size:=by
 have h:=h.blk
 by_cases hg:g<w.heap.size
 ·exact hg
 ·rw[Array.getElem?_eq_none (by omega)] at h;cases h
theorem Sc.below {w w':World} {g:Nat} {s:ByteArray} {a b:Nat} (h:Sc R w g s a b)(hb:Below w.heap.size w w'):Sc R w' g s a b:=by
 have:=h.lt
 exact⟨by rw[hb.block g this];exact h.blk⟩
theorem Sc.set1 {w:World} {g:Nat} {s:ByteArray} {a b:Nat} (h:Sc R w g s a b)(n:Int)(m:Nat)(hn:n=m):Sc R (w.setCell ⟨g,1,none⟩ (.int .i64 n)) g s m b:=by
 subst hn
 exact⟨by simp[World.setCell,Array.getElem?_modify,h.blk]⟩
theorem Sc.set2 {w:World} {g:Nat} {s:ByteArray} {a b:Nat} (h:Sc R w g s a b)(n:Int)(m:Nat)(hn:n=m):Sc R (w.setCell ⟨g,2,none⟩ (.int .i64 n)) g s a m:=by
 subst hn
 exact⟨by simp[World.setCell,Array.getElem?_modify,h.blk]⟩
theorem grown_refl (w:World)(r:Option Nat):w.grownBy w r:=⟨rfl,rfl,rfl,Nat.le_refl _,fun _ _ _=>rfl⟩
theorem grown_trans {a b c:World} {r:Option Nat} (h:a.grownBy b r)(k:b.grownBy c r):a.grownBy c r:=
 ⟨k.os.trans h.os,k.tape.trans h.tape,k.output.trans h.output,Nat.le_trans h.size k.size,fun i hi hr=>(k.block i (Nat.lt_of_lt_of_le hi h.size) hr).trans (h.block i hi hr)⟩
theorem grown_below {w w':World} {r:Option Nat} (h:Below w.heap.size w w'):w.grownBy w' r:=⟨h.os,h.tape,h.output,h.size,fun k hk _=>h.block k hk⟩
theorem grown_set (w:World)(g j:Nat)(v:Value):w.grownBy (w.setCell ⟨g,j,none⟩ v) (some g):=by
 refine⟨rfl,rfl,rfl,by simp[World.setCell],?_⟩
 intro k hk hr
 have:g≠k:=fun e=>hr (by rw[e])
 simp[World.setCell,Array.getElem?_modify,this]
def atOf (w:World)(g:Nat):Nat:=match w.cell? ⟨g,1,none⟩ with|some (.int _ n)=>n.toNat|_=>0
theorem Sc.at {w:World} {g:Nat} {s:ByteArray} {a b:Nat} (h:Sc R w g s a b):atOf w g=a:=by simp[atOf,h.c1]
abbrev scp (g:Nat):Value:=.pointer (some ⟨g,0,none⟩)
theorem scEnded (g:Nat)(s:ByteArray)(a b:Nat)(w:World)(h:Sc R w g s a b) :
  Calls Tryz.prog 197 #[scp g] w fun e w'=>e=.returned (.bool ((a:Int)==(s.size:Int)))∧Below w.heap.size w w':=by
 have c0:=h.c0
 have c1:=h.c1
 clear h
 go_enter Tryz.func197,Tryz.ntmps197
 go_wp2
 go_quiet (fail)
 go_wp2
 go_ret
 exact⟨rfl,Go.below_drewN (Below.refl _ _) _⟩
theorem scFail (g:Nat)(s:ByteArray)(a b:Nat)(w:World)(h:Sc R w g s a b) :
  Calls Tryz.prog 206 #[scp g] w fun e w'=>e=.panicked [{ v:=.iface 167 (.agg #[.int .i64 3,.int .i64 b]),recovered:=false }]∧w'=w:=by
 have c2:=h.c2
 clear h
 go_enter Tryz.func206,Tryz.ntmps206
 go_wp2
 exact⟨rfl,rfl,rfl⟩
theorem scPass {f:FuncId} {K:UInt8→Bool} (hK:Kind f K)(g:Nat)(s:ByteArray)(a b:Nat)(w:World)(hs:s.size≤100000)(ha:a≤s.size)(h:Sc R w g s a b) :
  Calls Tryz.prog 195 #[scp g,.func (.func f) #[] #[]] w fun e w'=>e=.returned (.string (s.extract a (Pl.stop K s.data.toList a)))∧Sc R w' g s (Pl.stop K s.data.toList a) b∧w.grownBy w' (some g):=by
 have hE:=hK.enters
 have HC:=(show Hid _ from hK.calls)
 obtain⟨Z,hZ⟩:∃Z,Pl.stop K s.data.toList a=Z:=⟨_,rfl⟩
 rw[hZ]
 have HZ:=(show Hid _ from hZ)
 have Hsc:=(show Hid _ from h)
 have c1:=h.c1
 clear hZ h
 go_enter Tryz.func195,Tryz.ntmps195
 go_wp2
 clear c1
 go_loopw [10] (fun _ wr=>∃ k:Nat,a≤k∧k≤s.size∧Hid (Pl.stop K s.data.toList k=Z)∧Hid (Sc R wr g s k b)∧Hid (w.grownBy wr (some g))) (fun _ wr=>s.size-atOf wr g)
 case atStart=>exact⟨a,Nat.le_refl _,ha,HZ,Hsc,grown_refl _ _⟩
 case round=>
  clear HZ Hsc
  obtain⟨k,hak,hk,HZ,Hsc,Hg⟩:=hrel
  have c0:=Hsc.out.c0
  have c1:=Hsc.out.c1
  have k0:=cell_regrown c0
  have k1:=cell_regrown c1
  have cE:∀d os,Calls Tryz.prog 197 #[scp g] (Go.Sort.grow (redrawn wr d) os) fun e w''=>e=.returned (.bool ((k:Int)==(s.size:Int)))∧∃p:Regrown,w''=Go.Sort.grow (redrawn wr p.d) p.os:=fun d os=>Calls.regrown_of (scEnded g s k b _ (Hsc.out.below (below_regrown wr d os)))
  by_cases hlt:k<s.size
  ·have hne:((k:Int)==(s.size:Int))=false:=by simp;omega
   simp only[hne] at cE
   have h8:s[k].toNat<256:=UInt8.toNat_lt _
   have hkI:(k:Int)<(s.size:Int):=by omega
   have cK:∀d os,Calls Tryz.prog f #[.int .u8 (s[k].toNat:Int)] (Go.Sort.grow (redrawn wr d) os) fun e w''=>e=.returned (.bool (K s[k]))∧∃p:Regrown,w''=Go.Sort.grow (redrawn wr p.d) p.os:=fun d os=>Calls.regrown_of ((HC.out s[k] _).mono fun e w' ⟨he,hw⟩=>⟨he,by rw[← hw];exact Below.refl _ _⟩)
   have hkb:Hid (Pl.b s.data.toList k=s[k]):=Pl.b_lt _ k (by simpa using hlt)
   cases hkc:K s[k]<;>simp only[hkc] at cK
   ·have hst:Hid (Z=k):=show _=_ from by
     rw[← HZ.out]
     exact Pl.stop_eq K _ k k (Nat.le_refl _) (by simp;omega) (fun j h1 h2=>by omega) (fun _=>by rw[hkb.out];exact hkc)
    clear hkc HZ
    go_wp2
    refine wp_region_quiet_below (by kernel_rfl) (by kernel_rfl) ?_
    quiet_step (fail)
    quiet_step (exact cE _ _)
    iterate 12 (quiet_step (fail))
    quiet_step (exact cK _ _)
    repeat (quiet_step (fail))
    refine wpQuiet_nil ?_
    intro _ hw'
    obtain⟨⟨dq,osq⟩,hw''⟩:=hw'
    subst hw''
    have hbq:=below_regrown wr dq osq
    have Hs2:=(show Hid _ from Hsc.out.below hbq)
    have Hg2:=(show Hid _ from grown_trans Hg.out (grown_below hbq))
    generalize Go.Sort.grow (redrawn wr dq) osq=wq at *
    clear c0 c1 k0 k1 cE cK hbq
    have c0:=Hs2.out.c0
    have c1:=Hs2.out.c1
    have k0:=cell_regrown c0
    have k1:=cell_regrown c1
    have f1:(k:Int)≤(s.size:Int):=by omega
    have f2:(a:Int)≤(k:Int):=by omega
    have cL:∀d os,Calls Tryz.prog 218 #[.string (s.extract a k)] (Go.Sort.grow (redrawn wq d) os) fun e w''=>e=.returned (.string (s.extract a k))∧∃p:Regrown,w''=Go.Sort.grow (redrawn wq p.d) p.os:=fun d os=>Calls.regrown_of (libClone _ _ (by rw[ByteArray.size_extract];omega))
    go_wp2
    refine wp_region_quiet_below (by kernel_rfl) (by kernel_rfl) ?_
    iterate 10 (quiet_step (fail))
    quiet_step (exact cL _ _)
    repeat (quiet_step (fail))
    refine wpQuiet_nil ?_
    intro _ hw'
    obtain⟨⟨dr,osr⟩,hw''⟩:=hw'
    subst hw''
    have hbr:=below_regrown wq dr osr
    go_wp2
    go_ret
    rw[hst.out]
    exact⟨rfl,Hs2.out.below hbr,grown_trans Hg2.out (grown_below hbr)⟩
   ·have hst:Hid (Pl.stop K s.data.toList (k+1)=Z):=show _=_ from by
     rw[← HZ.out]
     exact Pl.first_miss _ _ k (by simpa using hlt) (by rw[hkb.out,hkc];rfl)
    clear hkc HZ
    go_wp2
    refine wp_region_quiet_below (by kernel_rfl) (by kernel_rfl) ?_
    quiet_step (fail)
    quiet_step (exact cE _ _)
    iterate 12 (quiet_step (fail))
    quiet_step (exact cK _ _)
    repeat (quiet_step (fail))
    refine wpQuiet_nil ?_
    intro _ hw'
    obtain⟨⟨dq,osq⟩,hw''⟩:=hw'
    subst hw''
    have hbq:=below_regrown wr dq osq
    have Hs2:=(show Hid _ from Hsc.out.below hbq)
    have Hg2:=(show Hid _ from grown_trans Hg.out (grown_below hbq))
    have hat:Hid (atOf wr g=k):=Hsc.out.at
    generalize Go.Sort.grow (redrawn wr dq) osq=wq at *
    clear c0 c1 k0 k1 cE cK hbq
    have c1:=Hs2.out.c1
    have f1:=Hs2.out.f1
    go_wp2
    go_roundw
    case rel=>exact⟨k+1,by omega,by omega,hst,Hs2.out.set1 _ _ (by omega),grown_trans Hg2.out (grown_set _ _ _ _)⟩
    case measure=>
     have:=(Hs2.out.set1 ((k:Int)+1) (k+1) (by omega)).at
     rw[hat.out,this]
     omega
  ·have hkk:k=s.size:=by omega
   have hst:Hid (Z=k):=show _=_ from by
    rw[← HZ.out]
    exact Pl.first_end _ _ _ (by simp;omega)
   obtain⟨bE,hbE⟩:∃bE,((k:Int)==(s.size:Int))=bE:=⟨_,rfl⟩
   have Hb:Hid (bE=true):=show _=_ from by rw[← hbE];simp;omega
   simp only[hbE] at cE
   have f1:(k:Int)≤(s.size:Int):=by omega
   have f2:(a:Int)≤(k:Int):=by omega
   have hce:(s.extract a k).size≤1100000:=by rw[ByteArray.size_extract];omega
   clear HZ hkk hbE hlt hk hak
   go_wp2
   refine wp_region_quiet_below (by kernel_rfl) (by kernel_rfl) ?_
   quiet_step (fail)
   quiet_step (exact cE _ _)
   quiet_step (fail)
   quiet_step (fail)
   iterate 11 (refine BigFrame.wpQuiet_skip (by obtain rfl:bE=true:=Hb.out;rfl) ?_;go_simp)
   obtain rfl:bE=true:=Hb.out
   quiet_step (fail)
   refine wpQuiet_nil ?_
   rintro⟨dq,osq⟩
   simp only
   have hbq:=below_regrown wr dq osq
   have Hs2:=(show Hid _ from Hsc.out.below hbq)
   have Hg2:=(show Hid _ from grown_trans Hg.out (grown_below hbq))
   generalize Go.Sort.grow (redrawn wr dq) osq=wq at *
   clear c0 c1 k0 k1 cE hbq
   have c0:=Hs2.out.c0
   have c1:=Hs2.out.c1
   have k0:=cell_regrown c0
   have k1:=cell_regrown c1
   have cL:∀d os,Calls Tryz.prog 218 #[.string (s.extract a k)] (Go.Sort.grow (redrawn wq d) os) fun e w''=>e=.returned (.string (s.extract a k))∧∃p:Regrown,w''=Go.Sort.grow (redrawn wq p.d) p.os:=fun d os=>Calls.regrown_of (libClone _ _ hce)
   go_wp2
   refine wp_region_quiet_below (by kernel_rfl) (by kernel_rfl) ?_
   iterate 10 (quiet_step (fail))
   quiet_step (exact cL _ _)
   repeat (quiet_step (fail))
   refine wpQuiet_nil ?_
   intro _ hw'
   obtain⟨⟨dr,osr⟩,hw''⟩:=hw'
   subst hw''
   have hbr:=below_regrown wq dr osr
   go_wp2
   go_ret
   rw[hst.out]
   exact⟨rfl,Hs2.out.below hbr,grown_trans Hg2.out (grown_below hbr)⟩
variable {R:List Value × TypeId}
theorem scNeedYes (g:Nat)(w:World) :
  Calls Tryz.prog 180 #[scp g,.bool true] w fun e w'=>e=.returned (.tuple #[])∧w'=w:=by
 go_enter Tryz.func180,Tryz.ntmps180
 go_wp2
 exact bodyPost_end (v:=.tuple #[]) (results_none Tryz.results180 _ _ _) rfl ⟨rfl,rfl⟩
theorem scNeedNo (g:Nat)(s:ByteArray)(a b:Nat)(w:World)(h:Sc R w g s a b) :
  Calls Tryz.prog 180 #[scp g,.bool false] w fun e w'=>e=.panicked [{ v:=.iface 167 (.agg #[.int .i64 3,.int .i64 b]),recovered:=false }]∧w'=w:=by
 have Hsc:=(show Hid _ from h)
 clear h
 go_enter Tryz.func180,Tryz.ntmps180
 go_wp2_with fail
 refine(scFail g s a b w Hsc.out).mono ?_
 rintro e w3 ⟨rfl,rfl⟩
 exact⟨rfl,rfl,rfl⟩
theorem scNextEnd (g:Nat)(s:ByteArray)(a b:Nat)(w:World)(h:Sc R w g s a b)(ha:a=s.size) :
  Calls Tryz.prog 201 #[scp g] w fun e w'=>e=.panicked [{ v:=.iface 167 (.agg #[.int .i64 3,.int .i64 b]),recovered:=false }]∧Below w.heap.size w w':=by
 have hEn:=scEnded g s a b w h
 rw[show((a:Int)==(s.size:Int))=true from by simp;omega] at hEn
 have Hsc:=(show Hid _ from h)
 clear h ha
 go_enter Tryz.func201,Tryz.ntmps201
 go_wp2_with fail
 refine hEn.mono ?_
 rintro e w1 ⟨rfl,hb1⟩
 have S1:=(show Hid _ from Hsc.out.below hb1)
 go_wp2_with fail
 refine(scNeedNo g s a b w1 S1.out).mono ?_
 rintro e w2 ⟨rfl,rfl⟩
 exact⟨rfl,rfl,hb1⟩
theorem scNextYes (g:Nat)(s:ByteArray)(a b:Nat)(w:World)(hs:s.size≤100000)(h:Sc R w g s a b)(ha:a<s.size) :
  Calls Tryz.prog 201 #[scp g] w fun e w'=>e=.returned (.int .u8 (s[a].toNat:Int))∧Sc R w' g s (a+1) b∧w.grownBy w' (some g):=by
 have hEn:=scEnded g s a b w h
 rw[show((a:Int)==(s.size:Int))=false from by simp;omega] at hEn
 have Hsc:=(show Hid _ from h)
 have h8:s[a].toNat<256:=UInt8.toNat_lt _
 have hkI:(a:Int)<(s.size:Int):=by omega
 clear h
 go_enter Tryz.func201,Tryz.ntmps201
 go_wp2_with fail
 refine hEn.mono ?_
 rintro e w1 ⟨rfl,hb1⟩
 have S1:=(show Hid _ from Hsc.out.below hb1)
 have G1:=(show Hid _ from grown_below (r:=some g) hb1)
 clear hb1 hEn
 go_wp2_with fail
 refine(scNeedYes g w1).mono ?_
 rintro e w2 ⟨rfl,rfl⟩
 have c1:=S1.out.c1
 have f1:=S1.out.f1
 have Hs3:=(show Hid _ from S1.out.set1 ((a:Int)+1) (a+1) (by omega))
 have Hg3:=(show Hid _ from grown_trans G1.out (grown_set w2 g 1 (.int .i64 ((a:Int)+1))))
 go_wp2
 clear c1 f1
 generalize w2.setCell ⟨g,1,none⟩ (.int .i64 ((a:Int)+1))=wz at *
 have e0:=Hs3.out.c0
 have e1:=Hs3.out.c1
 go_quiet (fail)
 have hbz:=Go.below_drewN (Below.refl wz.heap.size wz) nq
 go_wp2
 go_ret
 exact⟨rfl,Hs3.out.below hbz,grown_trans Hg3.out (grown_below hbz)⟩
end Go.Proofs.YtkcajnjledldnaaGreatDoor
