import Derived.Test.YtkcajnjledldnaaGreatDoorTk
import Derived.Test.YtkcajnjledldnaaGreatDoorRpFrame
import Derived.Test.YtkcajnjledldnaaGreatDoorRfCmd3
import Derived.Deep.LoopGhost
set_option maxRecDepth 20000
set_option maxHeartbeats 8000000
namespace Go.Proofs.YtkcajnjledldnaaGreatDoor
open Go.RowKit Go.Lib Go.Maps
theorem prAddT (g:Nat)(s:ByteArray)(l:List UInt8)(T:List Rf.Tk)(m kd:Nat)(x:List UInt8)(a:Nat)(v:Value)(E:List NdE)(n:Nd)(vn vk vd:Value)(w:World)(hM:Ps g s l T m kd x a v E w)(hlen:E.length≤100000)
  (hn:LsX (g+1) w (vn,n.names)) (hk:LsX (g+1) w (vk,n.keys)) (hd:LsN (g+1) w (vd,n.kids)) (hf:FarX (vn,n.names) (vk,n.keys)) (hfar:∀s ∈ slots E,FarX s (vn,n.names)∧FarX s (vk,n.keys)) (hfarN:∀s ∈ kslots E,FarN s (vd,n.kids)) :
  Calls Tryz.prog 149 #[scp g,ndV n vn vk vd] w fun e w'=>e=.returned (.int .i64 (E.length:Int))∧∃v',Ps g s l T m kd x a v' (E ++ [(n,vn,vk,vd)]) w'∧Ef g v.ownBlock w w'∧Nw w v v':=by
 obtain⟨hsc,hcur,hC⟩:=hM
 have hgl:=hsc.lt
 have hn0:=hn
 have hk0:=hk
 have hd0:=hd
 obtain⟨⟨on,cn,e1⟩,-⟩:=hn0
 obtain⟨⟨ok,ck,e2⟩,-⟩:=hk0
 obtain⟨⟨od,cd,e3⟩,-⟩:=hd0
 dsimp only at e1 e2 e3
 obtain⟨o,cap,hv⟩:=hC.shape
 have hone:Hid (∀y ∈ cell7 (n,vn,vk,vd),y.oneCell'=true):=by
  show ∀y ∈ _,_
  intro y hy
  simp only[cell7,List.mem_cons,List.not_mem_nil,or_false] at hy
  rcases hy with rfl|rfl|rfl|rfl|rfl|rfl|rfl<;>first|rfl|(rw[e1];rfl)|(rw[e2];rfl)|(rw[e3];rfl)
 obtain⟨W1,hW1⟩:∃W1,w.alloc (bxN n vn vk vd)=W1:=⟨_,rfl⟩
 have b1:Below w.heap.size w W1:=by rw[← hW1];exact(Below.refl _ _).alloc (Nat.le_refl _) _
 have hs1:W1.heap.size=w.heap.size+1:=by rw[← hW1];simp
 have hbx:W1.heap[w.heap.size]?=some (bxN n vn vk vd):=by rw[← hW1];exact heap_alloc_at _ _
 obtain⟨W2,hW2⟩:∃W2,(W1.alloc (bxN n vn vk vd)).drew=W2:=⟨_,rfl⟩
 have b2:Below w.heap.size w W2:=by rw[← hW2];exact(b1.alloc (by omega) _).drew
 have hs2:W2.heap.size=w.heap.size+2:=by rw[← hW2];simp[World.drew,hs1]
 have y1:W1.cell? ⟨g,5,none⟩=some v:=(⟨(b1.block g hgl).trans hsc.blk⟩:Sc (prR kd ⟨x.toArray⟩ v) W1 g s a (Rf.pos T m)).c5
 have y2:(W1.alloc (bxN n vn vk vd)).cell? ⟨g,5,none⟩=some v:=(⟨((b1.alloc (by omega) _).block g hgl).trans hsc.blk⟩:Sc (prR kd ⟨x.toArray⟩ v) (W1.alloc (bxN n vn vk vd)) g s a (Rf.pos T m)).c5
 have d0:W1.cell? ⟨w.heap.size,0,none⟩=some (.int .i64 n.kind):=by simp[World.cell?,hbx]
 have d1:W1.cell? ⟨w.heap.size,1,none⟩=some (.int .i64 n.num):=by simp[World.cell?,hbx]
 have d2:W1.cell? ⟨w.heap.size,2,none⟩=some (.int .i64 n.mat):=by simp[World.cell?,hbx]
 have d3:W1.cell? ⟨w.heap.size,3,none⟩=some (.string n.text):=by simp[World.cell?,hbx]
 have d4:W1.cell? ⟨w.heap.size,4,none⟩=some (vn):=by simp[World.cell?,hbx]
 have d5:W1.cell? ⟨w.heap.size,5,none⟩=some (vk):=by simp[World.cell?,hbx]
 have d6:W1.cell? ⟨w.heap.size,6,none⟩=some (vd):=by simp[World.cell?,hbx]
 have hC2:=mkHid (hC.below b2)
 have hn2:=mkHid (hn.below b2)
 have hk2:=mkHid (hk.below b2)
 have hd2:=mkHid (hd.below b2)
 have hb2:=mkHid (⟨(b2.block g hgl).trans hsc.blk⟩:Sc (prR kd ⟨x.toArray⟩ v) W2 g s a (Rf.pos T m))
 have Hcur:=mkHid hcur
 have hnew:Hid (∀(j:Nat) (y:Value),(cell7 (n,vn,vk,vd))[j]?=some y→W2.cell? ⟨W1.heap.size,j,none⟩=some y):=by
  show ∀_ _,_
  intro j y hy
  refine seven_cells (t:=109) (z:=(0,0)) _ ?_ j y hy
  have:=heap_alloc_at W1 (bxN n vn vk vd)
  rw[← hW2]
  exact this
 have HW1:=mkHid hW1
 have HW2:=mkHid hW2
 have Hb2:=mkHid b2
 have Hs2:=mkHid hs2
 have hN:=mkHid hf
 have hFar:=mkHid hfar
 have hFarN:=mkHid hfarN
 have Hs1:=mkHid hs1
 unfold ndV
 clear hsc hcur hC hn hk hd hf hfar hfarN hW1 hW2 b1 b2 hs2 hbx hs1
 subst e1 e2 e3 hv
 go_enter Tryz.func149,Tryz.ntmps149
 go_wp2
 rw[HW1.out]
 refine wp_region_any (by kernel_rfl) ?_
 refine ta 0 (scp g) ?_ ?_
 ·intro w
  go_simp
  all_goals omega
 go_simp
 refine ta 1 (scp g) ?_ ?_
 ·intro w
  go_simp
  all_goals omega
 go_simp
 refine ta 2 (scp g) ?_ ?_
 ·intro w
  go_simp
  all_goals omega
 go_simp
 refine ta 3 (.pointer (some ⟨g,5,none⟩)) ?_ ?_
 ·intro w
  go_simp
  all_goals omega
 go_simp
 refine wpAny_ready (rs:=[4,5]) (by kernel_rfl) (by simp) ?_
 refine AllReady.cons rfl (fun K hK=>?_) (AllReady.cons rfl (fun K hK=>?_) AllReady.nil)
 ·go_simp
  refine hK _ _ ?_
  clear hK K
  go_simp
  refine r1 5 (fun K hK=>?_)
  go_simp
  refine hK _ _ ?_
  clear hK K
  go_simp
  refine r1 6 (fun K hK=>?_)
  go_simp
  refine hK _ _ ?_
  clear hK K
  go_simp
  refine r1 7 (fun K hK=>?_)
  rw[HW2.out]
  refine opAppNt _ _ rfl (g+1) (.slice o E.length cap) E rfl hC2.out.row (n,.slice on n.names.length cn,.slice ok n.keys.length ck,.slice od n.kids.length cd) W1.heap.size 1 rfl hnew.out hone.out (by omega) (by rw[Hs2.out];omega) ?_
  intro y5 w6 hrow6 hg6 hnw6
  have hC6:=hC2.out.push hn2.out hk2.out hd2.out hN.out hFar.out hFarN.out hrow6 hg6
  have hlow:∀k,(Value.slice o E.length cap).ownBlock=some k→g+1≤k:=fun k hk=>(World.ownsRow.lt hC2.out.row k hk).1
  have hO6:Sc (prR kd ⟨x.toArray⟩ (.slice o E.length cap)) w6 g s a (Rf.pos T m):=⟨(hg6.block g (by rw[Hs2.out];omega) (fun e=>by have:=hlow _ e.symm;omega)).trans hb2.out.blk⟩
  have hb6:Ef g (Value.slice o E.length cap).ownBlock w w6:=Ef.ahead Hb2.out ⟨hg6.os,hg6.tape,hg6.output,hg6.size,fun k hk _ hr=>hg6.block k hk hr⟩
  have hN6:=mkHid (Nw.ahead (show w.heap.size≤W2.heap.size by rw[Hs2.out];omega) hnw6)
  have x6:=hO6.c5
  have z6:=hO6.fz 5
  obtain⟨o5,k5,hv5⟩:=hC6.shape
  rw[show(E ++ [(n,Value.slice on n.names.length cn,Value.slice ok n.keys.length ck,Value.slice od n.kids.length cd)]).length=E.length+1 from by simp] at hv5
  subst hv5
  refine hK _ _ ?_
  clear hK K
  go_simp
  refine ta 8 (scp g) ?_ ?_
  ·intro w
   go_simp
   all_goals omega
  go_simp
  refine ta 9 (.pointer (some ⟨g,5,none⟩)) ?_ ?_
  ·intro w
   go_simp
   all_goals omega
  go_simp
  refine r1 10 (fun K hK=>?_)
  go_simp
  refine hK _ _ ?_
  clear hK K
  go_simp
  refine wpAny_done (by kernel_rfl) ?_ _
  have hM7:Hid (Ps g s l T m kd x a (.slice o5 (E.length+1) k5) _ (w6.setCell ⟨g,5,none⟩ (.slice o5 (E.length+1) k5))):=⟨hO6.nodes _,Hcur.out,hC6.set (by omega)⟩
  have hE7:Hid (Ef g (Value.slice o E.length cap).ownBlock w (w6.setCell ⟨g,5,none⟩ (.slice o5 (E.length+1) k5))):=⟨hb6.os,hb6.tape,hb6.output,by simpa using hb6.size,fun k hk hg hr=>((grG_set w6 g 5 _).block k (Nat.lt_of_lt_of_le hk hb6.size) (by simpa using hg)).trans (hb6.keep k hk hg hr)⟩
  have x7:=(hO6.nodes (.slice o5 (E.length+1) k5)).c5
  clear hrow6 hg6 hC6 hO6 x6 z6 hb6 hnw6
  go_wp2
  go_ret
  refine⟨?_,_,hM7.out,hE7.out,hN6.out⟩
  first|rfl|(simp;done)|(simp;omega)
 ·go_simp
  refine hK _ _ ?_
  clear hK K
  go_simp
  refine wpAny_ready (rs:=[4,6]) (by kernel_rfl) (by simp) ?_
  refine AllReady.cons rfl (fun K hK=>?_) (AllReady.cons rfl (fun K hK=>?_) AllReady.nil)
  ·go_simp
   refine hK _ _ ?_
   clear hK K
   go_simp
   refine r1 6 (fun K hK=>?_)
   go_simp
   refine hK _ _ ?_
   clear hK K
   go_simp
   refine r1 7 (fun K hK=>?_)
   rw[HW2.out]
   refine opAppNt _ _ rfl (g+1) (.slice o E.length cap) E rfl hC2.out.row (n,.slice on n.names.length cn,.slice ok n.keys.length ck,.slice od n.kids.length cd) W1.heap.size 1 rfl hnew.out hone.out (by omega) (by rw[Hs2.out];omega) ?_
   intro y5 w6 hrow6 hg6 hnw6
   have hC6:=hC2.out.push hn2.out hk2.out hd2.out hN.out hFar.out hFarN.out hrow6 hg6
   have hlow:∀k,(Value.slice o E.length cap).ownBlock=some k→g+1≤k:=fun k hk=>(World.ownsRow.lt hC2.out.row k hk).1
   have hO6:Sc (prR kd ⟨x.toArray⟩ (.slice o E.length cap)) w6 g s a (Rf.pos T m):=⟨(hg6.block g (by rw[Hs2.out];omega) (fun e=>by have:=hlow _ e.symm;omega)).trans hb2.out.blk⟩
   have hb6:Ef g (Value.slice o E.length cap).ownBlock w w6:=Ef.ahead Hb2.out ⟨hg6.os,hg6.tape,hg6.output,hg6.size,fun k hk _ hr=>hg6.block k hk hr⟩
   have hN6:=mkHid (Nw.ahead (show w.heap.size≤W2.heap.size by rw[Hs2.out];omega) hnw6)
   have x6:=hO6.c5
   have z6:=hO6.fz 5
   obtain⟨o5,k5,hv5⟩:=hC6.shape
   rw[show(E ++ [(n,Value.slice on n.names.length cn,Value.slice ok n.keys.length ck,Value.slice od n.kids.length cd)]).length=E.length+1 from by simp] at hv5
   subst hv5
   refine hK _ _ ?_
   clear hK K
   go_simp
   refine ta 8 (scp g) ?_ ?_
   ·intro w
    go_simp
    all_goals omega
   go_simp
   refine ta 9 (.pointer (some ⟨g,5,none⟩)) ?_ ?_
   ·intro w
    go_simp
    all_goals omega
   go_simp
   refine r1 10 (fun K hK=>?_)
   go_simp
   refine hK _ _ ?_
   clear hK K
   go_simp
   refine wpAny_done (by kernel_rfl) ?_ _
   have hM7:Hid (Ps g s l T m kd x a (.slice o5 (E.length+1) k5) _ (w6.setCell ⟨g,5,none⟩ (.slice o5 (E.length+1) k5))):=⟨hO6.nodes _,Hcur.out,hC6.set (by omega)⟩
   have hE7:Hid (Ef g (Value.slice o E.length cap).ownBlock w (w6.setCell ⟨g,5,none⟩ (.slice o5 (E.length+1) k5))):=⟨hb6.os,hb6.tape,hb6.output,by simpa using hb6.size,fun k hk hg hr=>((grG_set w6 g 5 _).block k (Nat.lt_of_lt_of_le hk hb6.size) (by simpa using hg)).trans (hb6.keep k hk hg hr)⟩
   have x7:=(hO6.nodes (.slice o5 (E.length+1) k5)).c5
   clear hrow6 hg6 hC6 hO6 x6 z6 hb6 hnw6
   go_wp2
   go_ret
   refine⟨?_,_,hM7.out,hE7.out,hN6.out⟩
   first|rfl|(simp;done)|(simp;omega)
  ·go_simp
   refine hK _ _ ?_
   clear hK K
   go_simp
   refine r1 4 (fun K hK=>?_)
   go_simp
   refine hK _ _ ?_
   clear hK K
   go_simp
   refine r1 7 (fun K hK=>?_)
   rw[HW2.out]
   refine opAppNt _ _ rfl (g+1) (.slice o E.length cap) E rfl hC2.out.row (n,.slice on n.names.length cn,.slice ok n.keys.length ck,.slice od n.kids.length cd) W1.heap.size 1 rfl hnew.out hone.out (by omega) (by rw[Hs2.out];omega) ?_
   intro y5 w6 hrow6 hg6 hnw6
   have hC6:=hC2.out.push hn2.out hk2.out hd2.out hN.out hFar.out hFarN.out hrow6 hg6
   have hlow:∀k,(Value.slice o E.length cap).ownBlock=some k→g+1≤k:=fun k hk=>(World.ownsRow.lt hC2.out.row k hk).1
   have hO6:Sc (prR kd ⟨x.toArray⟩ (.slice o E.length cap)) w6 g s a (Rf.pos T m):=⟨(hg6.block g (by rw[Hs2.out];omega) (fun e=>by have:=hlow _ e.symm;omega)).trans hb2.out.blk⟩
   have hb6:Ef g (Value.slice o E.length cap).ownBlock w w6:=Ef.ahead Hb2.out ⟨hg6.os,hg6.tape,hg6.output,hg6.size,fun k hk _ hr=>hg6.block k hk hr⟩
   have hN6:=mkHid (Nw.ahead (show w.heap.size≤W2.heap.size by rw[Hs2.out];omega) hnw6)
   have x6:=hO6.c5
   have z6:=hO6.fz 5
   obtain⟨o5,k5,hv5⟩:=hC6.shape
   rw[show(E ++ [(n,Value.slice on n.names.length cn,Value.slice ok n.keys.length ck,Value.slice od n.kids.length cd)]).length=E.length+1 from by simp] at hv5
   subst hv5
   refine hK _ _ ?_
   clear hK K
   go_simp
   refine ta 8 (scp g) ?_ ?_
   ·intro w
    go_simp
    all_goals omega
   go_simp
   refine ta 9 (.pointer (some ⟨g,5,none⟩)) ?_ ?_
   ·intro w
    go_simp
    all_goals omega
   go_simp
   refine r1 10 (fun K hK=>?_)
   go_simp
   refine hK _ _ ?_
   clear hK K
   go_simp
   refine wpAny_done (by kernel_rfl) ?_ _
   have hM7:Hid (Ps g s l T m kd x a (.slice o5 (E.length+1) k5) _ (w6.setCell ⟨g,5,none⟩ (.slice o5 (E.length+1) k5))):=⟨hO6.nodes _,Hcur.out,hC6.set (by omega)⟩
   have hE7:Hid (Ef g (Value.slice o E.length cap).ownBlock w (w6.setCell ⟨g,5,none⟩ (.slice o5 (E.length+1) k5))):=⟨hb6.os,hb6.tape,hb6.output,by simpa using hb6.size,fun k hk hg hr=>((grG_set w6 g 5 _).block k (Nat.lt_of_lt_of_le hk hb6.size) (by simpa using hg)).trans (hb6.keep k hk hg hr)⟩
   have x7:=(hO6.nodes (.slice o5 (E.length+1) k5)).c5
   clear hrow6 hg6 hC6 hO6 x6 z6 hb6 hnw6
   go_wp2
   go_ret
   refine⟨?_,_,hM7.out,hE7.out,hN6.out⟩
   first|rfl|(simp;done)|(simp;omega)
structure Pb (w:World)(b:Nat)(cs:Array Value)(v':Value)(wr:World):Prop where
 blk:wr.heap[b]?=some (.cells cs 109 (0,0))
 hb:w.heap.size≤b
 hvb:v'.ownBlock≠some b
section
variable {g:Nat} {s:ByteArray} {l:List UInt8} {T:List Rf.Tk} {v v':Value} {E A:List NdE} {w wr w1:World} {na ke:List ByteArray} {ks:List Int} {vn vk vd:Value} {n b:Nat} {cs:Array Value}
theorem Pb.ef {r:Option Nat} (h:Pb w b cs v' wr)(hg:g<w.heap.size)(e1:Ef g r wr w1)(hr:r=none∨r=v'.ownBlock):Pb w b cs v' w1:=
 ⟨(e1.keep b (heap_ltM h.blk) (by have:=h.hb;omega) (fun e=>hr.elim (fun h1=>by rw[h1] at e;cases e) (fun h1=>h.hvb (by rw[← h1];exact e.symm)))).trans h.blk,h.hb,h.hvb⟩
theorem Pb.call {v1:Value} (h:Pb w b cs v' wr)(hg:g<w.heap.size)(e1:Ef g v'.ownBlock wr w1)(hn:Nw wr v' v1):Pb w b cs v1 w1:=by
 refine⟨(h.ef hg e1 (.inr rfl)).blk,h.hb,?_⟩
 rcases hn with e|⟨k,hk,e⟩
 ·rw[e];exact h.hvb
 ·rw[e];intro e2;cases e2;have:=heap_ltM h.blk;omega
theorem Pb.below (h:Pb w b cs v' wr)(hb:Below wr.heap.size wr w1):Pb w b cs v' w1:=⟨(hb.block b (heap_ltM h.blk)).trans h.blk,h.hb,h.hvb⟩
theorem Pb.set (h:Pb w b cs v' wr)(j:Nat)(u:Value):Pb w b (cs.setIfInBounds j u) v' (wr.setCell ⟨b,j,none⟩ u):=⟨by simp[World.setCell,Array.getElem?_modify,h.blk],h.hb,h.hvb⟩
theorem Pb.new {kd a:Nat} {x:List UInt8} (h:Ps g s l T n kd x a v E wr)(hs:w.heap.size≤wr.heap.size):Pb w wr.heap.size cs v (wr.alloc (.cells cs 109)):=
 ⟨heap_alloc_at _ _,hs,fun e=>by have:=(World.ownsRow.lt h.nt.row _ e).2;omega⟩
theorem Pb.cell (h:Pb w b cs v' wr)(j:Nat)(u:Value)(hj:cs[j]?=some u):wr.cell? ⟨b,j,none⟩=some u:=by simp[World.cell?,h.blk,hj]
theorem Pb.fz (h:Pb w b cs v' wr)(j:Nat):wr.frozen? ⟨b,j,none⟩=false:=by simp[World.frozen?,h.blk]
theorem Pf.set (h:Pf g s l T v E w na ke ks vn vk vd n v' A wr)(p:Pb w b cs v' wr)(j:Nat)(u:Value):Pf g s l T v E w na ke ks vn vk vd n v' A (wr.setCell ⟨b,j,none⟩ u):=by
 obtain⟨kd,x,a,h0⟩:=h.ps
 have hgb:g≠b:=by have:=h.hg;have:=p.hb;omega
 have h1:Ps g s l T n kd x a v' (E++A) (wr.setCell ⟨b,j,none⟩ u):=by
  refine⟨⟨((grG_set wr b j u).block g h0.sc.lt (by simpa using hgb)).trans h0.sc.blk⟩,h0.cur,h0.nt.grown (grG_set wr b j u) (.inr p.hvb) (fun s hs=>?_) (fun s hs=>?_)⟩
  ·by_cases hn:s.2=[]
   ·exact .inl hn
   ·exact .inr (own_ne_blk ((h0.nt.own s hs).2 hn) p.blk (by decide))
  ·by_cases hn:s.2=[]
   ·exact .inl hn
   ·exact .inr (own_ne_blk ((h0.nt.ownN s hs).2 hn) p.blk (by decide))
 have e1:Ef g v.ownBlock w (wr.setCell ⟨b,j,none⟩ u):=h.ef.blkset p.hb j u
 have gl1:Gl g (wr.setCell ⟨b,j,none⟩ u):=h.gl.ef (r:=some b) ⟨rfl,rfl,rfl,by simp,fun k hk _ hr=>(grG_set wr b j u).block k hk hr⟩ (fun k e=>by cases e;have:=h.hg;have:=p.hb;omega)
 exact⟨⟨kd,x,a,h1⟩,e1,h.nw,h.fr,h.frN,gl1,h.hg,World.ownsRow.kept h.on (grG_set wr b j u) (own_ne_blk h.on p.blk (by decide)),World.ownsRow.kept h.ok (grG_set wr b j u) (own_ne_blk h.ok p.blk (by decide)),World.ownsRow.kept h.od (grG_set wr b j u) (own_ne_blk h.od p.blk (by decide)),h.fnk,h.fn,h.fk,h.fd⟩
theorem Pf.add (h:Pf g s l T v E w na ke ks vn vk vd n v' A wr)(nd:Nd)(hna:nd.names=na)(hke:nd.keys=ke)(hks:nd.kids=ks)(hlen:(E++A).length≤100000) :
  Calls Tryz.prog 149 #[scp g,ndV nd vn vk vd] wr fun e w'=>e=.returned (.int .i64 ((E++A).length:Int))∧∃v2 A2,Hid (A2=A ++ [(nd,vn,vk,vd)])∧Ef g v.ownBlock w w'∧Nw w v v2∧(∃kd x a,Ps g s l T n kd x a v2 (E++A2) w') ∧
   (∀s ∈ slots A2,s.2=[]∨∀k,s.1.ownBlock=some k→w.heap.size≤k)∧(∀s ∈ kslots A2,s.2=[]∨∀k,s.1.ownBlock=some k→w.heap.size≤k):=by
 subst hna hke hks
 obtain⟨kd,x,a,h0⟩:=h.ps
 have hB:g+1≤w.heap.size:=h.hg
 have lsx:∀{x:Value} {l:List ByteArray},OwnX w.heap.size x l wr→LsX (g+1) wr (x,l):=fun ho=>⟨ho.shape,fun _=>own_base ho hB⟩
 have farx:∀{x:Value} {l:List ByteArray},OwnX w.heap.size x l wr→(∀s ∈ slots (E++A),s.2=[]∨s.1.ownBlock=none∨s.1.ownBlock≠x.ownBlock)→∀s ∈ slots (E++A),FarX s (x,l):=by
  intro x l ho hf s hs
  rcases hf s hs with e|e|e
  ·exact .inl e
  ·by_cases hn:s.2=[]
   ·exact .inl hn
   ·have:=own_none ((h0.nt.own s hs).2 hn) e
    exact absurd (List.eq_nil_of_length_eq_zero this) hn
  ·exact .inr (.inr e)
 refine(prAddT g s l T n kd x a v' (E++A) nd vn vk vd wr h0 hlen (lsx h.on) (lsx h.ok) ⟨?_,fun _=>own_base h.od hB⟩ ?_ (fun s hs=>⟨farx h.on h.fn s hs,farx h.ok h.fk s hs⟩) ?_).mono ?_
 ·rcases h.od.2 with ⟨e,h0⟩|⟨q,cap,cur,e,-⟩
  ·exact⟨none,0,by show vd=.slice none nd.kids.length 0;rw[e,h0]⟩
  ·exact⟨_,cap,e⟩
 ·rcases h.fnk with e|e
  ·exact .inl (List.eq_nil_of_length_eq_zero (own_none h.on e))
  ·exact .inr (.inr e)
 ·intro s hs
  rcases h.fd s hs with e|e|e
  ·exact .inl e
  ·by_cases hn:s.2=[]
   ·exact .inl hn
   ·have:=own_none ((h0.nt.ownN s hs).2 hn) e
    exact absurd (List.eq_nil_of_length_eq_zero this) hn
  ·exact .inr (.inr e)
 ·rintro e w' ⟨rfl,v2,h2,e2,n2⟩
  refine⟨rfl,v2,_,rfl,h.ef.trans h.nw e2,h.nw.trans h.ef.size n2,⟨kd,x,a,by rw[← List.append_assoc];exact h2⟩,?_,?_⟩
  ·intro s hs
   rcases slots_mem hs with h1|h1
   ·exact h.fr s h1
   ·simp only[slots,List.flatMap_cons,List.flatMap_nil,List.append_nil,List.mem_cons,List.not_mem_nil,or_false] at h1
    rcases h1 with rfl|rfl
    ·exact .inr fun k hk=>(World.ownsRow.lt h.on k hk).1
    ·exact .inr fun k hk=>(World.ownsRow.lt h.ok k hk).1
  ·intro s hs
   rcases kslots_mem hs with h1|h1
   ·exact h.frN s h1
   ·simp only[kslots,List.map_cons,List.map_nil,List.mem_cons,List.not_mem_nil,or_false] at h1
    subst h1
    exact .inr fun k hk=>(World.ownsRow.lt h.od k hk).1
theorem PrO.added {R:Rf.Out} {n0:Nat} {v2:Value} {A2:List NdE} {nd:Nd} {w':World} (hA:A2=A ++ [(nd,vn,vk,vd)])(hR:R=.ok n ((E++A).map (·.1) ++ [nd]))(nw:Nw w v v2)(ps:∃kd x a,Ps g s l T n kd x a v2 (E++A2) w')
  (fr:∀s ∈ slots A2,s.2=[]∨∀k,s.1.ownBlock=some k→w.heap.size≤k) (frN:∀s ∈ kslots A2,s.2=[]∨∀k,s.1.ownBlock=some k→w.heap.size≤k) (hc:A.length+3*n0+2≤3*n) :
  PrO g s l T n0 v E w R (.returned (.int .i64 ((E++A).length:Int))) w':=by
 subst hR
 refine .inl ⟨A2,v2,?_,?_,ps,nw,fr,frN,?_⟩
 ·have:(((E++A).map (·.1) ++ [nd]).length:Int)-1=((E++A).length:Int):=by rw[List.length_append,List.length_map];simp
  unfold Rf.last
  rw[this]
 ·rw[hA]
  simp
 ·rw[hA,List.length_append]
  simp
  omega
theorem PrO.ofX {R:Rf.Out} {n0 m:Nat} {e:Ending} {w':World} (hx:Xf T m e)(hR:R=.bad m):PrO g s l T n0 v E w R e w':=by
 rw[hR];exact hx.2.2
theorem PrO.ofX2 {R:Rf.Out} {n0 m:Nat} {N:List Nd} {e:Ending} {w':World} (hx:Xf T m e)(hR:R=.ok m N):PrO g s l T n0 v E w R e w':=by
 rw[hR];exact .inr hx
theorem PrO.bad {R:Rf.Out} {n0 m:Nat} {w':World} (hR:R=.bad m):PrO g s l T n0 v E w R (faultAt (Rf.pos T m)) w':=by
 rw[hR];exact rfl
end
namespace Rf
theorem look_none (x:List UInt8):∀(f i:Nat),(∀j,i≤j→j<i+f→(x==fwT j)=false)→look x f i=0
 | 0,_,_=>rfl
 | f+1,i,h=>by
  rw[look,h i (Nat.le_refl _) (by omega)]
  exact look_none x f (i+1) (fun j h1 h2=>h j (by omega) (by omega))
theorem lk_cases (x:List UInt8):(∃i,i<22∧x=fwT i)∨∀i,i<22→(x==fwT i)=false:=by
 by_cases h:∃i,i<22∧x=fwT i
 ·exact .inl h
 ·refine .inr fun i hi=>beq_eq_false_iff_ne.2 fun e=>h ⟨i,hi,e⟩
theorem no_words (x:List UInt8)(h:∀i,i<22→(x==fwT i)=false):lk x=0∧tstK x=0∧cmdK x=0∧(x==wIf)=false∧(x==wRepeat)=false∧(x==wSet)=false:=by
 have h0:(x == [105,102])=false:=h 0 (by decide)
 have h1:(x == [114,101,112,101,97,116])=false:=h 1 (by decide)
 have h2:(x == [107,101,101,112])=false:=h 2 (by decide)
 have h3:(x == [100,105,115,99,97,114,100])=false:=h 3 (by decide)
 have h4:(x == [115,116,111,112])=false:=h 4 (by decide)
 have h5:(x == [102,105,108,101,105,110,116,111])=false:=h 5 (by decide)
 have h6:(x == [114,101,100,105,114,101,99,116])=false:=h 6 (by decide)
 have h7:(x == [114,101,106,101,99,116])=false:=h 7 (by decide)
 have h8:(x == [97,100,100,102,108,97,103])=false:=h 8 (by decide)
 have h9:(x == [115,101,116])=false:=h 9 (by decide)
 have t0:(x == [116,114,117,101])=false:=h 10 (by decide)
 have t1:(x == [102,97,108,115,101])=false:=h 11 (by decide)
 have t2:(x == [110,111,116])=false:=h 12 (by decide)
 have t3:(x == [97,108,108,111,102])=false:=h 13 (by decide)
 have t4:(x == [97,110,121,111,102])=false:=h 14 (by decide)
 have t5:(x == [104,101,97,100,101,114])=false:=h 15 (by decide)
 have t6:(x == [97,100,100,114,101,115,115])=false:=h 16 (by decide)
 have t7:(x == [101,110,118,101,108,111,112,101])=false:=h 17 (by decide)
 have t8:(x == [101,120,105,115,116,115])=false:=h 18 (by decide)
 have t9:(x == [115,105,122,101])=false:=h 19 (by decide)
 have ta:(x == [115,116,114,105,110,103])=false:=h 21 (by decide)
 refine⟨look_none x 22 0 (fun j _ h2=>h j (by omega)),?_,?_,h0,h1,h9⟩
 ·unfold tstK
  rw[t0,t1,t2,t3,t4,t5,t6,t7,t8,t9,ta]
  rfl
 ·unfold cmdK
  rw[h2,h3,h4,h5,h6,h7,h8]
  rfl
theorem lk_tst (x:List UInt8):(Fn.isTest (lk x)=true∧tstK x=lk x∧cls x=119)∨(Fn.isTest (lk x)=false∧tstK x=0):=by
 rcases lk_cases x with ⟨i,hi,rfl⟩|h
 ·rcases (show i=0∨i=1∨i=2∨i=3∨i=4∨i=5∨i=6∨i=7∨i=8∨i=9∨i=10∨i=11∨i=12∨i=13∨i=14∨i=15∨i=16∨i=17∨i=18∨i=19∨i=20∨i=21 by omega) with rfl|rfl|rfl|rfl|rfl|rfl|rfl|rfl|rfl|rfl|rfl|rfl|rfl|rfl|rfl|rfl|rfl|rfl|rfl|rfl|rfl|rfl<;>first|exact .inl ⟨by decide,by decide,by decide⟩|exact .inr ⟨by decide,by decide⟩
 ·obtain⟨h1,h2,-⟩:=no_words x h
  rw[h1]
  exact .inr ⟨by decide,h2⟩
theorem lk_cmd (x:List UInt8):(Fn.isCmd (lk x)=true∧cls x=119∧((x=wIf∧lk x=2)∨(x=wRepeat∧lk x=3)∨(x=wSet∧lk x=11)∨((x==wIf)=false∧(x==wRepeat)=false∧(x==wSet)=false∧cmdK x=lk x∧(lk x=4∨lk x=5∨lk x=6∨lk x=7∨lk x=8∨lk x=9∨lk x=10))))∨(Fn.isCmd (lk x)=false∧(x==wIf)=false∧(x==wRepeat)=false∧(x==wSet)=false∧cmdK x=0):=by
 rcases lk_cases x with ⟨i,hi,rfl⟩|h
 ·rcases (show i=0∨i=1∨i=2∨i=3∨i=4∨i=5∨i=6∨i=7∨i=8∨i=9∨i=10∨i=11∨i=12∨i=13∨i=14∨i=15∨i=16∨i=17∨i=18∨i=19∨i=20∨i=21 by omega) with rfl|rfl|rfl|rfl|rfl|rfl|rfl|rfl|rfl|rfl|rfl|rfl|rfl|rfl|rfl|rfl|rfl|rfl|rfl|rfl|rfl|rfl<;>first|exact .inl ⟨by decide,by decide,by decide⟩|exact .inr ⟨by decide,by decide,by decide,by decide,by decide⟩
 ·obtain⟨h1,-,h2,h3,h4,h5⟩:=no_words x h
  rw[h1]
  exact .inr ⟨by decide,h3,h4,h5,h2⟩
theorem Cur.word {l:List UInt8} {T:List Tk} {n kd:Nat} {x:List UInt8} {a:Nat} (h:Cur l T n kd x a):((kd==1)=true∧cls x=119→kind T n=119∧text T n=x)∧(kind T n=119→kd=1∧text T n=x):=by
 refine⟨fun ⟨h1,h2⟩=>?_,fun hk=>?_⟩
 ·obtain rfl:kd=1:=by simpa using h1
  rcases h.kinds with ⟨e,-⟩|⟨-,k1,k2⟩|⟨e,-⟩|⟨e,-⟩
  ·cases e
  ·exact⟨k1.trans h2,k2 (by rw[h2];decide)⟩
  ·cases e
  ·cases e
 ·rcases h.kinds with ⟨-,k1,-⟩|⟨e,k1,k2⟩|⟨-,k1,-⟩|⟨-,k1,-⟩
  ·rw[k1] at hk;cases hk
  ·exact⟨e,k2 (by rw[← k1,hk];decide)⟩
  ·rw[k1] at hk;cases hk
  ·rw[k1] at hk;cases hk
theorem Cur.tst {l:List UInt8} {T:List Tk} {n kd:Nat} {x:List UInt8} {a:Nat} (h:Cur l T n kd x a):((kd==1 && Fn.isTest (lk x))=true→kind T n=119∧text T n=x∧tstK x=lk x∧tstK x≠0)∧((kd==1 && Fn.isTest (lk x))=false→kind T n≠119∨tstK (text T n)=0):=by
 refine⟨fun hy=>?_,fun hn=>?_⟩
 ·rw[Bool.and_eq_true] at hy
  rcases lk_tst x with ⟨h1,h2,h3⟩|⟨h1,-⟩
  ·obtain⟨k1,k2⟩:=h.word.1 ⟨hy.1,h3⟩
   refine⟨k1,k2,h2,fun e=>?_⟩
   rw[← h2,e] at h1
   exact absurd h1 (by decide)
  ·rw[h1] at hy;exact absurd hy.2 (by decide)
 ·by_cases hk:kind T n=119
  ·obtain⟨rfl,e⟩:=h.word.2 hk
   rcases lk_tst x with ⟨h1,-⟩|⟨-,h2⟩
   ·rw[h1] at hn;exact absurd hn (by decide)
   ·exact .inr (by rw[e];exact h2)
  ·exact .inl hk
theorem Cur.cmd {l:List UInt8} {T:List Tk} {n kd:Nat} {x:List UInt8} {a:Nat} (h:Cur l T n kd x a):((kd==1 && Fn.isCmd (lk x))=true→kind T n=119∧text T n=x∧((x=wIf∧lk x=2)∨(x=wRepeat∧lk x=3)∨(x=wSet∧lk x=11)∨((x==wIf)=false∧(x==wRepeat)=false∧(x==wSet)=false∧cmdK x=lk x∧(lk x=4∨lk x=5∨lk x=6∨lk x=7∨lk x=8∨lk x=9∨lk x=10))))∧((kd==1 && Fn.isCmd (lk x))=false→kind T n≠119∨(is T n 119 wIf=false∧is T n 119 wRepeat=false∧is T n 119 wSet=false∧cmdK (text T n)=0)):=by
 refine⟨fun hy=>?_,fun hn=>?_⟩
 ·rw[Bool.and_eq_true] at hy
  rcases lk_cmd x with ⟨-,h2,h3⟩|⟨h1,-⟩
  ·obtain⟨k1,k2⟩:=h.word.1 ⟨hy.1,h2⟩
   exact⟨k1,k2,h3⟩
  ·rw[h1] at hy;exact absurd hy.2 (by decide)
 ·by_cases hk:kind T n=119
  ·obtain⟨rfl,e⟩:=h.word.2 hk
   rcases lk_cmd x with ⟨h1,-⟩|⟨-,h2,h3,h4,h5⟩
   ·rw[h1] at hn;exact absurd hn (by decide)
   ·unfold is
    rw[hk,e]
    exact .inr ⟨by simpa using h2,by simpa using h3,by simpa using h4,h5⟩
  ·exact .inl hk
def Kx (T:List Tk)(P:Nat→List Nd→Out):Prop:=∀j N,kind T j=120→P j N=.bad j
section
variable {T:List Tk} {t c:Nat→List Nd→Out}
theorem cmds_x (hC:Kx T c) {j:Nat} (h:kind T j=120)(f:Nat)(N:List Nd)(ks:List Int):cmds T c f j N ks=.bad j:=by
 cases f with
 | zero=>rfl
 | succ f=>rw[cmds,is_x h 112 (by decide),hC j N h];rfl
theorem all_x (hC:Kx T c) {j:Nat} (h:kind T j=120)(f:Nat)(N:List Nd)(ks:List Int):all T c f j N ks=.bad j:=by
 cases f with
 | zero=>rfl
 | succ f=>rw[all,h,hC j N h];rfl
theorem tsts_x {j:Nat} (h:kind T j=120)(f:Nat)(N:List Nd)(ks:List Int):tsts T t f j N ks=.bad j:=by
 cases f with
 | zero=>rfl
 | succ f=>rw[tsts,is_x h 112 (by decide),is_x h 112 (by decide)];rfl
theorem blk_x (c:Nat→List Nd→Out):Kx T (blk T c):=fun j N h=>by unfold blk;rw[is_x h 112 (by decide)];rfl
theorem tst_x (t:Nat→List Nd→Out):Kx T (tst T t):=fun j N h=>tst_no T t j N (.inl (by rw[h];decide))
theorem cmd_x (t c:Nat→List Nd→Out):Kx T (cmd T t c):=fun j N h=>cmd_no T t c j N (.inl (by rw[h];decide))
theorem lv_x (T:List Tk):∀f,Kx T (lv T f).1∧Kx T (lv T f).2
 | 0=>⟨fun _ _ _=>rfl,fun _ _ _=>rfl⟩
 | _+1=>⟨tst_x _,cmd_x _ _⟩
theorem cho_x (ht:Kx T t):∀f,Kx T (cho T t c f)
 | 0=>fun _ _ _=>rfl
 | f+1=>fun j N h=>by rw[cho,ht j N h]
theorem txts_x {j:Nat} (h:kind T j=120):txts T j=.bad j:=by
 unfold txts
 rw[is_x h 112 (by decide),h]
 rfl
theorem match_x {j:Nat} (h:kind T j=120):matchOf T j=none:=by
 unfold matchOf
 rw[is_x h 58 (by decide),is_x h 58 (by decide),is_x h 58 (by decide)]
 rfl
end
end Rf
theorem wp_appNat {w:World} {ops:Array Oper} {rest:List Oper} {o:Oper} {a:Act} {Q:Exit→Act→World→Prop} (hgd:o.guard=none)(s x:Operand)
  (ho:o.op=.call { callee:=.builtin .append,args:=#[s,x],argTypes:=#[27,27] })
  (B:Nat) (v:Value) (C:List Int) (hs:a.eval s=v) (hown:OwnN B v C w) (u:Int)
  (c:Nat) (hx:a.eval x=.slice (some ⟨w.heap.size,0,none⟩) 1 c) (hlen:C.length≤1000000) (hB:B≤w.heap.size)
  (h:∀v' w',OwnN B v' (C ++ [u]) w'→(w.alloc (.cells #[.int .i64 u] 2)).grownBy w' v.ownBlock→Nw (w.alloc (.cells #[.int .i64 u] 2)) v v'→wpList Tryz.prog ops Q rest (a.put o.dst v') w'):wpList Tryz.prog ops Q (o::rest) a (w.alloc (.cells #[.int .i64 u] 2)):=by
 obtain⟨i0,hi0,hz0,hz1,hz2⟩:=info_parts Tryz.info2
 unfold OwnN at hown
 refine wpList_append_own_at _ hgd s x 27 ho B 2 i0 (.int .i64 0) 1 8 Tryz.underlying27 hi0 hz0 hz1 hz2 rfl (by decide) v C.length (numCells C) hs (World.ownsRow.alloc hown _) ⟨w.heap.size,0,none⟩ 1 c [.int .i64 u] hx
  rfl ?_ ?_ (by unfold maxLen;omega) (by omega) (by simp;omega) ?_
 ·intro j y hj
  rw[add_off]
  match j,hj with
  | 0,hj=>simp at hj;subst hj;simp
 ·intro y hy
  simp at hy
  subst hy
  rfl
 ·intro v' w' h1 h2 _ h4
  refine h v' w' ?_ h2 (h4.imp id fun e=>⟨_,Nat.le_refl _,e⟩)
  unfold OwnN numCells
  rw[List.map_append,List.length_append]
  exact h1
theorem prBlock (g:Nat)(s:ByteArray)(l:List UInt8)(T:List Rf.Tk)(f:Nat)(C:Nat→List Nd→Rf.Out)(hl:s.data.toList=l)(hs:s.size≤100000)(hT:T.length≤30000)(hX:Rf.Kx T C)(hC:PrC 148 g s l T f C) :
  PrC 179 g s l T f (Rf.blk T C):=by
 intro n kd x a v E w h hG hf hE
 have kS:=mkHid (prSign h hl hs [123] (by decide) (by decide))
 rw[show Rf.cls [123]=112 from rfl] at kS
 have F0:=mkHid (Pf.start h hG)
 have HC:=mkHid hC
 have HX:=mkHid hX
 obtain⟨R,hR⟩:∃R,Rf.blk T C n (E.map (·.1))=R:=⟨_,rfl⟩
 rw[hR]
 replace hR:=mkHid hR
 clear h hC hX hG
 go_enter Tryz.func179,Tryz.ntmps179
 go_wp2_with (go_at_call 183;fail)
 refine kS.out.mono ?_
 rintro e w1 ⟨e1,⟨h0,rfl⟩|⟨h0,⟨kd',x',a',rfl,h1⟩|hx⟩⟩
 ·refine⟨rfl,e1.weak,PrO.bad ?_⟩
  rw[← hR.out,Rf.blk,if_neg (Bool.eq_false_iff.1 h0)]
 ·have hR1:Rf.blkEnd (Rf.cmds T C T.length (n+1) (E.map (·.1)) [])=R:=by rw[← Rf.blk_yes T C n _ h0];exact hR.out
  have hlt:=h1.cur.lt
  have S0:Hid (∃(m F:Nat) (A:List NdE) (ks:List Int) (v':Value),T.length-m≤T.length∧T.length≤m+F∧m<T.length∧n<m∧ks.length≤m∧A.length+3*n+3≤3*m∧Rf.blkEnd (Rf.cmds T C F m ((E++A).map (·.1)) ks)=R∧Pf g s l T v E w [] [] ks (.slice none 0 0) (.slice none 0 0) (.slice none 0 0) m v' A w1):=
   ⟨n+1,T.length,[],[],v,by omega,by omega,hlt,by omega,by simp,by simp;omega,by rw[List.append_nil];exact hR1,F0.out.small (by rw[List.append_nil];exact h1) e1⟩
  clear h0 h1 e1 kS hR1 hlt hR F0
  go_wp2
  go_loopg [3] (T.length) (fun q ov wr=>∃ (m F:Nat) (A:List NdE) (ks:List Int) (v':Value),T.length-m≤q∧T.length≤m+F∧m<T.length∧n<m∧ks.length≤m∧A.length+3*n+3≤3*m∧Rf.blkEnd (Rf.cmds T C F m ((E++A).map (·.1)) ks)=R∧Pf g s l T v E w [] [] ks (.slice none 0 0) (.slice none 0 0) ov m v' A wr)
  case atStart=>exact S0.out
  case round=>
   clear S0
   obtain⟨m,F,A,ks,v',hq,hmF,hmT,hnm,hkm,hAm,hRm,hP⟩:=hrel
   obtain⟨o,cap,hsh⟩:=own_shape hP.od
   subst hsh
   obtain⟨F,rfl⟩:∃F',F=F'+1:=⟨F-1,by omega⟩
   obtain⟨kd1,x1,a1,hp⟩:=hP.ps
   have kT:=mkHid (prTakes hp hl hs [125] (by decide) (by decide))
   rw[show Rf.cls [125]=112 from rfl] at kT
   have HP:=mkHid hP
   have HR:=mkHid hRm
   clear hRm hP hp
   go_wp2_with (go_at_call 204;fail)
   refine kT.out.mono ?_
   rintro e w2 ⟨e2,⟨h0,rfl,h2⟩|⟨h0,⟨kd2,x2,a2,rfl,h2⟩|hx⟩⟩
   ·replace HP:=mkHid (HP.out.small h2 e2)
    have kC:=mkHid (HC.out m _ _ _ v' (E++A) w2 h2 HP.out.gl (by omega) (by rw[List.length_append];omega))
    obtain⟨Z,hZ⟩:∃Z,C m ((E++A).map (·.1))=Z:=⟨_,rfl⟩
    have hR2:=HR.out
    rw[Rf.cmds,if_neg (Bool.eq_false_iff.1 h0),hZ] at hR2
    rw[hZ] at kC
    replace hR2:=mkHid hR2
    clear h0 h2 e2 kT HR hZ
    go_wp2_with (go_at_call 148;fail)
    refine kC.out.mono ?_
    rintro e w3 ⟨e3,h3⟩
    clear kC
    cases Z with
    | bad j=>
     obtain rfl:e=_:=h3
     exact⟨rfl,HP.out.ef.trans HP.out.nw e3,PrO.bad (by rw[← hR2.out];rfl)⟩
    | ok j N=>
     rcases h3 with ⟨A1,v1,rfl,hN,hp3⟩|hx
     ·have hcn:=hp3.cnt
      have hR3:Rf.blkEnd (Rf.cmds T C F j N (ks ++ [Rf.last N]))=R:=hR2.out
      obtain⟨z,hz⟩:∃z,Rf.last N=z:=⟨_,rfl⟩
      rw[hz] at hR3 ⊢
      rw[hN,List.append_assoc] at hR3
      replace hR3:=mkHid hR3
      obtain⟨kd4,x4,a4,hp4⟩:=hp3.ps
      have hjT:=hp4.cur.lt
      replace HP:=mkHid (HP.out.call e3 hp3)
      clear hN hz hp3 hp4 e3 hR2
      go_wp2_with (at_builtin;go_must (refine wp_appNat rfl _ _ rfl w.heap.size (.slice o ks.length cap) ks rfl HP.out.od z 1 rfl (by omega) HP.out.ef.size ?_;intro v4 w4 ho4 hg4 hn4;refine Hid.out ?_))
      refine mkHid ?_
      have HQ:=mkHid (HP.out.kid ho4 hg4 hn4)
      clear ho4 hg4 hn4 HP
      go_wp2
      go_roundg (T.length-j)
      case measure=>omega
      case rel=>exact⟨j,F,A++A1,ks ++ [z],v1,by omega,by omega,hjT,by omega,by simp;omega,by simp;omega,hR3.out,HQ.out⟩
     ·obtain⟨m1,m2,rfl⟩:=hx
      refine⟨rfl,HP.out.ef.trans HP.out.nw e3,PrO.ofX ⟨m1,m2,rfl⟩ ?_⟩
      rw[← hR2.out]
      show Rf.blkEnd (Rf.cmds T C F j N _)=_
      rw[Rf.cmds_x HX.out m2]
      rfl
   ·have hR2:=HR.out
    rw[Rf.cmds,if_pos h0] at hR2
    replace HP:=mkHid (HP.out.small h2 e2)
    have kA:=mkHid (HP.out.add { Rf.zn 1 with kids:=ks } rfl rfl rfl (by rw[List.length_append];omega))
    replace hR2:=mkHid hR2.symm
    clear kT h0 h2 e2 HR
    unfold ndV Rf.zn at kA
    dsimp only at kA
    go_wp2_with (go_at_call 149;fail)
    refine kA.out.mono ?_
    rintro e w3 ⟨rfl,v2,A2,hA2,e3,n3,p3,f3,f4⟩
    obtain⟨y,hy⟩:∃y:Int,((E++A).length:Int)=y:=⟨_,rfl⟩
    have hfin:Hid (Ef g v.ownBlock w w3∧PrO g s l T n v E w R (.returned (.int .i64 y)) w3):=by rw[← hy];exact⟨e3,PrO.added hA2.out hR2.out n3 p3 f3 f4 (by omega)⟩
    rw[hy]
    clear hy
    clear hA2 e3 n3 p3 f3 f4 kA HP hR2
    go_wp2
    go_ret
    exact hfin.out
   ·obtain⟨m1,m2,rfl⟩:=hx
    have hR2:=HR.out
    rw[Rf.cmds,if_pos h0] at hR2
    exact⟨rfl,HP.out.ef.trans HP.out.nw e2.weak,PrO.ofX2 ⟨m1,m2,rfl⟩ hR2.symm⟩
 ·obtain⟨m1,m2,rfl⟩:=hx
  refine⟨rfl,e1.weak,PrO.ofX ⟨m1,m2,rfl⟩ ?_⟩
  rw[← hR.out,Rf.blk_yes T C n _ h0,Rf.cmds_x HX.out m2]
  rfl
def Rf.lst (T:List Rf.Tk)(t:Nat→List Nd→Rf.Out):Rf.Out→Rf.KO
 | .ok i N=>Rf.tsts T t T.length i N [Rf.last N]
 | .bad j=>.bad j
def KoO (g:Nat)(s:ByteArray)(l:List UInt8)(T:List Rf.Tk)(n:Nat)(v:Value)(E:List NdE)(w:World)(R:Rf.KO)(e:Ending)(w':World):Prop:=
 match R with
 | .ok j N ks=>(∃A v' o c,e=.returned (.slice o ks.length c)∧N=(E++A).map (·.1)∧A.length+3*n+2≤3*j∧Pf g s l T v E w [] [] ks (.slice none 0 0) (.slice none 0 0) (.slice o ks.length c) j v' A w')∨Xf T j e
 | .bad j=>e=faultAt (Rf.pos T j)
section
variable {g:Nat} {s:ByteArray} {l:List UInt8} {T:List Rf.Tk} {v:Value} {E:List NdE} {w w':World} {n m:Nat} {R:Rf.KO} {e:Ending}
theorem KoO.ofX (hx:Xf T m e)(hR:R=.bad m):KoO g s l T n v E w R e w':=by
 rw[hR];exact hx.2.2
theorem KoO.bad (hR:R=.bad m):KoO g s l T n v E w R (faultAt (Rf.pos T m)) w':=by
 rw[hR];exact rfl
end
theorem prListN (g:Nat)(s:ByteArray)(l:List UInt8)(T:List Rf.Tk)(f:Nat)(t:Nat→List Nd→Rf.Out)(hl:s.data.toList=l)(hs:s.size≤100000)(hT:T.length≤30000)(hX:Rf.Kx T t)(hC:PrC 203 g s l T f t)
  (n kd:Nat) (x:List UInt8) (a:Nat) (v:Value) (E:List NdE) (w:World) (h:Ps g s l T n kd x a v E w) (hG:Gl g w) (hf:T.length≤n+f) (hE:E.length≤3*n+5) :
  Calls Tryz.prog 223 #[scp g,.string ⟨#[41]⟩,.func (.func 203) #[scp g] #[]] w fun e w'=>Ef g v.ownBlock w w'∧KoO g s l T n v E w (Rf.lst T t (t n (E.map (·.1)))) e w':=by
 have k0:=mkHid (hC n kd x a v E w h hG hf hE)
 have F0:=mkHid (Pf.start h hG)
 have HC:=mkHid hC
 have HX:=mkHid hX
 have hEn:∀(args:Array Value) (w:World),(callFunc 203 args).run Tryz.prog w=.ok (.enter 203 args) w:=Go.Proofs.enters_of Tryz.func203 (by kernel_rfl) rfl
 obtain⟨Z,hZ⟩:∃Z,t n (E.map (·.1))=Z:=⟨_,rfl⟩
 rw[hZ] at k0 ⊢
 obtain⟨R,hR⟩:∃R,Rf.lst T t Z=R:=⟨_,rfl⟩
 rw[hR]
 replace hR:=mkHid hR
 clear h hC hX hG hZ
 go_enter Tryz.func223,Tryz.ntmps223
 go_wp2_with (go_at_call 203;fail)
 refine k0.out.mono ?_
 rintro e w1 ⟨e1,h1⟩
 clear k0
 cases Z with
 | bad j=>
  obtain rfl:e=_:=h1
  exact⟨rfl,e1,KoO.bad (by rw[← hR.out];rfl)⟩
 | ok j N=>
  rcases h1 with ⟨A1,v1,rfl,hN,hp1⟩|hx
  ·have hcn:=hp1.cnt
   have hR1:Rf.tsts T t T.length j N [Rf.last N]=R:=hR.out
   obtain⟨z,hz⟩:∃z,Rf.last N=z:=⟨_,rfl⟩
   rw[hz] at hR1 ⊢
   rw[hN] at hR1
   obtain⟨kd4,x4,a4,hp4⟩:=hp1.ps
   have hjT:=hp4.cur.lt
   have F1:=F0.out.call (A:=[]) e1 (by rw[List.append_nil];exact hp1)
   obtain⟨W2,hW2⟩:∃W2,w1.alloc (.cells #[.int .i64 z] 2)=W2:=⟨_,rfl⟩
   have b2:Below w1.heap.size w1 W2:=by rw[← hW2];exact(Below.refl _ _).alloc (Nat.le_refl _) _
   have hO:OwnN w1.heap.size (.slice (some ⟨w1.heap.size,0,none⟩) 1 1) [z] W2:=by rw[← hW2];exact⟨rfl,.inr ⟨w1.heap.size,1,_,rfl,Nat.le_refl _,heap_alloc_at _ _,Nat.le_refl _,by unfold maxLen;omega,rfl,rfl⟩⟩
   have S0:Hid (∃(m F:Nat) (A:List NdE) (ks:List Int) (v':Value),T.length-m≤T.length∧T.length≤m+F∧m<T.length∧n<m∧ks.length≤m∧A.length+3*n+1≤3*m∧Rf.tsts T t F m ((E++A).map (·.1)) ks=R∧Pf g s l T v E w [] [] ks (.slice none 0 0) (.slice none 0 0) (.slice (some ⟨w1.heap.size,0,none⟩) 1 1) m v' A W2):=
    ⟨j,T.length,A1,[z],v1,by omega,by omega,hjT,by omega,by simp;omega,by omega,hR1,F1.kids b2 hO⟩
   have HW2:=mkHid hW2
   clear hN hz hp1 hp4 e1 hR hR1 F1 b2 hO hW2 F0 hcn hjT
   go_wp2
   rw[HW2.out]
   clear HW2
   go_loopg [7] (T.length) (fun q ov wr=>∃ (m F:Nat) (A:List NdE) (ks:List Int) (v':Value),T.length-m≤q∧T.length≤m+F∧m<T.length∧n<m∧ks.length≤m∧A.length+3*n+1≤3*m∧Rf.tsts T t F m ((E++A).map (·.1)) ks=R∧Pf g s l T v E w [] [] ks (.slice none 0 0) (.slice none 0 0) ov m v' A wr)
   case atStart=>exact S0.out
   case round=>
    clear S0
    obtain⟨m,F,A,ks,v',hq,hmF,hmT,hnm,hkm,hAm,hRm,hP⟩:=hrel
    obtain⟨o,cap,hsh⟩:=own_shape hP.od
    subst hsh
    obtain⟨F,rfl⟩:∃F',F=F'+1:=⟨F-1,by omega⟩
    obtain⟨kd1,x1,a1,hp⟩:=hP.ps
    have kT:=mkHid (prTakes hp hl hs [44] (by decide) (by decide))
    rw[show Rf.cls [44]=112 from rfl] at kT
    have HP:=mkHid hP
    have HR:=mkHid hRm
    clear hRm hP hp
    go_wp2_with (go_at_call 204;fail)
    refine kT.out.mono ?_
    rintro e w2 ⟨e2,⟨h0,rfl,h2⟩|⟨h0,⟨kd2,x2,a2,rfl,h2⟩|hx⟩⟩
    ·have hR2:=HR.out
     rw[Rf.tsts,if_neg (Bool.eq_false_iff.1 h0)] at hR2
     have kG:=mkHid (prSign h2 hl hs [41] (by decide) (by decide))
     rw[show Rf.cls [41]=112 from rfl] at kG
     replace HP:=mkHid (HP.out.small h2 e2)
     replace hR2:=mkHid hR2
     clear kT h0 h2 e2 HR
     go_wp2_with (go_at_call 183;fail)
     refine kG.out.mono ?_
     rintro e w3 ⟨e3,⟨h0,rfl⟩|⟨h0,⟨kd3,x3,a3,rfl,h3⟩|hx⟩⟩
     ·refine⟨rfl,HP.out.ef.trans HP.out.nw e3.weak,KoO.bad ?_⟩
      rw[← hR2.out,if_neg (Bool.eq_false_iff.1 h0)]
     ·have hfin:Hid (Ef g v.ownBlock w w3∧KoO g s l T n v E w R (.returned (.slice o ks.length cap)) w3):=by
       have hQ:=HP.out.small h3 e3
       refine⟨hQ.ef,?_⟩
       rw[← hR2.out,if_pos h0]
       exact .inl ⟨A,v',o,cap,rfl,rfl,by omega,hQ⟩
      clear kG h0 h3 e3 hR2 HP
      go_wp2
      go_ret
      exact hfin.out
     ·obtain⟨m1,m2,rfl⟩:=hx
      refine⟨rfl,HP.out.ef.trans HP.out.nw e3.weak,?_⟩
      rw[← hR2.out,if_pos h0]
      exact .inr ⟨m1,m2,rfl⟩
    ·replace HP:=mkHid (HP.out.small h2 e2)
     have hm2:=h2.cur.lt
     have kC:=mkHid (HC.out (m+1) _ _ _ v' (E++A) w2 h2 HP.out.gl (by omega) (by rw[List.length_append];omega))
     obtain⟨Z,hZ⟩:∃Z,t (m+1) ((E++A).map (·.1))=Z:=⟨_,rfl⟩
     have hR2:=HR.out
     rw[Rf.tsts,if_pos h0,hZ] at hR2
     rw[hZ] at kC
     replace hR2:=mkHid hR2
     clear h0 h2 e2 kT HR hZ
     go_wp2_with (go_at_call 203;fail)
     refine kC.out.mono ?_
     rintro e w3 ⟨e3,h3⟩
     clear kC
     cases Z with
     | bad j=>
      obtain rfl:e=_:=h3
      exact⟨rfl,HP.out.ef.trans HP.out.nw e3,KoO.bad (by rw[← hR2.out])⟩
     | ok j N=>
      rcases h3 with ⟨A1,v1,rfl,hN,hp3⟩|hx
      ·have hcn:=hp3.cnt
       have hR3:Rf.tsts T t F j N (ks ++ [Rf.last N])=R:=hR2.out
       obtain⟨z,hz⟩:∃z,Rf.last N=z:=⟨_,rfl⟩
       rw[hz] at hR3 ⊢
       rw[hN,List.append_assoc] at hR3
       replace hR3:=mkHid hR3
       obtain⟨kd4,x4,a4,hp4⟩:=hp3.ps
       have hjT:=hp4.cur.lt
       replace HP:=mkHid (HP.out.call e3 hp3)
       clear hN hz hp3 hp4 e3 hR2
       go_wp2_with (at_builtin;go_must (refine wp_appNat rfl _ _ rfl w.heap.size (.slice o ks.length cap) ks rfl HP.out.od z 1 rfl (by omega) HP.out.ef.size ?_;intro v4 w4 ho4 hg4 hn4;refine Hid.out ?_))
       refine mkHid ?_
       have HQ:=mkHid (HP.out.kid ho4 hg4 hn4)
       clear ho4 hg4 hn4 HP
       go_wp2
       go_roundg (T.length-j)
       case measure=>omega
       case rel=>exact⟨j,F,A++A1,ks ++ [z],v1,by omega,by omega,hjT,by omega,by simp;omega,by simp;omega,hR3.out,HQ.out⟩
      ·obtain⟨m1,m2,rfl⟩:=hx
       refine⟨rfl,HP.out.ef.trans HP.out.nw e3,KoO.ofX ⟨m1,m2,rfl⟩ ?_⟩
       rw[← hR2.out]
       show Rf.tsts T t F j N _=_
       rw[Rf.tsts_x m2]
    ·obtain⟨m1,m2,rfl⟩:=hx
     refine⟨rfl,HP.out.ef.trans HP.out.nw e2.weak,KoO.ofX ⟨m1,m2,rfl⟩ ?_⟩
     rw[← HR.out,Rf.tsts,if_pos h0,HX.out _ _ m2]
  ·obtain⟨m1,m2,rfl⟩:=hx
   refine⟨rfl,e1,KoO.ofX ⟨m1,m2,rfl⟩ ?_⟩
   rw[← hR.out]
   show Rf.tsts T t _ j N _=_
   rw[Rf.tsts_x m2]
theorem prTest20 (g:Nat)(s:ByteArray)(l:List UInt8)(T:List Rf.Tk)(f:Nat)(t:Nat→List Nd→Rf.Out)(hl:s.data.toList=l)(hs:s.size≤100000)(hT:T.length≤30000)(hXt:Rf.Kx T t)(hTst:PrC 203 g s l T f t)(hGT:GoodT T)(n kd:Nat)(x:List UInt8)(a:Nat)(v:Value)(E:List NdE)(w:World)(h:Ps g s l T n kd x a v E w)(hG:Gl g w)(hf:T.length≤n+(f+1))(hE:E.length≤3*n+5)(hw:(kd==1 && Fn.isTest (Rf.lk x))=true)(hk:Rf.lk x=20) :
  Calls Tryz.prog 203 #[scp g] w fun e w'=>Ef g v.ownBlock w w'∧PrO g s l T n v E w (Rf.tst T t n (E.map (·.1))) e w':=by
 obtain⟨q1,q2,q3,-⟩:=h.cur.tst.1 hw
 obtain⟨R,hR⟩:∃R,Rf.tst T t n (E.map (·.1))=R:=⟨_,rfl⟩
 rw[hR]
 rw[Rf.tst_20 T t n (E.map (·.1)) q1 (by rw[q2,q3,hk])] at hR
 have kK:=mkHid (prKind kindTst h hl hs hG.ft (fun _=>by rw[q1];exact⟨by decide,by decide⟩))
 rw[hw,hk] at kK
 have F0:=mkHid (Pf.start h hG)
 have hgl:=h.sc.lt
 have HR:=mkHid hR
 have HT:=mkHid hTst
 have HX:=mkHid hXt
 have HG:=mkHid hGT
 have _hf:=hf
 clear h hG q1 q2 q3 hw hk hR hTst hXt hGT
 go_enter Tryz.func203,Tryz.ntmps203
 go_wp2_with (go_at_call 175;fail)
 refine kK.out.mono ?_
 rintro e w1 ⟨e1,⟨h0,-⟩|⟨-,⟨kd1,x1,a1,rfl,h1⟩|hx⟩⟩
 ·cases h0
 ·obtain⟨B,hB⟩:∃B,w1.heap.size=B:=⟨_,rfl⟩
  obtain⟨W0,hW0⟩:∃W0,w1.alloc (.cells #[.int .i64 20,.int .i64 0,.int .i64 0,.string ⟨#[]⟩,.slice none 0 0,.slice none 0 0,.slice none 0 0] 109)=W0:=⟨_,rfl⟩
  have b0:Below w1.heap.size w1 W0:=by rw[← hW0];exact(Below.refl _ _).alloc (Nat.le_refl _) _
  have F2:=mkHid ((F0.out.small (by rw[List.append_nil];exact h1) e1).below b0)
  have P0:Hid (Pb w B #[.int .i64 20,.int .i64 0,.int .i64 0,.string ⟨#[]⟩,.slice none 0 0,.slice none 0 0,.slice none 0 0] v W0):=by show Pb w B _ v W0;rw[← hW0,← hB];exact Pb.new h1 e1.size
  obtain⟨kd0,x0,a0,p0⟩:=F2.out.ps
  have hn1:=p0.cur.lt
  have HW0:=mkHid hW0
  have HB:=mkHid hB
  have HP0:=mkHid p0
  clear h1 e1 b0 hB hW0 kK F0 p0
  have kA:=mkHid (F2.out.add (Rf.zn 20) rfl rfl rfl (by rw[List.length_append];first|omega|(simp;omega)))
  have hRR:Hid (R=.ok (n+1) ((E++([]:List NdE)).map (·.1) ++ [(Rf.zn 20)])):=by show R=_;rw[← HR.out,List.append_nil]
  clear HR F2
  unfold ndV Rf.zn at kA
  dsimp only at kA
  go_wp2_with (go_at_call 149;fail)
  rw[HW0.out,HB.out]
  refine kA.out.mono ?_
  rintro e w9 ⟨rfl,v9,A9,hA9,e9,n9,p9,f9,g9⟩
  obtain⟨y,hy⟩:∃y:Int,((E++([]:List NdE)).length:Int)=y:=⟨_,rfl⟩
  have hfin:Hid (Ef g v.ownBlock w w9∧PrO g s l T n v E w R (.returned (.int .i64 y)) w9):=by rw[← hy];exact⟨e9,PrO.added hA9.out hRR.out n9 p9 f9 g9 (by first|omega|(simp;omega))⟩
  rw[hy]
  clear hA9 e9 n9 p9 f9 g9 kA hRR hy
  skip
  go_wp2
  go_ret
  exact hfin.out
 ·obtain⟨m1,m2,rfl⟩:=hx
  refine⟨rfl,e1.weak,?_⟩
  exact PrO.ofX2 ⟨m1,m2,rfl⟩ HR.out.symm
theorem prTest21 (g:Nat)(s:ByteArray)(l:List UInt8)(T:List Rf.Tk)(f:Nat)(t:Nat→List Nd→Rf.Out)(hl:s.data.toList=l)(hs:s.size≤100000)(hT:T.length≤30000)(hXt:Rf.Kx T t)(hTst:PrC 203 g s l T f t)(hGT:GoodT T)(n kd:Nat)(x:List UInt8)(a:Nat)(v:Value)(E:List NdE)(w:World)(h:Ps g s l T n kd x a v E w)(hG:Gl g w)(hf:T.length≤n+(f+1))(hE:E.length≤3*n+5)(hw:(kd==1 && Fn.isTest (Rf.lk x))=true)(hk:Rf.lk x=21) :
  Calls Tryz.prog 203 #[scp g] w fun e w'=>Ef g v.ownBlock w w'∧PrO g s l T n v E w (Rf.tst T t n (E.map (·.1))) e w':=by
 obtain⟨q1,q2,q3,-⟩:=h.cur.tst.1 hw
 obtain⟨R,hR⟩:∃R,Rf.tst T t n (E.map (·.1))=R:=⟨_,rfl⟩
 rw[hR]
 rw[Rf.tst_21 T t n (E.map (·.1)) q1 (by rw[q2,q3,hk])] at hR
 have kK:=mkHid (prKind kindTst h hl hs hG.ft (fun _=>by rw[q1];exact⟨by decide,by decide⟩))
 rw[hw,hk] at kK
 have F0:=mkHid (Pf.start h hG)
 have hgl:=h.sc.lt
 have HR:=mkHid hR
 have HT:=mkHid hTst
 have HX:=mkHid hXt
 have HG:=mkHid hGT
 have _hf:=hf
 clear h hG q1 q2 q3 hw hk hR hTst hXt hGT
 go_enter Tryz.func203,Tryz.ntmps203
 go_wp2_with (go_at_call 175;fail)
 refine kK.out.mono ?_
 rintro e w1 ⟨e1,⟨h0,-⟩|⟨-,⟨kd1,x1,a1,rfl,h1⟩|hx⟩⟩
 ·cases h0
 ·obtain⟨B,hB⟩:∃B,w1.heap.size=B:=⟨_,rfl⟩
  obtain⟨W0,hW0⟩:∃W0,w1.alloc (.cells #[.int .i64 21,.int .i64 0,.int .i64 0,.string ⟨#[]⟩,.slice none 0 0,.slice none 0 0,.slice none 0 0] 109)=W0:=⟨_,rfl⟩
  have b0:Below w1.heap.size w1 W0:=by rw[← hW0];exact(Below.refl _ _).alloc (Nat.le_refl _) _
  have F2:=mkHid ((F0.out.small (by rw[List.append_nil];exact h1) e1).below b0)
  have P0:Hid (Pb w B #[.int .i64 21,.int .i64 0,.int .i64 0,.string ⟨#[]⟩,.slice none 0 0,.slice none 0 0,.slice none 0 0] v W0):=by show Pb w B _ v W0;rw[← hW0,← hB];exact Pb.new h1 e1.size
  obtain⟨kd0,x0,a0,p0⟩:=F2.out.ps
  have hn1:=p0.cur.lt
  have HW0:=mkHid hW0
  have HB:=mkHid hB
  have HP0:=mkHid p0
  clear h1 e1 b0 hB hW0 kK F0 p0
  have kA:=mkHid (F2.out.add (Rf.zn 21) rfl rfl rfl (by rw[List.length_append];first|omega|(simp;omega)))
  have hRR:Hid (R=.ok (n+1) ((E++([]:List NdE)).map (·.1) ++ [(Rf.zn 21)])):=by show R=_;rw[← HR.out,List.append_nil]
  clear HR F2
  unfold ndV Rf.zn at kA
  dsimp only at kA
  go_wp2_with (go_at_call 149;fail)
  rw[HW0.out,HB.out]
  refine kA.out.mono ?_
  rintro e w9 ⟨rfl,v9,A9,hA9,e9,n9,p9,f9,g9⟩
  obtain⟨y,hy⟩:∃y:Int,((E++([]:List NdE)).length:Int)=y:=⟨_,rfl⟩
  have hfin:Hid (Ef g v.ownBlock w w9∧PrO g s l T n v E w R (.returned (.int .i64 y)) w9):=by rw[← hy];exact⟨e9,PrO.added hA9.out hRR.out n9 p9 f9 g9 (by first|omega|(simp;omega))⟩
  rw[hy]
  clear hA9 e9 n9 p9 f9 g9 kA hRR hy
  skip
  go_wp2
  go_ret
  exact hfin.out
 ·obtain⟨m1,m2,rfl⟩:=hx
  refine⟨rfl,e1.weak,?_⟩
  exact PrO.ofX2 ⟨m1,m2,rfl⟩ HR.out.symm
theorem prTest22 (g:Nat)(s:ByteArray)(l:List UInt8)(T:List Rf.Tk)(f:Nat)(t:Nat→List Nd→Rf.Out)(hl:s.data.toList=l)(hs:s.size≤100000)(hT:T.length≤30000)(hXt:Rf.Kx T t)(hTst:PrC 203 g s l T f t)(hGT:GoodT T)(n kd:Nat)(x:List UInt8)(a:Nat)(v:Value)(E:List NdE)(w:World)(h:Ps g s l T n kd x a v E w)(hG:Gl g w)(hf:T.length≤n+(f+1))(hE:E.length≤3*n+5)(hw:(kd==1 && Fn.isTest (Rf.lk x))=true)(hk:Rf.lk x=22) :
  Calls Tryz.prog 203 #[scp g] w fun e w'=>Ef g v.ownBlock w w'∧PrO g s l T n v E w (Rf.tst T t n (E.map (·.1))) e w':=by
 obtain⟨q1,q2,q3,-⟩:=h.cur.tst.1 hw
 obtain⟨R,hR⟩:∃R,Rf.tst T t n (E.map (·.1))=R:=⟨_,rfl⟩
 rw[hR]
 rw[Rf.tst_22 T t n (E.map (·.1)) q1 (by rw[q2,q3,hk])] at hR
 have kK:=mkHid (prKind kindTst h hl hs hG.ft (fun _=>by rw[q1];exact⟨by decide,by decide⟩))
 rw[hw,hk] at kK
 have F0:=mkHid (Pf.start h hG)
 have hgl:=h.sc.lt
 have HR:=mkHid hR
 have HT:=mkHid hTst
 have HX:=mkHid hXt
 have HG:=mkHid hGT
 have _hf:=hf
 clear h hG q1 q2 q3 hw hk hR hTst hXt hGT
 go_enter Tryz.func203,Tryz.ntmps203
 go_wp2_with (go_at_call 175;fail)
 refine kK.out.mono ?_
 rintro e w1 ⟨e1,⟨h0,-⟩|⟨-,⟨kd1,x1,a1,rfl,h1⟩|hx⟩⟩
 ·cases h0
 ·obtain⟨B,hB⟩:∃B,w1.heap.size=B:=⟨_,rfl⟩
  obtain⟨W0,hW0⟩:∃W0,w1.alloc (.cells #[.int .i64 22,.int .i64 0,.int .i64 0,.string ⟨#[]⟩,.slice none 0 0,.slice none 0 0,.slice none 0 0] 109)=W0:=⟨_,rfl⟩
  have b0:Below w1.heap.size w1 W0:=by rw[← hW0];exact(Below.refl _ _).alloc (Nat.le_refl _) _
  have F2:=mkHid ((F0.out.small (by rw[List.append_nil];exact h1) e1).below b0)
  have P0:Hid (Pb w B #[.int .i64 22,.int .i64 0,.int .i64 0,.string ⟨#[]⟩,.slice none 0 0,.slice none 0 0,.slice none 0 0] v W0):=by show Pb w B _ v W0;rw[← hW0,← hB];exact Pb.new h1 e1.size
  obtain⟨kd0,x0,a0,p0⟩:=F2.out.ps
  have hn1:=p0.cur.lt
  have HW0:=mkHid hW0
  have HB:=mkHid hB
  have HP0:=mkHid p0
  clear h1 e1 b0 hB hW0 kK F0 p0
  have kT:=mkHid (HT.out (n+1) kd0 x0 a0 v (E++([]:List NdE)) W0 HP0.out F2.out.gl (by omega) (by rw[List.append_nil];omega))
  obtain⟨Z,hZ⟩:∃Z,t (n+1) ((E++([]:List NdE)).map (·.1))=Z:=⟨_,rfl⟩
  have hR1:=HR.out
  rw[← List.append_nil E,hZ] at hR1
  rw[hZ] at kT
  replace HR:=mkHid hR1
  clear hR1 hZ HP0
  go_wp2_with (go_at_call 203;fail)
  rw[HW0.out,HB.out]
  clear HW0
  refine kT.out.mono ?_
  rintro e w2 ⟨e2,h2⟩
  clear kT
  cases Z with
  | bad j=>
   obtain rfl:e=_:=h2
   exact⟨rfl,F2.out.ef.trans F2.out.nw e2,PrO.bad (by rw[← HR.out];rfl)⟩
  | ok j N=>
   rcases h2 with ⟨A1,v1,rfl,hN,hp2⟩|hx
   ·have hcn:=hp2.cnt
    have hjT:j<T.length:=by obtain⟨_,_,_,h⟩:=hp2.ps;exact h.cur.lt
    obtain⟨z,hz⟩:∃z,Rf.last N=z:=⟨_,rfl⟩
    rw[hz]
    have F3:=F2.out.call e2 hp2
    rw[List.nil_append] at F3
    have P3:=P0.out.call hgl e2 hp2.nw
    have b3:Below w2.heap.size w2 (w2.alloc (.cells #[.int .i64 z] 2)):=(Below.refl _ _).alloc (Nat.le_refl _) _
    have hO:OwnN w2.heap.size (.slice (some ⟨w2.heap.size,0,none⟩) 1 1) [z] (w2.alloc (.cells #[.int .i64 z] 2)):=⟨rfl,.inr ⟨w2.heap.size,1,_,rfl,Nat.le_refl _,heap_alloc_at _ _,Nat.le_refl _,by unfold maxLen;omega,rfl,rfl⟩⟩
    have P4:=mkHid (P3.below b3)
    have F5:=mkHid ((F3.kids b3 hO).set P4.out 6 (.slice (some ⟨w2.heap.size,0,none⟩) 1 1))
    have hNz:R=.ok j ((E++A1).map (·.1) ++ [{ Rf.zn 22 with kids:=[z] }]):=by
     rw[← HR.out,← hz]
     show Rf.Out.ok j (N ++ [{ Rf.zn 22 with kids:=[Rf.last N] }])=_
     rw[hN,List.append_nil]
    replace hNz:=mkHid hNz
    have d0:(w2.alloc (.cells #[.int .i64 z] 2)).cell? ⟨B,0,none⟩=some (.int .i64 22):=P4.out.cell 0 _ rfl
    have d1:(w2.alloc (.cells #[.int .i64 z] 2)).cell? ⟨B,1,none⟩=some (.int .i64 0):=P4.out.cell 1 _ rfl
    have d2:(w2.alloc (.cells #[.int .i64 z] 2)).cell? ⟨B,2,none⟩=some (.int .i64 0):=P4.out.cell 2 _ rfl
    have d3:(w2.alloc (.cells #[.int .i64 z] 2)).cell? ⟨B,3,none⟩=some (.string ⟨#[]⟩):=P4.out.cell 3 _ rfl
    have d4:(w2.alloc (.cells #[.int .i64 z] 2)).cell? ⟨B,4,none⟩=some (.slice none 0 0):=P4.out.cell 4 _ rfl
    have d5:(w2.alloc (.cells #[.int .i64 z] 2)).cell? ⟨B,5,none⟩=some (.slice none 0 0):=P4.out.cell 5 _ rfl
    have d6:(w2.alloc (.cells #[.int .i64 z] 2)).cell? ⟨B,6,none⟩=some (.slice none 0 0):=P4.out.cell 6 _ rfl
    have z6:(w2.alloc (.cells #[.int .i64 z] 2)).frozen? ⟨B,6,none⟩=false:=P4.out.fz 6
    clear hp2 e2 hN hz F3 P3 b3 hO P4 P0 F2
    have kA:=mkHid (F5.out.add { Rf.zn 22 with kids:=[z] } rfl rfl rfl (by rw[List.length_append];first|omega|(simp;omega)))
    have hRR:Hid (R=.ok j ((E++A1).map (·.1) ++ [{ Rf.zn 22 with kids:=[z] }])):=hNz
    clear HR F5
    unfold ndV Rf.zn at kA
    dsimp only at kA
    go_wp2_with (go_at_call 149;fail)
    refine kA.out.mono ?_
    rintro e w9 ⟨rfl,v9,A9,hA9,e9,n9,p9,f9,g9⟩
    obtain⟨y,hy⟩:∃y:Int,((E++A1).length:Int)=y:=⟨_,rfl⟩
    have hfin:Hid (Ef g v.ownBlock w w9∧PrO g s l T n v E w R (.returned (.int .i64 y)) w9):=by rw[← hy];exact⟨e9,PrO.added hA9.out hRR.out n9 p9 f9 g9 (by first|omega|(simp;omega))⟩
    rw[hy]
    clear hA9 e9 n9 p9 f9 g9 kA hRR hy
    clear d0 d1 d2 d3 d4 d5 d6
    go_wp2
    go_ret
    exact hfin.out
   ·obtain⟨m1,m2,rfl⟩:=hx
    exact⟨rfl,F2.out.ef.trans F2.out.nw e2,PrO.ofX2 (N:=N ++ [{ Rf.zn 22 with kids:=[Rf.last N] }]) ⟨m1,m2,rfl⟩ (by rw[← HR.out];rfl)⟩
 ·obtain⟨m1,m2,rfl⟩:=hx
  refine⟨rfl,e1.weak,?_⟩
  refine PrO.ofX ⟨m1,m2,rfl⟩ ?_
  rw[← HR.out,HX.out _ _ m2]
  rfl
end Go.Proofs.YtkcajnjledldnaaGreatDoor
