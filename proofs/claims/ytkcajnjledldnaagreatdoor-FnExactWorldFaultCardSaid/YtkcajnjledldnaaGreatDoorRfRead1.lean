import Derived.Test.YtkcajnjledldnaaGreatDoorGenBase
import Derived.Deep.OwnRows
import Derived.Lib.QuietBelow
import Derived.Deep.QuietTactic
import Derived.BigQuiet
import Derived.Test.YtkcajnjledldnaaGreatDoorOwnX
import Derived.Maps.AppendAt
import Derived.Test.YtkcajnjledldnaaGreatDoorSignTests
import Derived.Test.YtkcajnjledldnaaGreatDoorPhraseImpl
import Derived.OrdersHeld
set_option maxRecDepth 20000
set_option maxHeartbeats 4000000
namespace Go.Proofs.YtkcajnjledldnaaGreatDoor
open Go.RowKit Go.Lib Go.Maps
def numCells (P:List Int):List Value:=P.map (.int .i64)
def OwnN (B:Nat)(v:Value)(P:List Int)(w:World):Prop:=w.ownsRow B 2 1 v P.length (numCells P)
theorem OwnN.inL {B:Nat} {o:Option Addr} {cap:Nat} {P:List Int} {w:World} (h:OwnN B (.slice o P.length cap) P w):InL B w.heap.size w o P:=by
 intro i hi
 have hl:=World.ownsRow.lt h
 rcases h.2 with ⟨h1,h0⟩|⟨g,cap',cur,h1,hB,-⟩
 ·omega
 ·simp only[Value.slice.injEq] at h1
  obtain⟨rfl,-⟩:=h1
  exact⟨_,rfl,hB,(hl g rfl).2,World.ownsRow.cells h (g:=g) rfl i _ (by simp[numCells,hi])⟩
theorem OwnN.keep {B:Nat} {v:Value} {P:List Int} {w w':World} {row:Option Nat} (h:OwnN B v P w)(hg:w.grownBy w' row)(hne:v.ownBlock=none∨v.ownBlock≠row):OwnN B v P w':=World.ownsRow.kept h hg hne
theorem OwnN.below {B:Nat} {v:Value} {P:List Int} {w w':World} (h:OwnN B v P w)(hb:Below w.heap.size w w'):OwnN B v P w':=World.ownsRow.kept h (row:=none) ⟨hb.os,hb.tape,hb.output,hb.size,fun k hk _=>hb.block k hk⟩ (by
 cases hv:v.ownBlock with
 | none=>exact .inl rfl
 | some k=>exact .inr (by simp))
structure Nd where
 kind:Int
 num:Int
 mat:Int
 text:ByteArray
 names:List ByteArray
 keys:List ByteArray
 kids:List Int
def ndV (n:Nd)(vn vk vd:Value):Value:=.agg #[.int .i64 n.kind,.int .i64 n.num,.int .i64 n.mat,.string n.text,vn,vk,vd]
structure NdIn (B:Nat)(w:World)(n:Nd)(vn vk vd:Value):Prop where
 names:∃a c,vn=.slice a n.names.length c∧Tx B w a n.names
 keys:∃a c,vk=.slice a n.keys.length c∧Tx B w a n.keys
 kids:∃a c,vd=.slice a n.kids.length c∧Ints B w a n.kids
theorem NdIn.below {B:Nat} {w w':World} {n:Nd} {vn vk vd:Value} (h:NdIn B w n vn vk vd)(hb:Below B w w'):NdIn B w' n vn vk vd:=by
 obtain⟨⟨a,c,e1,t1⟩,⟨a2,c2,e2,t2⟩,⟨a3,c3,e3,t3⟩⟩:=h
 exact⟨⟨a,c,e1,t1.below hb⟩,⟨a2,c2,e2,t2.below hb⟩,⟨a3,c3,e3,t3.below hb⟩⟩
theorem NdIn.mono {B B':Nat} {w:World} {n:Nd} {vn vk vd:Value} (h:NdIn B w n vn vk vd)(hB:B≤B'):NdIn B' w n vn vk vd:=by
 obtain⟨⟨a,c,e1,t1⟩,⟨a2,c2,e2,t2⟩,⟨a3,c3,e3,t3⟩⟩:=h
 exact⟨⟨a,c,e1,t1.mono hB⟩,⟨a2,c2,e2,t2.mono hB⟩,⟨a3,c3,e3,t3.mono hB⟩⟩
structure NdAt (w:World)(A:Addr)(n:Nd)(vn vk vd:Value):Prop where
 c0:w.cell? A=some (.int .i64 n.kind)
 c1:w.cell? ⟨A.block,A.off+1,none⟩=some (.int .i64 n.num)
 c2:w.cell? ⟨A.block,A.off+2,none⟩=some (.int .i64 n.mat)
 c3:w.cell? ⟨A.block,A.off+3,none⟩=some (.string n.text)
 c4:w.cell? ⟨A.block,A.off+4,none⟩=some vn
 c5:w.cell? ⟨A.block,A.off+5,none⟩=some vk
 c6:w.cell? ⟨A.block,A.off+6,none⟩=some vd
theorem NdAt.below {B:Nat} {w w':World} {A:Addr} {n:Nd} {vn vk vd:Value} (h:NdAt w A n vn vk vd)(hb:Below B w w')(hA:A.block<B):NdAt w' A n vn vk vd:=
 ⟨(hb.cell hA).trans h.c0,(hb.cell (p:=⟨A.block,A.off+1,none⟩) hA).trans h.c1,(hb.cell (p:=⟨A.block,A.off+2,none⟩) hA).trans h.c2,(hb.cell (p:=⟨A.block,A.off+3,none⟩) hA).trans h.c3,(hb.cell (p:=⟨A.block,A.off+4,none⟩) hA).trans h.c4,(hb.cell (p:=⟨A.block,A.off+5,none⟩) hA).trans h.c5,(hb.cell (p:=⟨A.block,A.off+6,none⟩) hA).trans h.c6⟩
def Nds (B:Nat)(w:World)(o:Option Addr)(F:List Nd):Prop:=
 ∀i (h:i<F.length),∃ a vn vk vd,o=some a∧a.block<B∧NdAt w (a.add (i*7)) F[i] vn vk vd∧NdIn B w F[i] vn vk vd
theorem add_blockN (a:Addr)(n:Nat):(a.add n).block=a.block:=by unfold Addr.add;split<;>rfl
theorem Nds.below {B:Nat} {w w':World} {o:Option Addr} {F:List Nd} (h:Nds B w o F)(hb:Below B w w'):Nds B w' o F:=by
 intro i hi
 obtain⟨a,vn,vk,vd,ho,ha,h1,h2⟩:=h i hi
 exact⟨a,vn,vk,vd,ho,ha,h1.below hb (by rw[add_blockN];exact ha),h2.below hb⟩
theorem Nds.mono {B B':Nat} {w:World} {o:Option Addr} {F:List Nd} (h:Nds B w o F)(hB:B≤B'):Nds B' w o F:=by
 intro i hi
 obtain⟨a,vn,vk,vd,ho,ha,h1,h2⟩:=h i hi
 exact⟨a,vn,vk,vd,ho,by omega,h1,h2.mono hB⟩
def Nd.fits (n:Nd)(m:Nat):Prop:=n.text.size≤m∧n.names.length≤m∧(∀t ∈ n.names,t.size≤m)∧n.keys.length≤m∧(∀t ∈ n.keys,t.size≤m)∧n.kids.length≤m
theorem heap_ltM {w:World} {b:Nat} {o:Obj} (h:w.heap[b]?=some o):b<w.heap.size:=by
 by_cases hb:b<w.heap.size
 ·exact hb
 ·rw[Array.getElem?_eq_none (by omega)] at h
  cases h
abbrev NdE:=Nd × Value × Value × Value
def cell7 (e:NdE):List Value:=[.int .i64 e.1.kind,.int .i64 e.1.num,.int .i64 e.1.mat,.string e.1.text,e.2.1,e.2.2.1,e.2.2.2]
def ndCells (E:List NdE):List Value:=E.flatMap cell7
theorem cell7_len (e:NdE):(cell7 e).length=7:=rfl
theorem ndCells_app (E:List NdE)(e:NdE):ndCells (E ++ [e])=ndCells E++cell7 e:=by simp[ndCells,List.flatMap_append]
theorem ndCells_at (E:List NdE):∀(i:Nat)(h:i<E.length)(j:Nat),j<7→(ndCells E)[i*7+j]?=(cell7 E[i])[j]?:=by
 induction E with
 | nil=>intro i h;exact absurd h (Nat.not_lt_zero _)
 | cons r t ih=>
  intro i h j hj
  have e:ndCells (r::t)=cell7 r++ndCells t:=rfl
  rw[e]
  cases i with
  | zero=>
   rw[List.getElem?_append_left (by rw[cell7_len];omega)]
   simp
  | succ i=>
   have h':i<t.length:=by simpa using h
   rw[List.getElem?_append_right (by rw[cell7_len];omega),cell7_len,show(i+1)*7+j-7=i*7+j by omega,ih i h' j hj]
   rfl
theorem own_apart9 {w:World} {B B' s s' n n':Nat} {e e':TypeId} {v v':Value} {xs xs':List Value} (h:w.ownsRow B e s v n xs)(h':w.ownsRow B' e' s' v' n' xs')(he:e≠e'):v.ownBlock=none∨v.ownBlock≠v'.ownBlock:=by
 rcases h.2 with ⟨rfl,-⟩|⟨g,cap,cur,rfl,-,hg,-⟩
 ·exact .inl rfl
 ·right
  rcases h'.2 with ⟨rfl,-⟩|⟨g',cap',cur',rfl,-,hg',-⟩
  ·simp[Value.ownBlock]
  ·intro e1
   simp only[Value.ownBlock,Option.some.injEq] at e1
   rw[e1,hg'] at hg
   simp only[Option.some.injEq,Obj.cells.injEq] at hg
   exact he hg.2.1.symm
abbrev Sl:=Value × List ByteArray
def LsX (B:Nat)(w:World)(s:Sl):Prop:=(∃o cap,s.1=.slice o s.2.length cap)∧(s.2 ≠ []→OwnX B s.1 s.2 w)
def FarX (a b:Sl):Prop:=a.2=[]∨b.2=[]∨a.1.ownBlock≠b.1.ownBlock
theorem LsX.keep {B:Nat} {w w':World} {s:Sl} {row:Option Nat} (h:LsX B w s)(hg:w.grownBy w' row)(hne:s.2=[]∨s.1.ownBlock=none∨s.1.ownBlock≠row):LsX B w' s:=by
 refine⟨h.1,fun hn=>(h.2 hn).keep hg ?_⟩
 rcases hne with h|h
 ·exact absurd h hn
 ·exact h
theorem LsX.below {B:Nat} {w w':World} {s:Sl} (h:LsX B w s)(hb:Below w.heap.size w w'):LsX B w' s:=⟨h.1,fun hn=>(h.2 hn).below hb⟩
theorem LsX.tx {B:Nat} {w:World} {s:Sl} (h:LsX B w s):∃o cap,s.1=.slice o s.2.length cap∧Tx w.heap.size w o s.2:=by
 obtain⟨⟨o,cap,e⟩,h2⟩:=h
 refine⟨o,cap,e,?_⟩
 by_cases hn:s.2=[]
 ·rw[hn]
  intro i hi
  exact absurd hi (Nat.not_lt_zero _)
 ·have hx:=h2 hn
  rw[e] at hx
  intro i hi
  obtain⟨a,rfl,h3,h4,h5⟩:=hx.txL i hi
  exact⟨a,rfl,h4,h5⟩
abbrev Sn:=Value × List Int
def LsN (B:Nat)(w:World)(s:Sn):Prop:=(∃o cap,s.1=.slice o s.2.length cap)∧(s.2 ≠ []→OwnN B s.1 s.2 w)
def FarN (a b:Sn):Prop:=a.2=[]∨b.2=[]∨a.1.ownBlock≠b.1.ownBlock
theorem LsN.keep {B:Nat} {w w':World} {s:Sn} {row:Option Nat} (h:LsN B w s)(hg:w.grownBy w' row)(hne:s.2=[]∨s.1.ownBlock=none∨s.1.ownBlock≠row):LsN B w' s:=by
 refine⟨h.1,fun hn=>(h.2 hn).keep hg ?_⟩
 rcases hne with h|h
 ·exact absurd h hn
 ·exact h
theorem LsN.below {B:Nat} {w w':World} {s:Sn} (h:LsN B w s)(hb:Below w.heap.size w w'):LsN B w' s:=⟨h.1,fun hn=>(h.2 hn).below hb⟩
theorem LsN.ints {B:Nat} {w:World} {s:Sn} (h:LsN B w s):∃o cap,s.1=.slice o s.2.length cap∧Ints w.heap.size w o s.2:=by
 obtain⟨⟨o,cap,e⟩,h2⟩:=h
 refine⟨o,cap,e,?_⟩
 by_cases hn:s.2=[]
 ·rw[hn]
  intro i hi
  exact absurd hi (Nat.not_lt_zero _)
 ·have hx:=h2 hn
  rw[e] at hx
  intro i hi
  obtain⟨a,rfl,h3,h4,h5⟩:=hx.inL i hi
  exact⟨a,rfl,h4,h5⟩
def slots (E:List NdE):List Sl:=E.flatMap fun e=>[(e.2.1,e.1.names),(e.2.2.1,e.1.keys)]
def kslots (E:List NdE):List Sn:=E.map fun e=>(e.2.2.2,e.1.kids)
theorem slots_app (E:List NdE)(e:NdE):slots (E ++ [e])=slots E ++ [(e.2.1,e.1.names),(e.2.2.1,e.1.keys)]:=by simp[slots,List.flatMap_append]
theorem kslots_app (E:List NdE)(e:NdE):kslots (E ++ [e])=kslots E ++ [(e.2.2.2,e.1.kids)]:=by simp[kslots]
structure Nt (B:Nat)(v:Value)(E:List NdE)(w:World):Prop where
 row:w.ownsRow B 109 7 v E.length (ndCells E)
 own:∀s ∈ slots E,LsX B w s
 sep:(slots E).Pairwise FarX
 ownN:∀s ∈ kslots E,LsN B w s
 sepN:(kslots E).Pairwise FarN
theorem Nt.nil (B:Nat)(w:World):Nt B (.slice none 0 0) [] w:=⟨World.ownsRow_nil w B _ 7,fun _ h=>(List.not_mem_nil h).elim,List.Pairwise.nil,fun _ h=>(List.not_mem_nil h).elim,List.Pairwise.nil⟩
theorem Nt.shape {B:Nat} {v:Value} {E:List NdE} {w:World} (h:Nt B v E w):∃o cap,v=.slice o E.length cap:=by
 rcases h.row.2 with ⟨rfl,h0⟩|⟨g,cap,cur,rfl,-⟩
 ·exact⟨none,0,by rw[h0]⟩
 ·exact⟨_,cap,rfl⟩
theorem Nt.rowfar {B:Nat} {v:Value} {E:List NdE} {w:World} (h:Nt B v E w)(s:Sl)(hs:s ∈ slots E):s.2=[]∨s.1.ownBlock=none∨s.1.ownBlock≠v.ownBlock:=by
 by_cases hn:s.2=[]
 ·exact .inl hn
 ·exact .inr (own_apart9 (show w.ownsRow B 9 1 _ _ _ from (h.own s hs).2 hn) h.row (by decide))
theorem Nt.rowfarN {B:Nat} {v:Value} {E:List NdE} {w:World} (h:Nt B v E w)(s:Sn)(hs:s ∈ kslots E):s.2=[]∨s.1.ownBlock=none∨s.1.ownBlock≠v.ownBlock:=by
 by_cases hn:s.2=[]
 ·exact .inl hn
 ·exact .inr (own_apart9 (show w.ownsRow B 2 1 _ _ _ from (h.ownN s hs).2 hn) h.row (by decide))
theorem Nt.below {B:Nat} {v:Value} {E:List NdE} {w w':World} (h:Nt B v E w)(hb:Below w.heap.size w w'):Nt B v E w':=by
 refine⟨World.ownsRow.kept h.row (row:=none) ⟨hb.os,hb.tape,hb.output,hb.size,fun k hk _=>hb.block k hk⟩ ?_,fun s hs=>(h.own s hs).below hb,h.sep,fun s hs=>(h.ownN s hs).below hb,h.sepN⟩
 cases hv:v.ownBlock with
 | none=>exact .inl rfl
 | some k=>exact .inr (by simp)
theorem Nt.grown {B:Nat} {v:Value} {E:List NdE} {w w':World} {r:Option Nat} (h:Nt B v E w)(hg:w.grownBy w' r)(h0:v.ownBlock=none∨v.ownBlock≠r)(h1:∀s ∈ slots E,s.2=[]∨s.1.ownBlock=none∨s.1.ownBlock≠r)(h2:∀s ∈ kslots E,s.2=[]∨s.1.ownBlock=none∨s.1.ownBlock≠r):Nt B v E w':=
 ⟨World.ownsRow.kept h.row hg h0,fun s hs=>(h.own s hs).keep hg (h1 s hs),h.sep,fun s hs=>(h.ownN s hs).keep hg (h2 s hs),h.sepN⟩
theorem Nt.set {B R0 j:Nat} {v u:Value} {E:List NdE} {w:World} (h:Nt B v E w)(hR:R0<B):Nt B v E (w.setCell ⟨R0,j,none⟩ u):=by
 have key:∀(x:Value),(∀k,x.ownBlock=some k→B≤k)→x.ownBlock=none∨x.ownBlock≠some R0:=by
  intro x hx
  cases ho:x.ownBlock with
  | none=>exact .inl rfl
  | some k=>exact .inr (by have:=hx k ho;intro e;cases e;omega)
 refine h.grown (grG_set w R0 j u) (key _ fun k hk=>(World.ownsRow.lt h.row k hk).1) (fun s hs=>?_) (fun s hs=>?_)
 ·by_cases hn:s.2=[]
  ·exact .inl hn
  ·exact .inr (key _ fun k hk=>(World.ownsRow.lt ((h.own s hs).2 hn) k hk).1)
 ·by_cases hn:s.2=[]
  ·exact .inl hn
  ·exact .inr (key _ fun k hk=>(World.ownsRow.lt ((h.ownN s hs).2 hn) k hk).1)
theorem Nt.push {B:Nat} {v v':Value} {E:List NdE} {e:NdE} {w w':World} (h:Nt B v E w)(hn:LsX B w (e.2.1,e.1.names))(hk:LsX B w (e.2.2.1,e.1.keys))(hd:LsN B w (e.2.2.2,e.1.kids))(hf:FarX (e.2.1,e.1.names) (e.2.2.1,e.1.keys))
  (hfar:∀s ∈ slots E,FarX s (e.2.1,e.1.names)∧FarX s (e.2.2.1,e.1.keys)) (hfarN:∀s ∈ kslots E,FarN s (e.2.2.2,e.1.kids))
  (hrow:w'.ownsRow B 109 7 v' (E.length+1) (ndCells (E ++ [e]))) (hg:w.grownBy w' v.ownBlock):Nt B v' (E ++ [e]) w':=by
 have ap:∀s:Sl,LsX B w s→s.2=[]∨s.1.ownBlock=none∨s.1.ownBlock≠v.ownBlock:=fun s hs=>by
  by_cases hne:s.2=[]
  ·exact .inl hne
  ·exact .inr (own_apart9 (show w.ownsRow B 9 1 _ _ _ from hs.2 hne) h.row (by decide))
 have apN:∀s:Sn,LsN B w s→s.2=[]∨s.1.ownBlock=none∨s.1.ownBlock≠v.ownBlock:=fun s hs=>by
  by_cases hne:s.2=[]
  ·exact .inl hne
  ·exact .inr (own_apart9 (show w.ownsRow B 2 1 _ _ _ from hs.2 hne) h.row (by decide))
 refine⟨by rw[List.length_append];exact hrow,?_,?_,?_,?_⟩
 ·intro s hs
  rw[slots_app] at hs
  rcases List.mem_append.1 hs with hs|hs
  ·exact(h.own s hs).keep hg (h.rowfar s hs)
  ·simp only[List.mem_cons,List.not_mem_nil,or_false] at hs
   rcases hs with rfl|rfl
   ·exact hn.keep hg (ap _ hn)
   ·exact hk.keep hg (ap _ hk)
 ·rw[slots_app,List.pairwise_append]
  refine⟨h.sep,by simpa using hf,?_⟩
  intro a ha b hb
  simp only[List.mem_cons,List.not_mem_nil,or_false] at hb
  rcases hb with rfl|rfl
  ·exact(hfar a ha).1
  ·exact(hfar a ha).2
 ·intro s hs
  rw[kslots_app] at hs
  rcases List.mem_append.1 hs with hs|hs
  ·exact(h.ownN s hs).keep hg (h.rowfarN s hs)
  ·obtain rfl:=List.mem_singleton.1 hs
   exact hd.keep hg (apN _ hd)
 ·rw[kslots_app,List.pairwise_append]
  refine⟨h.sepN,List.pairwise_singleton _ _,?_⟩
  intro a ha b hb
  obtain rfl:=List.mem_singleton.1 hb
  exact hfarN a ha
theorem Nt.nds {B:Nat} {o:Option Addr} {n cap:Nat} {E:List NdE} {w:World} (h:Nt B (.slice o n cap) E w):Nds w.heap.size w o (E.map (·.1)):=by
 intro i hi0
 have hi:i<E.length:=by simpa using hi0
 have hl:=World.ownsRow.lt h.row
 have hrow:=h.row
 rcases h.row.2 with ⟨h1,h0⟩|⟨g,cap',cur,h1,-⟩
 ·omega
 ·simp only[Value.slice.injEq] at h1
  obtain⟨rfl,rfl,rfl⟩:=h1
  have key:∀j,j<7→∀y,(cell7 E[i])[j]?=some y→w.cell? ⟨g,i*7+j,none⟩=some y:=fun j hj y hy=>by
   have:=World.ownsRow.cells hrow (g:=g) rfl (i*7+j) y (by rw[ndCells_at E i hi j hj];exact hy)
   rw[add_off] at this
   exact this
  have m1:(E[i].2.1,E[i].1.names) ∈ slots E:=List.mem_flatMap.2 ⟨E[i],List.getElem_mem hi,by simp⟩
  have m2:(E[i].2.2.1,E[i].1.keys) ∈ slots E:=List.mem_flatMap.2 ⟨E[i],List.getElem_mem hi,by simp⟩
  have m3:(E[i].2.2.2,E[i].1.kids) ∈ kslots E:=List.mem_map.2 ⟨E[i],List.getElem_mem hi,rfl⟩
  rw[List.getElem_map]
  refine⟨⟨g,0,none⟩,E[i].2.1,E[i].2.2.1,E[i].2.2.2,rfl,(hl g rfl).2,?_,⟨(h.own _ m1).tx,(h.own _ m2).tx,(h.ownN _ m3).ints⟩⟩
  rw[add_off]
  exact⟨key 0 (by omega) _ rfl,key 1 (by omega) _ rfl,key 2 (by omega) _ rfl,key 3 (by omega) _ rfl,key 4 (by omega) _ rfl,key 5 (by omega) _ rfl,key 6 (by omega) _ rfl⟩
structure Ef (g:Nat)(r:Option Nat)(w w':World):Prop where
 os:w'.os=w.os
 tape:w'.tape=w.tape
 output:w'.output=w.output
 size:w.heap.size≤w'.heap.size
 keep:∀k,k<w.heap.size→k≠g→some k≠r→w'.heap[k]?=w.heap[k]?
def Nw (w:World)(v v':Value):Prop:=v'.ownBlock=v.ownBlock∨∃ k,w.heap.size≤k∧v'.ownBlock=some k
theorem Ef.trans {g:Nat} {v v1:Value} {w w1 w2:World} (h:Ef g v.ownBlock w w1)(hn:Nw w v v1)(h2:Ef g v1.ownBlock w1 w2):Ef g v.ownBlock w w2:=by
 refine⟨h2.os.trans h.os,h2.tape.trans h.tape,h2.output.trans h.output,Nat.le_trans h.size h2.size,fun k hk hg hr=>(h2.keep k (Nat.lt_of_lt_of_le hk h.size) hg ?_).trans (h.keep k hk hg hr)⟩
 rcases hn with e|⟨q,hq,e⟩
 ·rw[e];exact hr
 ·rw[e]
  intro e2
  simp only[Option.some.injEq] at e2
  omega
theorem Nw.trans {w w1:World} {v v1 v2:Value} (h:Nw w v v1)(hs:w.heap.size≤w1.heap.size)(h2:Nw w1 v1 v2):Nw w v v2:=by
 rcases h2 with e|⟨k,hk,e⟩
 ·rcases h with e1|⟨k,hk,e1⟩
  ·exact .inl (e.trans e1)
  ·exact .inr ⟨k,hk,e.trans e1⟩
 ·exact .inr ⟨k,by omega,e⟩
theorem Ef.ahead {g:Nat} {r:Option Nat} {w w1 w2:World} (hb:Below w.heap.size w w1)(h:Ef g r w1 w2):Ef g r w w2:=
 ⟨h.os.trans hb.os,h.tape.trans hb.tape,h.output.trans hb.output,Nat.le_trans hb.size h.size,fun k hk hg hr=>(h.keep k (Nat.lt_of_lt_of_le hk hb.size) hg hr).trans (hb.block k hk)⟩
theorem Nw.ahead {w w1:World} {v v1:Value} (hs:w.heap.size≤w1.heap.size)(h:Nw w1 v v1):Nw w v v1:=by
 rcases h with e|⟨k,hk,e⟩
 ·exact .inl e
 ·exact .inr ⟨k,by omega,e⟩
namespace Pl
def find (P:Nat→Bool):Nat→Nat→Nat
 | 0,k=>k
 | f+1,k=>if P k then k else find P f (k+1)
def first (P:Nat→Bool)(n k:Nat):Nat:=find P (n-k) k
theorem first_end (P:Nat→Bool)(n k:Nat)(h:n≤k):first P n k=k:=by
 unfold first;rw[show n-k=0 by omega];rfl
theorem first_hit (P:Nat→Bool)(n k:Nat)(h:P k=true):first P n k=k:=by
 unfold first
 cases n-k with
 | zero=>rfl
 | succ f=>rw[find,if_pos h]
theorem first_miss (P:Nat→Bool)(n k:Nat)(hk:k<n)(h:P k=false):first P n (k+1)=first P n k:=by
 unfold first
 obtain⟨f,hf⟩:∃f,n-k=f+1:=⟨n-k-1,by omega⟩
 rw[hf,find,if_neg (by rw[h];simp),show n-(k+1)=f by omega]
theorem first_spec (P:Nat→Bool)(n:Nat):∀(d k:Nat),n-k=d→k≤n→k≤first P n k∧first P n k≤n∧(∀j,k≤j→j<first P n k→P j=false)∧(first P n k<n→P (first P n k)=true)
 | 0,k,hd,hk=>by
  rw[first_end P n k (by omega)]
  exact⟨Nat.le_refl _,hk,fun j h1 h2=>by omega,fun h=>by omega⟩
 | d+1,k,hd,hk=>by
  cases hp:P k
  ·obtain⟨h1,h2,h3,h4⟩:=first_spec P n d (k+1) (by omega) (by omega)
   rw[first_miss P n k (by omega) hp] at h1 h2 h3 h4
   refine⟨by omega,h2,fun j h5 h6=>?_,h4⟩
   by_cases hj:j=k
   ·rw[hj];exact hp
   ·exact h3 j (by omega) h6
  ·rw[first_hit P n k hp]
   exact⟨Nat.le_refl _,hk,fun j h1 h2=>by omega,fun _=>hp⟩
theorem first_ge (P:Nat→Bool)(n k:Nat)(h:k≤n):k≤first P n k:=(first_spec P n _ k rfl h).1
theorem first_le (P:Nat→Bool)(n k:Nat)(h:k≤n):first P n k≤n:=(first_spec P n _ k rfl h).2.1
theorem first_none (P:Nat→Bool)(n k:Nat)(h:k≤n)(j:Nat)(h1:k≤j)(h2:j<first P n k):P j=false:=(first_spec P n _ k rfl h).2.2.1 j h1 h2
theorem first_is (P:Nat→Bool)(n k:Nat)(h:k≤n)(h1:first P n k<n):P (first P n k)=true:=(first_spec P n _ k rfl h).2.2.2 h1
theorem first_eq (P:Nat→Bool)(n k m:Nat)(hk:k≤m)(hm:m≤n)(h1:∀j,k≤j→j<m→P j=false)(h2:m<n→P m=true):first P n k=m:=by
 have a:=first_ge P n k (by omega)
 have b:=first_le P n k (by omega)
 have c:=first_none P n k (by omega)
 have d:=first_is P n k (by omega)
 by_cases h:first P n k<m
 ·have:=h1 _ a h
  rw[d (by omega)] at this
  cases this
 ·by_cases h':m<first P n k
  ·have:=c m hk h'
   rw[h2 (by omega)] at this
   cases this
  ·omega
def b (l:List UInt8)(j:Nat):UInt8:=l.getD j 0
theorem b_lt (l:List UInt8)(j:Nat)(h:j<l.length):b l j=l[j]:=getD_lt l j h
def stop (K:UInt8→Bool)(l:List UInt8)(k:Nat):Nat:=first (fun j=>!K (b l j)) l.length k
end Pl
namespace Pl
theorem stop_ge (K:UInt8→Bool)(l:List UInt8)(k:Nat)(h:k≤l.length):k≤stop K l k:=first_ge _ _ _ h
theorem stop_le (K:UInt8→Bool)(l:List UInt8)(k:Nat)(h:k≤l.length):stop K l k≤l.length:=first_le _ _ _ h
theorem stop_all (K:UInt8→Bool)(l:List UInt8)(k:Nat)(h:k≤l.length)(j:Nat)(h1:k≤j)(h2:j<stop K l k):K (b l j)=true:=by
 have:=first_none (fun j=>!K (b l j)) l.length k h j h1 h2
 simpa using this
theorem stop_not (K:UInt8→Bool)(l:List UInt8)(k:Nat)(h:k≤l.length)(h1:stop K l k<l.length):K (b l (stop K l k))=false:=by
 have:=first_is (fun j=>!K (b l j)) l.length k h h1
 change (!K (b l (stop K l k)))=true at this
 simpa using this
theorem stop_eq (K:UInt8→Bool)(l:List UInt8)(k m:Nat)(hk:k≤m)(hm:m≤l.length)(h1:∀j,k≤j→j<m→K (b l j)=true)(h2:m<l.length→K (b l m)=false):stop K l k=m:=
 first_eq _ _ _ _ hk hm (fun j a c=>by rw[h1 j a c];rfl) (fun h=>by rw[h2 h];rfl)
end Pl
namespace Rf
def gapK (c:UInt8):Bool:=Pl.blank c || c==13 || c==10
def cmtK (c:UInt8):Bool:=c != 10
def lowK (c:UInt8):Bool:=decide (97≤c.toNat) && decide (c.toNat≤122)
def digK (c:UInt8):Bool:=decide (48≤c.toNat) && decide (c.toNat≤57)
def gapL:Bool→List UInt8→Nat
 | _,[]=>0
 | false,c::r=>if gapK c then 1+gapL false r else if c==35 then 1+gapL true r else 0
 | true,c::r=>1+gapL (cmtK c) r
def gap (l:List UInt8)(i:Nat):Nat:=i+gapL false (l.drop i)
def qd:List UInt8→Option (List UInt8 × Nat)
 | []=>none
 | [c]=>if c==34 then some ([],1) else none
 | c::d::r=>
  if c==34 then some ([],1)
  else if c==92 then (qd r).map fun x=>(d::x.1,x.2+2)
  else (qd (d::r)).map fun x=>(c::x.1,x.2+1)
structure Tk where
 kind:Nat
 text:List UInt8
 pos:Nat
def cut (l:List UInt8)(i j:Nat):List UInt8:=(l.take j).drop i
def isSign (c:UInt8):Bool:=c==123 || c==125 || c==40 || c==41 || c==91 || c==93 || c==44 || c==59
def tok (l:List UInt8)(p:Nat):Nat × List UInt8 × Nat:=
 let c:=Pl.b l p
 if lowK c then (119,cut l p (Pl.stop lowK l p),Pl.stop lowK l p)
 else if c==58 then
  let q:=Pl.stop lowK l (p+1)
  if p+1<q then (58,cut l p q,q) else (120,[],q)
 else if digK c then
  let q:=Pl.stop digK l p
  if q-p≤9 then (110,cut l p q,q) else (120,[],q)
 else if c==34 then
  match qd (l.drop (p+1)) with
  | some (t,k)=>if t.length≤1000 then (116,t,p+1+k) else (120,[],p)
  | none=>(120,[],p)
 else if isSign c then (112,[c],p+1) else (120,[],p+1)
def toks (l:List UInt8):Nat→Nat→List Tk
 | 0,_=>[]
 | f+1,i=>
  let p:=gap l i
  if p<l.length then
   if (tok l p).1=120 then [⟨120,[],p⟩] else ⟨(tok l p).1,(tok l p).2.1,p⟩::toks l f (tok l p).2.2
  else [⟨101,[],l.length⟩]
def line (l:List UInt8)(i:Nat):Nat:=1+(l.take i).count 10
theorem gapL_false (c:UInt8)(r:List UInt8)(h:gapK c=true):gapL false (c::r)=1+gapL false r:=by rw[gapL,if_pos h]
theorem gapL_le:∀(l:List UInt8)(b:Bool),gapL b l≤l.length
 | [],b=>by cases b<;>exact Nat.le_refl _
 | c::r,true=>by
  rw[gapL,List.length_cons]
  have:=gapL_le r (cmtK c)
  omega
 | c::r,false=>by
  rw[gapL,List.length_cons]
  have h1:=gapL_le r false
  have h2:=gapL_le r true
  split
  ·omega
  ·split<;>omega
theorem drop_b (l:List UInt8)(i:Nat)(h:i<l.length):l.drop i=Pl.b l i::l.drop (i+1):=by
 rw[Pl.b_lt l i h]
 exact List.drop_eq_getElem_cons h
theorem gap_ge (l:List UInt8)(i:Nat):i≤gap l i:=Nat.le_add_right _ _
theorem gap_le (l:List UInt8)(i:Nat)(h:i≤l.length):gap l i≤l.length:=by
 have:=gapL_le (l.drop i) false
 rw[List.length_drop] at this
 unfold gap
 omega
theorem gap_step (l:List UInt8)(i:Nat)(h:i<l.length)(hk:gapK (Pl.b l i)=true):gap l i=gap l (i+1):=by
 unfold gap
 rw[drop_b l i h,gapL_false _ _ hk]
 omega
theorem gap_in (l:List UInt8):∀(n i:Nat),l.length-i≤n→i≤l.length→i+gapL true (l.drop i)=gap l (Pl.stop cmtK l i)
 | 0,i,h,hi=>by
  have e:i=l.length:=by omega
  subst e
  have hs:Pl.stop cmtK l l.length=l.length:=Nat.le_antisymm (Pl.stop_le _ _ _ (Nat.le_refl _)) (Pl.stop_ge _ _ _ (Nat.le_refl _))
  rw[hs]
  unfold gap
  rw[List.drop_length]
  rfl
 | n+1,i,h,hi=>by
  by_cases hlt:i<l.length
  ·cases hc:cmtK (Pl.b l i)
   ·have hs:Pl.stop cmtK l i=i:=Pl.stop_eq _ _ _ _ (Nat.le_refl _) hi (fun j h1 h2=>by omega) (fun _=>hc)
    rw[hs]
    have h10:Pl.b l i=10:=by simpa [cmtK] using hc
    unfold gap
    rw[drop_b l i hlt,h10,gapL_false _ _ (by decide)]
    rfl
   ·have hs:Pl.stop cmtK l (i+1)=Pl.stop cmtK l i:=Pl.first_miss _ _ i hlt (by simp[hc])
    have:=gap_in l n (i+1) (by omega) (by omega)
    rw[hs] at this
    rw[← this,drop_b l i hlt,gapL,hc]
    omega
  ·have e:i=l.length:=by omega
   subst e
   have hs:Pl.stop cmtK l l.length=l.length:=Nat.le_antisymm (Pl.stop_le _ _ _ (Nat.le_refl _)) (Pl.stop_ge _ _ _ (Nat.le_refl _))
   rw[hs]
   unfold gap
   rw[List.drop_length]
   rfl
theorem gap_cmt (l:List UInt8)(i:Nat)(h:i<l.length)(hk:Pl.b l i=35):gap l i=gap l (Pl.stop cmtK l i):=by
 rw[← gap_in l (l.length-i) i (Nat.le_refl _) (by omega)]
 unfold gap
 rw[drop_b l i h,hk]
 rfl
theorem gap_done (l:List UInt8)(i:Nat)(h:i<l.length→gapK (Pl.b l i)=false∧Pl.b l i≠35):gap l i=i:=by
 unfold gap
 by_cases hi:i<l.length
 ·obtain⟨h1,h2⟩:=h hi
  rw[drop_b l i hi,gapL,h1]
  simp[h2]
 ·rw[List.drop_eq_nil_of_le (by omega)]
  rfl
theorem qd_pos:∀(l t:List UInt8)(k:Nat),qd l=some (t,k)→t.length<k∧k≤l.length
 | [],t,k,h=>by cases h
 | [c],t,k,h=>by
  rw[qd] at h
  split at h
  ·cases h;exact⟨by decide,by simp⟩
  ·cases h
 | c::d::r,t,k,h=>by
  rw[qd] at h
  split at h
  ·cases h
   exact⟨by decide,by simp⟩
  ·split at h
   ·cases hr:qd r with
    | none=>rw[hr] at h;cases h
    | some x=>
     rw[hr] at h
     obtain⟨t',k'⟩:=x
     cases h
     have:=qd_pos r t' k' hr
     simp only[List.length_cons]
     omega
   ·cases hr:qd (d::r) with
    | none=>rw[hr] at h;cases h
    | some x=>
     rw[hr] at h
     obtain⟨t',k'⟩:=x
     cases h
     have:=qd_pos (d::r) t' k' hr
     simp only[List.length_cons] at this ⊢
     omega
theorem tok_next (l:List UInt8)(p:Nat)(h:p<l.length)(hk:(tok l p).1≠120):p<(tok l p).2.2∧(tok l p).2.2≤l.length:=by
 have st:∀K:UInt8→Bool,K (Pl.b l p)=true→p<Pl.stop K l p∧Pl.stop K l p≤l.length:=fun K hK=>by
  have h1:=Pl.stop_ge K l p (by omega)
  have h2:=Pl.stop_le K l p (by omega)
  refine⟨?_,h2⟩
  rcases Nat.lt_or_ge p (Pl.stop K l p) with h3|h3
  ·exact h3
  ·have e:Pl.stop K l p=p:=by omega
   have:=Pl.stop_not K l p (by omega) (by omega)
   rw[e,hK] at this
   cases this
 unfold tok at hk ⊢
 dsimp only at hk ⊢
 split
 ·rename_i h1
  exact st lowK h1
 ·rename_i h1
  rw[if_neg h1] at hk
  split
  ·rename_i h2
   rw[if_pos h2] at hk
   split
   ·rename_i h3
    exact⟨by dsimp only;omega,Pl.stop_le _ _ _ (by omega)⟩
   ·rename_i h3
    rw[if_neg h3] at hk
    exact absurd rfl hk
  ·rename_i h2
   rw[if_neg h2] at hk
   split
   ·rename_i h3
    rw[if_pos h3] at hk
    split
    ·exact st digK h3
    ·rename_i h4
     rw[if_neg h4] at hk
     exact absurd rfl hk
   ·rename_i h3
    rw[if_neg h3] at hk
    split
    ·rename_i h4
     rw[if_pos h4] at hk
     split
     ·rename_i t k hq
      rw[hq] at hk
      dsimp only at hk
      split
      ·have:=qd_pos _ t k hq
       rw[List.length_drop] at this
       dsimp only
       omega
      ·rename_i h5
       rw[if_neg h5] at hk
       exact absurd rfl hk
     ·rename_i hq
      rw[hq] at hk
      exact absurd rfl hk
    ·rename_i h4
     rw[if_neg h4] at hk
     split
     ·exact⟨by dsimp only;omega,by dsimp only;omega⟩
     ·rename_i h5
      rw[if_neg h5] at hk
      exact absurd rfl hk
end Rf
namespace Rf
abbrev wIf:List UInt8:=[105,102]
abbrev wElsif:List UInt8:=[101,108,115,105,102]
abbrev wElse:List UInt8:=[101,108,115,101]
abbrev wRepeat:List UInt8:=[114,101,112,101,97,116]
abbrev wSet:List UInt8:=[115,101,116]
abbrev wOver:List UInt8:=[58,111,118,101,114]
abbrev wUnder:List UInt8:=[58,117,110,100,101,114]
abbrev wIs:List UInt8:=[58,105,115]
abbrev wContains:List UInt8:=[58,99,111,110,116,97,105,110,115]
abbrev wMatches:List UInt8:=[58,109,97,116,99,104,101,115]
def cmdK (t:List UInt8):Int:=if t == [107,101,101,112] then 4 else if t == [100,105,115,99,97,114,100] then 5 else if t == [115,116,111,112] then 6 else if t == [102,105,108,101,105,110,116,111] then 7 else if t == [114,101,100,105,114,101,99,116] then 8 else if t == [114,101,106,101,99,116] then 9 else if t == [97,100,100,102,108,97,103] then 10 else 0
def tstK (t:List UInt8):Int:=if t == [116,114,117,101] then 20 else if t == [102,97,108,115,101] then 21 else if t == [110,111,116] then 22 else if t == [97,108,108,111,102] then 23 else if t == [97,110,121,111,102] then 24 else if t == [104,101,97,100,101,114] then 25 else if t == [97,100,100,114,101,115,115] then 26 else if t == [101,110,118,101,108,111,112,101] then 27 else if t == [101,120,105,115,116,115] then 28 else if t == [115,105,122,101] then 29 else if t == [115,116,114,105,110,103] then 31 else 0
def kind (T:List Tk)(i:Nat):Nat:=(T[i]?.map (·.kind)).getD 120
def text (T:List Tk)(i:Nat):List UInt8:=(T[i]?.map (·.text)).getD []
def pos (T:List Tk)(i:Nat):Nat:=(T[i]?.map (·.pos)).getD 0
def is (T:List Tk)(i k:Nat)(t:List UInt8):Bool:=kind T i==k && text T i==t
def ba (t:List UInt8):ByteArray:=⟨t.toArray⟩
def num (t:List UInt8):Nat:=t.foldl (fun n c=>10*n+(c.toNat-48)) 0
def isName (t:List UInt8):Bool:=decide (1≤t.length) && decide (t.length≤20) && t.all lowK
def zn (k:Int):Nd:=⟨k,0,0,⟨#[]⟩,[],[],[]⟩
inductive Out
 | ok (i:Nat) (N:List Nd)
 | bad (i:Nat)
inductive TO
 | ok (i:Nat) (L:List ByteArray)
 | bad (i:Nat)
inductive KO
 | ok (i:Nat) (N:List Nd) (ks:List Int)
 | bad (i:Nat)
def last (N:List Nd):Int:=(N.length:Int)-1
def txtsTail (T:List Tk):Nat→Nat→List ByteArray→TO
 | 0,i,_=>.bad i
 | f+1,i,L=>
  if is T i 112 [44] then (if kind T (i+1)==116 then txtsTail T f (i+2) (L ++ [ba (text T (i+1))]) else .bad (i+1))
  else if is T i 112 [93] then .ok (i+1) L else .bad i
def txts (T:List Tk)(i:Nat):TO:=
 if is T i 112 [91] then (if kind T (i+1)==116 then txtsTail T T.length (i+2) [ba (text T (i+1))] else .bad (i+1))
 else if kind T i==116 then .ok (i+1) [ba (text T i)] else .bad i
def tsts (T:List Tk)(t:Nat→List Nd→Out):Nat→Nat→List Nd→List Int→KO
 | 0,i,_,_=>.bad i
 | f+1,i,N,ks=>
  if is T i 112 [44] then
   match t (i+1) N with
   | .ok i' N'=>tsts T t f i' N' (ks ++ [last N'])
   | .bad j=>.bad j
  else if is T i 112 [41] then .ok (i+1) N ks else .bad i
def cmds (T:List Tk)(c:Nat→List Nd→Out):Nat→Nat→List Nd→List Int→KO
 | 0,i,_,_=>.bad i
 | f+1,i,N,ks=>
  if is T i 112 [125] then .ok (i+1) N ks
  else match c i N with
   | .ok i' N'=>cmds T c f i' N' (ks ++ [last N'])
   | .bad j=>.bad j
def blk (T:List Tk)(c:Nat→List Nd→Out)(i:Nat)(N:List Nd):Out:=
 if is T i 112 [123] then
  match cmds T c T.length (i+1) N [] with
  | .ok i' N' ks=>.ok i' (N' ++ [{ zn 1 with kids:=ks }])
  | .bad j=>.bad j
 else .bad i
def matchOf (T:List Tk)(i:Nat):Option Int:=
 if is T i 58 wIs then some 0 else if is T i 58 wContains then some 1 else if is T i 58 wMatches then some 2 else none
def tst (T:List Tk)(t:Nat→List Nd→Out)(i:Nat)(N:List Nd):Out:=
 if kind T i==119 && tstK (text T i) != 0 then
  let k:=tstK (text T i)
  if k==22 then
   match t (i+1) N with
   | .ok i' N'=>.ok i' (N' ++ [{ zn 22 with kids:=[last N'] }])
   | .bad j=>.bad j
  else if k==23 || k==24 then
   if is T (i+1) 112 [40] then
    match t (i+2) N with
    | .ok i' N'=>
     match tsts T t T.length i' N' [last N'] with
     | .ok i2 N2 ks=>.ok i2 (N2 ++ [{ zn k with kids:=ks }])
     | .bad j=>.bad j
    | .bad j=>.bad j
   else .bad (i+1)
  else if k==25 || k==26 || k==27 || k==31 then
   match matchOf T (i+1) with
   | some m=>
    match txts T (i+2) with
    | .ok i1 A=>
     match txts T i1 with
     | .ok i2 B=>.ok i2 (N ++ [{ zn k with mat:=m,names:=A,keys:=B }])
     | .bad j=>.bad j
    | .bad j=>.bad j
   | none=>.bad (i+1)
  else if k==28 then
   match txts T (i+1) with
   | .ok i1 A=>.ok i1 (N ++ [{ zn 28 with names:=A }])
   | .bad j=>.bad j
  else if k==29 then
   if is T (i+1) 58 wUnder || is T (i+1) 58 wOver then
    if kind T (i+2)==110 && decide (num (text T (i+2))≤999999999) then .ok (i+3) (N ++ [{ zn (if is T (i+1) 58 wUnder then 30 else 29) with num:=(num (text T (i+2)):Int) }])
    else .bad (i+2)
   else .bad (i+1)
  else .ok (i+1) (N ++ [zn k])
 else .bad i
def cho (T:List Tk)(t c:Nat→List Nd→Out):Nat→Nat→List Nd→Out
 | 0,i,_=>.bad i
 | f+1,i,N=>
  match t i N with
  | .ok i1 N1=>
   match blk T c i1 N1 with
   | .ok i2 N2=>
    if is T i2 119 wElsif then
     match cho T t c f (i2+1) N2 with
     | .ok i3 N3=>.ok i3 (N3 ++ [{ zn 2 with kids:=[last N1,last N2,last N3] }])
     | .bad j=>.bad j
    else if is T i2 119 wElse then
     match blk T c (i2+1) N2 with
     | .ok i3 N3=>.ok i3 (N3 ++ [{ zn 2 with kids:=[last N1,last N2,last N3] }])
     | .bad j=>.bad j
    else .ok i2 (N2 ++ [{ zn 2 with kids:=[last N1,last N2] }])
   | .bad j=>.bad j
  | .bad j=>.bad j
def cmd (T:List Tk)(t c:Nat→List Nd→Out)(i:Nat)(N:List Nd):Out:=
 if kind T i==119 then
  if text T i==wIf then cho T t c T.length (i+1) N
  else if text T i==wRepeat then
   if kind T (i+1)==110 && decide (num (text T (i+1))≤100) then
    match blk T c (i+2) N with
    | .ok i' N'=>.ok i' (N' ++ [{ zn 3 with num:=(num (text T (i+1)):Int),kids:=[last N'] }])
    | .bad j=>.bad j
   else .bad (i+1)
  else if text T i==wSet then
   if kind T (i+1)==116 && isName (text T (i+1)) then
    if kind T (i+2)==116 then
     if is T (i+3) 112 [59] then .ok (i+4) (N ++ [{ zn 11 with names:=[ba (text T (i+1))],text:=ba (text T (i+2)) }]) else .bad (i+3)
    else .bad (i+2)
   else .bad (i+1)
  else if cmdK (text T i)==0 then .bad i
  else if 7≤cmdK (text T i) then
   if kind T (i+1)==116 then
    if is T (i+2) 112 [59] then .ok (i+3) (N ++ [{ zn (cmdK (text T i)) with text:=ba (text T (i+1)) }]) else .bad (i+2)
   else .bad (i+1)
  else if is T (i+1) 112 [59] then .ok (i+2) (N ++ [zn (cmdK (text T i))]) else .bad (i+1)
 else .bad i
def lv (T:List Tk):Nat→(Nat→List Nd→Out) × (Nat→List Nd→Out)
 | 0=>(fun i _=>.bad i,fun i _=>.bad i)
 | f+1=>(tst T (lv T f).1,cmd T (lv T f).1 (lv T f).2)
def all (T:List Tk)(c:Nat→List Nd→Out):Nat→Nat→List Nd→List Int→KO
 | 0,i,_,_=>.bad i
 | f+1,i,N,ks=>
  if kind T i==101 then .ok i N ks
  else match c i N with
   | .ok i' N'=>all T c f i' N' (ks ++ [last N'])
   | .bad j=>.bad j
def script (T:List Tk):Out:=
 match all T (lv T T.length).2 T.length 0 [] [] with
 | .ok i N ks=>.ok i (N ++ [{ zn 1 with kids:=ks }])
 | .bad j=>.bad j
end Rf
namespace Fn
def low (c:UInt8):Bool:=decide (97≤c.toNat) && decide (c.toNat≤122)
def nameOk (t:ByteArray):Bool:=decide (1≤t.size) && (decide (t.size≤20) && t.data.toList.all low)
def isTest (k:Int):Bool:=decide (20≤k) && decide (k≤31)
def isCmd (k:Int):Bool:=decide (2≤k) && decide (k≤11)
end Fn
theorem specLow (c:UInt8)(w:World):Calls Tryz.prog 86 #[.int .u8 (c.toNat:Int)] w fun e w'=>e=.returned (.bool (Fn.low c))∧w=w':=by
 have h8:c.toNat<256:=UInt8.toNat_lt _
 unfold Fn.low
 by_cases h1:97≤c.toNat
 ·by_cases h2:c.toNat≤122
  ·rw[decide_eq_true h1,decide_eq_true h2]
   have h2':decide ((c.toNat:Int)≤122)=true:=by simp;omega
   go_enter Tryz.func86,Tryz.ntmps86
   go_wp2
   go_ret
   exact⟨rfl,rfl⟩
  ·rw[decide_eq_true h1,decide_eq_false h2]
   have h2':decide ((c.toNat:Int)≤122)=false:=by simp;omega
   go_enter Tryz.func86,Tryz.ntmps86
   go_wp2
   go_ret
   exact⟨rfl,rfl⟩
 ·rw[decide_eq_false h1]
  go_enter Tryz.func86,Tryz.ntmps86
  go_wp2
  go_ret
  exact⟨rfl,rfl⟩
theorem all_drop {α:Type} (f:α→Bool)(l:List α)(k:Nat)(h:k<l.length):(l.drop k).all f=(f l[k] && (l.drop (k+1)).all f):=by
 rw[List.drop_eq_getElem_cons h,List.all_cons]
theorem specName (s:ByteArray)(w:World)(hs:s.size≤1048576) :
  Calls Tryz.prog 93 #[.string s] w fun e w'=>e=.returned (.bool (Fn.nameOk s))∧w=w':=by
 unfold Fn.nameOk
 by_cases h1:1≤s.size
 ·by_cases h2:s.size≤20
  ·rw[decide_eq_true h1,decide_eq_true h2,Bool.true_and,Bool.true_and]
   obtain⟨A,hA⟩:∃A,s.data.toList.all Fn.low=A:=⟨_,rfl⟩
   rw[hA]
   have hA:=mkHid hA
   have hll:Hid (s.data.toList.length=s.size):=by simp[Hid]
   go_enter Tryz.func93,Tryz.ntmps93
   go_wp2
   go_loopw [3] (fun i wr=>∃ k:Nat,k≤s.size∧i=.int .i64 k∧Hid ((s.data.toList.drop k).all Fn.low=A)∧wr=w) (fun i _=>s.size-(Lib.intOf i).toNat)
   case atStart=>exact⟨0,Nat.zero_le _,rfl,hA,rfl⟩
   case round=>
    obtain⟨k,hk,rfl,hal,hWr⟩:=hrel
    have hWr':wr=w:=hWr
    clear hWr
    subst hWr'
    by_cases hlt:k<s.size
    ·have hst:=all_drop Fn.low s.data.toList k (by rw[hll.out];exact hlt)
     rw[hal.out,show s.data.toList[k]'(by rw[hll.out];exact hlt)=s[k] from rfl] at hst
     replace hst:=mkHid hst
     cases hc:Fn.low s[k]
     ·have hf:Hid (A=false):=by rw[hst.out,hc];exact Bool.false_and _
      have hL:=specLow s[k] wr
      rw[hc] at hL
      clear hst hal hc
      go_wp2_with fail
      refine hL.mono ?_
      rintro e w2 ⟨rfl,rfl⟩
      go_wp2
      go_ret
      rw[hf.out]
      exact⟨rfl,rfl⟩
     ·have hf:Hid ((s.data.toList.drop (k+1)).all Fn.low=A):=by rw[hst.out,hc];exact(Bool.true_and _).symm
      have hL:=specLow s[k] wr
      rw[hc] at hL
      clear hst hal hc
      go_wp2_with fail
      refine hL.mono ?_
      rintro e w2 ⟨rfl,rfl⟩
      go_wp2
      go_roundw
      case rel=>exact⟨k+1,by omega,by go_num,hf,trivial⟩
      case measure=>simp[Lib.intOf];omega
    ·have hf:Hid (A=true):=by
      have:=hal.out
      rw[List.drop_eq_nil_of_le (by rw[hll.out];omega)] at this
      exact this.symm
     go_wp2
     go_ret
     rw[hf.out]
     exact⟨rfl,rfl⟩
  ·rw[decide_eq_true h1,decide_eq_false h2]
   go_enter Tryz.func93,Tryz.ntmps93
   go_wp2
   go_ret
   exact⟨rfl,rfl⟩
 ·rw[decide_eq_false h1]
  go_enter Tryz.func93,Tryz.ntmps93
  go_wp2
  go_ret
  exact⟨rfl,rfl⟩
abbrev TkE:=Nat × ByteArray × Nat
def cell3 (e:TkE):List Value:=[.int .u8 (e.1:Int),.string e.2.1,.int .i64 (e.2.2:Int)]
def tkCells (E:List TkE):List Value:=E.flatMap cell3
theorem cell3_len (e:TkE):(cell3 e).length=3:=rfl
theorem tkCells_app (E:List TkE)(e:TkE):tkCells (E ++ [e])=tkCells E++cell3 e:=by simp[tkCells,List.flatMap_append]
theorem tkCells_at (E:List TkE):∀(i:Nat)(h:i<E.length)(j:Nat),j<3→(tkCells E)[i*3+j]?=(cell3 E[i])[j]?:=by
 induction E with
 | nil=>intro i h;exact absurd h (Nat.not_lt_zero _)
 | cons r t ih=>
  intro i h j hj
  have e:tkCells (r::t)=cell3 r++tkCells t:=rfl
  rw[e]
  cases i with
  | zero=>
   rw[List.getElem?_append_left (by rw[cell3_len];omega)]
   simp
  | succ i=>
   have h':i<t.length:=by simpa using h
   rw[List.getElem?_append_right (by rw[cell3_len];omega),cell3_len,show(i+1)*3+j-3=i*3+j by omega,ih i h' j hj]
   rfl
def OwnK (B:Nat)(v:Value)(E:List TkE)(w:World):Prop:=w.ownsRow B 111 3 v E.length (tkCells E)
theorem OwnK.made (B:Nat)(w:World)(h:B≤w.heap.size):OwnK B (.slice (some ⟨w.heap.size,0,none⟩) 0 0) [] (w.alloc (.cells #[] 111)):=
 ⟨rfl,.inr ⟨w.heap.size,0,#[],rfl,h,heap_alloc_at _ _,Nat.le_refl _,Nat.zero_le _,rfl,rfl⟩⟩
theorem OwnK.shape {B:Nat} {v:Value} {E:List TkE} {w:World} (h:OwnK B v E w):∃o cap,v=.slice o E.length cap:=by
 rcases h.2 with ⟨rfl,h0⟩|⟨g,cap,cur,rfl,-⟩
 ·exact⟨none,0,by rw[h0]⟩
 ·exact⟨_,cap,rfl⟩
theorem OwnK.below {B:Nat} {v:Value} {E:List TkE} {w w':World} (h:OwnK B v E w)(hb:Below w.heap.size w w'):OwnK B v E w':=World.ownsRow.kept h (row:=none) ⟨hb.os,hb.tape,hb.output,hb.size,fun k hk _=>hb.block k hk⟩ (by cases v.ownBlock<;>simp)
theorem OwnK.at {B:Nat} {o:Option Addr} {n cap:Nat} {E:List TkE} {w:World} (h:OwnK B (.slice o n cap) E w)(k:Nat)(hk:k<E.length):∃q,o=some ⟨q,0,none⟩∧q<w.heap.size∧B≤q∧w.cell? ⟨q,k*3,none⟩=some (.int .u8 (E[k].1:Int))∧w.cell? ⟨q,k*3+1,none⟩=some (.string E[k].2.1)∧w.cell? ⟨q,k*3+2,none⟩=some (.int .i64 (E[k].2.2:Int)):=by
 have hl:=World.ownsRow.lt h
 rcases h.2 with ⟨h1,h0⟩|⟨q,cap',cur,h1,hB,-⟩
 ·omega
 ·simp only[Value.slice.injEq] at h1
  obtain⟨rfl,rfl,rfl⟩:=h1
  have key:∀j,j<3→∀y,(cell3 E[k])[j]?=some y→w.cell? ⟨q,k*3+j,none⟩=some y:=fun j hj y hy=>by
   have:=World.ownsRow.cells h (g:=q) rfl (k*3+j) y (by rw[tkCells_at E k hk j hj];exact hy)
   rw[add_off] at this
   exact this
  exact⟨q,rfl,(hl q rfl).2,hB,key 0 (by omega) _ rfl,key 1 (by omega) _ rfl,key 2 (by omega) _ rfl⟩
theorem Tryz.infoK:(Tryz.prog.info? 111).map (fun i=>(i.zero,i.size,i.bytes))=some (some (.agg #[.int .u8 0,.string ⟨#[]⟩,.int .i64 0]),3,32):=by kernel_rfl
theorem wp_appK {w:World} {ops:Array Oper} {rest:List Oper} {o:Oper} {a:Act} {Q:Exit→Act→World→Prop} (hgd:o.guard=none)(s x:Operand)
  (ho:o.op=.call { callee:=.builtin .append,args:=#[s,x],argTypes:=#[103,103] })
  (B:Nat) (v:Value) (E:List TkE) (hs:a.eval s=v) (hown:OwnK B v E w) (e:TkE)
  (c:Nat) (hx:a.eval x=.slice (some ⟨w.heap.size,0,none⟩) 1 c) (hlen:E.length≤1000000) (hB:B≤w.heap.size)
  (h:∀v' w',OwnK B v' (E ++ [e]) w'→(w.alloc (.cells #[.int .u8 (e.1:Int),.string e.2.1,.int .i64 (e.2.2:Int)] 111)).grownBy w' v.ownBlock→wpList Tryz.prog ops Q rest (a.put o.dst v') w'):wpList Tryz.prog ops Q (o::rest) a (w.alloc (.cells #[.int .u8 (e.1:Int),.string e.2.1,.int .i64 (e.2.2:Int)] 111)):=by
 obtain⟨i0,hi0,hz0,hz1,hz2⟩:=info_parts Tryz.infoK
 unfold OwnK at hown
 refine wpList_append_own _ hgd s x 103 ho B 111 i0 _ 3 32 Tryz.underlying103 hi0 hz0 hz1 hz2 rfl (by decide) v E.length (tkCells E) hs (World.ownsRow.alloc hown _) ⟨w.heap.size,0,none⟩ 1 c (cell3 e) hx
  rfl ?_ ?_ (by unfold maxLen;omega) (by omega) (by simp;omega) ?_
 ·intro j y hj
  rw[add_off]
  match j,hj with
  | 0,hj=>simp[cell3] at hj;subst hj;simp
  | 1,hj=>simp[cell3] at hj;subst hj;simp
  | 2,hj=>simp[cell3] at hj;subst hj;simp
 ·intro y hy
  simp only[cell3,List.mem_cons,List.not_mem_nil,or_false] at hy
  rcases hy with rfl|rfl|rfl<;>rfl
 ·intro v' w' h1 h2 _
  refine h v' w' ?_ h2
  unfold OwnK
  rw[tkCells_app,List.length_append]
  exact h1
theorem specDig (c:UInt8)(w:World):Calls Tryz.prog 87 #[.int .u8 (c.toNat:Int)] w fun e w'=>e=.returned (.bool (Rf.digK c))∧w=w':=by
 have h8:c.toNat<256:=UInt8.toNat_lt _
 unfold Rf.digK
 by_cases h1:48≤c.toNat
 ·by_cases h2:c.toNat≤57
  all_goals
   go_enter Tryz.func87,Tryz.ntmps87
   go_wp2
   go_ret
   exact⟨by simp[h1,h2];omega,rfl⟩
 ·go_enter Tryz.func87,Tryz.ntmps87
  go_wp2
  go_ret
  exact⟨by simp,rfl⟩
theorem specLowR (c:UInt8)(w:World):Calls Tryz.prog 86 #[.int .u8 (c.toNat:Int)] w fun e w'=>e=.returned (.bool (Rf.lowK c))∧w=w':=by
 refine(specLow c w).mono ?_
 rintro e w' ⟨rfl,rfl⟩
 exact⟨rfl,rfl⟩
theorem byte_all (p:UInt8→Bool)(h:∀k:Fin 256,p (UInt8.ofFin k)=true)(c:UInt8):p c=true:=by
 have:=h c.toFin
 simpa using this
theorem sign_ix (c:UInt8):decide (0≤ixFrom [123,125,40,41,91,93,44,59] c 0)=Rf.isSign c:=
 of_decide_eq_true (byte_all (fun c=>decide (decide (0≤ixFrom [123,125,40,41,91,93,44,59] c 0)=Rf.isSign c)) (by decide +kernel) c)
theorem specSgn (c:UInt8)(w:World):Calls Tryz.prog 85 #[.string ⟨#[123,125,40,41,91,93,44,59]⟩,.string ⟨#[c]⟩,.int .i64 0] w fun e w'=>∃ z:Int,e=.returned (.int .i64 z)∧Hid (decide (0≤z)=Rf.isSign c)∧w=w':=by
 refine(specIndex1 _ c w (by show 8≤1100000;omega)).mono ?_
 rintro e w' ⟨rfl,rfl⟩
 exact⟨_,rfl,sign_ix c,rfl⟩
structure Rs (g:Nat)(tv:Value)(TE:List TkE)(i:Nat)(bad many:Bool)(v:Value)(E:List NdE)(w:World):Prop where
 blk:w.heap[g]?=some (.cells #[tv,.int .i64 (i:Int),.bool bad,.bool many,v] 106 (0,0))
 tks:OwnK 0 tv TE w
 nt:Nt (g+1) v E w
theorem five {w:World} {b:Nat} {x0 x1 x2 x3 x4:Value} {t:TypeId} {z:Nat × Nat} (h:w.heap[b]?=some (.cells #[x0,x1,x2,x3,x4] t z)) :
  w.cell? ⟨b,0,none⟩=some x0∧w.cell? ⟨b,1,none⟩=some x1∧w.cell? ⟨b,2,none⟩=some x2∧w.cell? ⟨b,3,none⟩=some x3∧w.cell? ⟨b,4,none⟩=some x4:=by
 refine⟨?_,?_,?_,?_,?_⟩<;>simp[World.cell?,h]
theorem Rs.below {g:Nat} {tv:Value} {TE:List TkE} {i:Nat} {bad many:Bool} {v:Value} {E:List NdE} {w w':World} (h:Rs g tv TE i bad many v E w)(hb:Below w.heap.size w w'):Rs g tv TE i bad many v E w':=
 ⟨(hb.block g (heap_ltM h.blk)).trans h.blk,h.tks.below hb,h.nt.below hb⟩
theorem tk_far {g:Nat} {tv:Value} {TE:List TkE} {cs:Array Value} {w:World} (hb:w.heap[g]?=some (.cells cs 106 (0,0)))(h:OwnK 0 tv TE w):tv.ownBlock=none∨tv.ownBlock≠some g:=by
 rcases h.2 with ⟨rfl,-⟩|⟨q,cap,cur,rfl,-,hq,-⟩
 ·exact .inl rfl
 ·right
  intro e
  simp only[Value.ownBlock,Option.some.injEq] at e
  rw[e,hb] at hq
  simp only[Option.some.injEq,Obj.cells.injEq] at hq
  exact absurd hq.2.1 (by decide)
theorem Rs.set {g:Nat} {tv:Value} {TE:List TkE} {i:Nat} {bad many:Bool} {v:Value} {E:List NdE} {w:World} (h:Rs g tv TE i bad many v E w)(j:Nat)(u:Value)(i':Nat)(bad' many':Bool)
  (hc:#[tv,.int .i64 (i:Int),.bool bad,.bool many,v].setIfInBounds j u=#[tv,.int .i64 (i':Int),.bool bad',.bool many',v]):Rs g tv TE i' bad' many' v E (w.setCell ⟨g,j,none⟩ u):=
 ⟨by simp[World.setCell,Array.getElem?_modify,h.blk];have:=congrArg Array.toList hc;simpa using this,World.ownsRow.kept h.tks (grG_set w g j u) (tk_far h.blk h.tks),h.nt.set (by omega)⟩
theorem Ef.set (g:Nat)(r:Option Nat)(w:World)(j:Nat)(u:Value):Ef g r w (w.setCell ⟨g,j,none⟩ u):=
 ⟨rfl,rfl,rfl,by simp[World.setCell],fun k hk hg _=>(grG_set w g j u).block k hk (by simp;omega)⟩
theorem Ef.refl2 (g:Nat)(r:Option Nat)(w:World):Ef g r w w:=⟨rfl,rfl,rfl,Nat.le_refl _,fun _ _ _ _=>rfl⟩
def isE (TE:List TkE)(i:Nat)(k:Nat)(t:ByteArray):Bool:=(TE[i]?.map fun e=>e.1==k && e.2.1.toList==t.toList).getD false
theorem specIs (g:Nat)(tv:Value)(TE:List TkE)(i:Nat)(bad many:Bool)(v:Value)(E:List NdE)(w:World)(k:Nat)(t:ByteArray)(h:Rs g tv TE i bad many v E w)(hi:i<TE.length) :
  Calls Tryz.prog 131 #[.pointer (some ⟨g,0,none⟩),.int .u8 (k:Int),.string t] w fun e w'=>e=.returned (.bool (!bad && isE TE i k t))∧Below w.heap.size w w':=by
 obtain⟨c0,c1,c2,c3,c4⟩:=five h.blk
 obtain⟨o,cap,rfl⟩:=h.tks.shape
 obtain⟨q,rfl,-,-,e0,e1,e2⟩:=h.tks.at i hi
 have hE:isE TE i k t=(TE[i].1==k && TE[i].2.1.toList==t.toList):=by unfold isE;rw[List.getElem?_eq_getElem hi];rfl
 rw[hE]
 generalize TE[i].1=k1 at *
 generalize TE[i].2.1=t1 at *
 clear h hE
 have hii:(i:Int)<(TE.length:Int):=by omega
 cases bad
 ·cases hk:((k1:Int)==(k:Int))
  ·have hk2:(k1==k)=false:=by
    rw[beq_eq_false_iff_ne] at hk ⊢
    exact fun e=>hk (by rw[e])
   rw[hk2]
   go_enter Tryz.func131,Tryz.ntmps131
   go_wp2
   go_quiet (fail)
   go_wp2
   go_ret
   exact⟨rfl,Go.below_drewN (Below.refl _ _) _⟩
  ·have hk2:(k1==k)=true:=by
    rw[beq_iff_eq] at hk ⊢
    omega
   rw[hk2]
   cases hq:(t1.toList==t.toList)
   all_goals
    go_enter Tryz.func131,Tryz.ntmps131
    go_wp2
    go_quiet (fail)
    go_wp2
    go_ret
    exact⟨rfl,Go.below_drewN (Below.refl _ _) _⟩
 ·go_enter Tryz.func131,Tryz.ntmps131
  go_wp2
  go_quiet (fail)
  go_wp2
  go_ret
  exact⟨rfl,Go.below_drewN (Below.refl _ _) _⟩
end Go.Proofs.YtkcajnjledldnaaGreatDoor
