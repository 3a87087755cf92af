import Derived.Test.YtkcajnjledldnaaGreatDoorRfPut
import Derived.Test.YtkcajnjledldnaaGreatDoorTk
set_option maxRecDepth 20000
namespace Go.Proofs.YtkcajnjledldnaaGreatDoor
open Go.RowKit Go.Lib Go.Maps
theorem opAppKd {w:World} {o:Oper} {a:Act} {K:Act→World→Prop} {Q:Exit→Act→World→Prop} (s x:Operand)
  (ho:o.op=.call { callee:=.builtin .append,args:=#[s,x],argTypes:=#[27,27] })
  (B:Nat) (v:Value) (C:List Int) (hs:a.eval s=v) (hown:OwnN B v C w) (u:Int) (g c:Nat) (hx:a.eval x=.slice (some ⟨g,0,none⟩) 1 c)
  (hnew:w.cell? ⟨g,0,none⟩=some (.int .i64 u)) (hlen:C.length≤1000000) (hB:B≤w.heap.size)
  (h:∀v' w',OwnN B v' (C ++ [u]) w'→w.grownBy w' v.ownBlock→Nw w v v'→K (a.put o.dst v') w'):o.wp Tryz.prog a w K Q:=by
 obtain⟨i0,hi0,hz0,hz1,hz2⟩:=info_parts Tryz.info2
 unfold OwnN at hown
 obtain⟨v',w',hr,h2,h3,h4,h5⟩:=run_append_own_at (P:=Tryz.prog) w B 27 o.type 2 i0 _ 1 _ Tryz.underlying27 hi0 hz0 hz1 hz2 rfl (by decide) v C.length (numCells C) hown ⟨g,0,none⟩ 1 c [.int .i64 u] rfl (by
  intro j y hj
  rw[add_off]
  match j,hj with
  | 0,hj=>simp at hj;subst hj;exact hnew) (by intro y hy;simp at hy;subst hy;rfl) (by unfold maxLen;omega) (by omega) hB
 unfold Oper.wp execOp
 simp only[ho,resolve,invoke,builtin,Sem.run_bind,Sem.run_pure,Result.andThen_ok,List.map_toArray,List.map_cons,List.map_nil,hs,hx,hr]
 refine h v' w' ?_ h3 ?_
 ·unfold OwnN numCells
  rw[List.map_append,List.length_append]
  exact h2
 ·rcases h5 with e|e
  ·exact .inl e
  ·exact .inr ⟨_,Nat.le_refl _,e⟩
abbrev sevC (n:Nd)(vn vk vd:Value):Array Value:=#[.int .i64 n.kind,.int .i64 n.num,.int .i64 n.mat,.string n.text,vn,vk,vd]
theorem own_ne_blk {w:World} {B s m b:Nat} {e t:TypeId} {v:Value} {xs:List Value} {cs:Array Value} {z:Nat × Nat} (h:w.ownsRow B e s v m xs)(hb:w.heap[b]?=some (.cells cs t z))(ht:e≠t):v.ownBlock=none∨v.ownBlock≠some b:=by
 rcases h.2 with ⟨rfl,-⟩|⟨g,cap,cur,rfl,-,hg,-⟩
 ·exact .inl rfl
 ·right
  intro e1
  simp only[Value.ownBlock,Option.some.injEq] at e1
  rw[e1,hb] at hg
  simp only[Option.some.injEq,Obj.cells.injEq] at hg
  exact ht hg.2.1.symm
theorem own_none {w:World} {B s m:Nat} {e:TypeId} {v:Value} {xs:List Value} (h:w.ownsRow B e s v m xs)(hv:v.ownBlock=none):m=0:=by
 rcases h.2 with ⟨-,h0⟩|⟨g,cap,cur,rfl,-⟩
 ·exact h0
 ·cases hv
theorem Rs.grown {g:Nat} {tv:Value} {TE:List TkE} {i:Nat} {bad many:Bool} {v:Value} {E:List NdE} {w w':World} {r:Option Nat} (h:Rs g tv TE i bad many v E w)(hg:w.grownBy w' r)(hr:some g≠r)(ht:tv.ownBlock=none∨tv.ownBlock≠r)(h0:v.ownBlock=none∨v.ownBlock≠r)
  (h1:∀s ∈ slots E,s.2=[]∨s.1.ownBlock=none∨s.1.ownBlock≠r) (h2:∀s ∈ kslots E,s.2=[]∨s.1.ownBlock=none∨s.1.ownBlock≠r):Rs g tv TE i bad many v E w':=
 ⟨(hg.block g (heap_ltM h.blk) hr).trans h.blk,World.ownsRow.kept h.tks hg ht,h.nt.grown hg h0 h1 h2⟩
structure RdP (g:Nat)(tv:Value)(T:List Rf.Tk)(TE:List TkE)(c:Nat)(P:Nat→List Nd→Rf.Out)(i:Nat)(bad many:Bool)(v:Value)(E:List NdE)(w:World)(z:Int)(A:List NdE)(i':Nat)(bad' many':Bool)(v':Value)(w':World):Prop where
 rs:Rs g tv TE i' bad' many' v' (E++A) w'
 ef:Ef g v.ownBlock w w'
 nw:Nw w v v'
 fr:∀s ∈ slots A,s.2=[]∨∀k,s.1.ownBlock=some k→w.heap.size≤k
 frN:∀s ∈ kslots A,s.2=[]∨∀k,s.1.ownBlock=some k→w.heap.size≤k
 lt:i'<T.length
 le:i≤i'
 adv:bad'=false→i<i'
 cnt:A.length+3*i≤3*i'+c
 cnt0:bad'=false→A.length+3*i+1≤3*i'
 out:if bad=true then bad'=true∧i'=i else match P i (E.map (·.1)) with
  | .ok j N=>bad'=false∧i'=j∧N=(E++A).map (·.1)∧z=Rf.last N∧many'=(many || A.any fun e=>decide (100<e.1.names.length) || decide (100<e.1.keys.length))
  | .bad j=>bad'=true∧i'=j
def RdC (fn:Nat)(g:Nat)(tv:Value)(T:List Rf.Tk)(TE:List TkE)(c f:Nat)(P:Nat→List Nd→Rf.Out):Prop:=
 ∀(i:Nat) (bad many:Bool) (v:Value) (E:List NdE) (w:World),Rs g tv TE i bad many v E w→i<T.length→T.length≤i+f→E.length≤3*i+5 →
  Calls Tryz.prog fn #[.pointer (some ⟨g,0,none⟩)] w fun e w'=>∃ z A i' bad' many' v',e=.returned (.int .i64 z)∧RdP g tv T TE c P i bad many v E w z A i' bad' many' v' w'
structure Fm (g:Nat)(tv:Value)(TE:List TkE)(v:Value)(E:List NdE)(w:World)(b:Nat)(n:Nd)(vn vk vd:Value)(i:Nat)(bad many:Bool)(v':Value)(A:List NdE)(wr:World):Prop where
 rs:Rs g tv TE i bad many v' (E++A) wr
 ef:Ef g v.ownBlock w wr
 nw:Nw w v v'
 fr:∀s ∈ slots A,s.2=[]∨∀k,s.1.ownBlock=some k→w.heap.size≤k
 frN:∀s ∈ kslots A,s.2=[]∨∀k,s.1.ownBlock=some k→w.heap.size≤k
 blk:wr.heap[b]?=some (.cells (sevC n vn vk vd) 109 (0,0))
 hb:w.heap.size≤b
 hg:g<w.heap.size
 hvb:v'.ownBlock≠some b
 on:OwnX w.heap.size vn n.names wr
 ok:OwnX w.heap.size vk n.keys wr
 od:OwnN w.heap.size vd n.kids wr
 fnk:vn.ownBlock=none∨vn.ownBlock≠vk.ownBlock
 fn:∀s ∈ slots (E++A),s.2=[]∨s.1.ownBlock=none∨s.1.ownBlock≠vn.ownBlock
 fk:∀s ∈ slots (E++A),s.2=[]∨s.1.ownBlock=none∨s.1.ownBlock≠vk.ownBlock
 fd:∀s ∈ kslots (E++A),s.2=[]∨s.1.ownBlock=none∨s.1.ownBlock≠vd.ownBlock
section
variable {g:Nat} {tv:Value} {T:List Rf.Tk} {TE:List TkE} {v v':Value} {E A:List NdE} {w wr:World} {b:Nat} {n:Nd} {vn vk vd:Value} {i:Nat} {bad many:Bool}
theorem Fm.start {w1:World} (hg:g<w.heap.size)(h1:Rs g tv TE i bad many v E w1)(e1:Ef g none w w1)(k:Int):Fm g tv TE v E w w1.heap.size (Rf.zn k) (.slice none 0 0) (.slice none 0 0) (.slice none 0 0) i bad many v [] (w1.alloc (.cells (sevC (Rf.zn k) (.slice none 0 0) (.slice none 0 0) (.slice none 0 0)) 109)):=by
 have hb:Below w1.heap.size w1 (w1.alloc (.cells (sevC (Rf.zn k) (.slice none 0 0) (.slice none 0 0) (.slice none 0 0)) 109)):=(Below.refl _ _).alloc (Nat.le_refl _) _
 have e2:Ef g v.ownBlock w w1:=⟨e1.os,e1.tape,e1.output,e1.size,fun k hk hg _=>e1.keep k hk hg (by simp)⟩
 refine⟨by rw[List.append_nil];exact h1.below hb,e2.then_below hb,.inl rfl,fun _ h=>(List.not_mem_nil h).elim,fun _ h=>(List.not_mem_nil h).elim,heap_alloc_at _ _,e1.size,hg,?_,OwnX.nil _ _,OwnX.nil _ _,World.ownsRow_nil _ _ 2 1,.inl rfl,?_,?_,?_⟩
 ·intro e
  have:=(World.ownsRow.lt h1.nt.row _ e).2
  omega
 all_goals
  intro s _
  right
  cases s.1.ownBlock
  ·exact .inl rfl
  ·exact .inr (by simp[Value.ownBlock])
theorem Fm.small {i':Nat} {bad' many':Bool} {w1:World} (h:Fm g tv TE v E w b n vn vk vd i bad many v' A wr)(h1:Rs g tv TE i' bad' many' v' (E++A) w1)(e1:Ef g none wr w1):Fm g tv TE v E w b n vn vk vd i' bad' many' v' A w1:=by
 have key:∀k,w.heap.size≤k→k<wr.heap.size→w1.heap[k]?=wr.heap[k]?:=fun k h1 h2=>e1.keep k h2 (by have:=h.hg;omega) (by simp)
 have ef2:Ef g v.ownBlock w w1:=⟨e1.os.trans h.ef.os,e1.tape.trans h.ef.tape,e1.output.trans h.ef.output,Nat.le_trans h.ef.size e1.size,fun k hk hg hr=>(e1.keep k (Nat.lt_of_lt_of_le hk h.ef.size) hg (by simp)).trans (h.ef.keep k hk hg hr)⟩
 exact⟨h1,ef2,h.nw,h.fr,h.frN,(key b h.hb (heap_ltM h.blk)).trans h.blk,h.hb,h.hg,h.hvb,own_keep1 h.on fun k hk=>key k (World.ownsRow.lt h.on k hk).1 (World.ownsRow.lt h.on k hk).2,own_keep1 h.ok fun k hk=>key k (World.ownsRow.lt h.ok k hk).1 (World.ownsRow.lt h.ok k hk).2,own_keep1 h.od fun k hk=>key k (World.ownsRow.lt h.od k hk).1 (World.ownsRow.lt h.od k hk).2,h.fnk,h.fn,h.fk,h.fd⟩
theorem slots_mem {E A:List NdE} {s:Sl} (h:s ∈ slots (E++A)):s ∈ slots E∨s ∈ slots A:=by
 unfold slots at h
 rw[List.flatMap_append] at h
 exact List.mem_append.1 h
theorem kslots_mem {E A:List NdE} {s:Sn} (h:s ∈ kslots (E++A)):s ∈ kslots E∨s ∈ kslots A:=by
 unfold kslots at h
 rw[List.map_append] at h
 exact List.mem_append.1 h
theorem Fm.call {c:Nat} {P:Nat→List Nd→Rf.Out} {z:Int} {A1:List NdE} {i':Nat} {bad' many':Bool} {v1:Value} {w1:World} (h:Fm g tv TE v E w b n vn vk vd i bad many v' A wr)(p:RdP g tv T TE c P i bad many v' (E++A) wr z A1 i' bad' many' v1 w1):Fm g tv TE v E w b n vn vk vd i' bad' many' v1 (A++A1) w1:=by
 have hs:=h.ef.size
 have key:∀k,w.heap.size≤k→k<wr.heap.size→some k≠v'.ownBlock→w1.heap[k]?=wr.heap[k]?:=fun k h1 h2 h3=>p.ef.keep k h2 (by have:=h.hg;omega) h3
 have k2:∀{B e s m:Nat} {x:Value} {xs:List Value},wr.ownsRow B e s x m xs→e≠109→w.heap.size≤B→∀k,x.ownBlock=some k→w1.heap[k]?=wr.heap[k]?:=by
  intro B e s m x xs ho he hB k hk
  have hl:=World.ownsRow.lt ho k hk
  refine key k (by omega) hl.2 ?_
  rcases own_apart9 ho h.rs.nt.row he with e|e
  ·rw[e] at hk;cases hk
  ·rw[← hk];exact e
 have app:(E++A)++A1=E++(A++A1):=List.append_assoc _ _ _
 have hbl:=heap_ltM h.blk
 refine⟨app ▸ p.rs,h.ef.trans h.nw p.ef,h.nw.trans hs p.nw,?_,?_,(key b h.hb hbl (fun e=>h.hvb e.symm)).trans h.blk,h.hb,h.hg,?_,own_keep1 h.on (k2 h.on (by decide) (Nat.le_refl _)),own_keep1 h.ok (k2 h.ok (by decide) (Nat.le_refl _)),own_keep1 h.od (k2 h.od (by decide) (Nat.le_refl _)),h.fnk,?_,?_,?_⟩
 ·intro s hs'
  rcases slots_mem hs' with h1|h1
  ·exact h.fr s h1
  ·exact(p.fr s h1).imp id fun h2 k hk=>Nat.le_trans hs (h2 k hk)
 ·intro s hs'
  rcases kslots_mem hs' with h1|h1
  ·exact h.frN s h1
  ·exact(p.frN s h1).imp id fun h2 k hk=>Nat.le_trans hs (h2 k hk)
 ·rcases p.nw with e|⟨k,hk,e⟩
  ·rw[e];exact h.hvb
  ·rw[e];intro e2;cases e2;omega
 all_goals
  intro s hs'
  rw[← app] at hs'
 ·rcases slots_mem hs' with h1|h1
  ·exact h.fn s h1
  ·refine(p.fr s h1).imp id fun h2=>?_
   cases ho:s.1.ownBlock with
   | none=>exact .inl rfl
   | some k=>exact .inr (fun e=>by have:=(World.ownsRow.lt h.on k e.symm).2;have:=h2 k ho;omega)
 ·rcases slots_mem hs' with h1|h1
  ·exact h.fk s h1
  ·refine(p.fr s h1).imp id fun h2=>?_
   cases ho:s.1.ownBlock with
   | none=>exact .inl rfl
   | some k=>exact .inr (fun e=>by have:=(World.ownsRow.lt h.ok k e.symm).2;have:=h2 k ho;omega)
 ·rcases kslots_mem hs' with h1|h1
  ·exact h.fd s h1
  ·refine(p.frN s h1).imp id fun h2=>?_
   cases ho:s.1.ownBlock with
   | none=>exact .inl rfl
   | some k=>exact .inr (fun e=>by have:=(World.ownsRow.lt h.od k e.symm).2;have:=h2 k ho;omega)
end
section
variable {g:Nat} {tv:Value} {T:List Rf.Tk} {TE:List TkE} {v v':Value} {E A:List NdE} {w wr:World} {b:Nat} {n:Nd} {vn vk vd:Value} {i:Nat} {bad many:Bool}
theorem own_base {B B' s m:Nat} {e:TypeId} {x:Value} {xs:List Value} {w:World} (h:w.ownsRow B e s x m xs)(hB:B'≤B):w.ownsRow B' e s x m xs:=by
 refine⟨h.1,?_⟩
 rcases h.2 with h0|⟨g,cap,cur,rfl,hb,hr⟩
 ·exact .inl h0
 ·exact .inr ⟨g,cap,cur,rfl,Nat.le_trans hB hb,hr⟩
theorem Rs.blkset {w:World} {v:Value} {E:List NdE} {cs:Array Value} (h:Rs g tv TE i bad many v E w)(hb:w.heap[b]?=some (.cells cs 109 (0,0)))(hgb:g≠b)(hvb:v.ownBlock≠some b)(j:Nat)(u:Value):Rs g tv TE i bad many v E (w.setCell ⟨b,j,none⟩ u):=by
 refine h.grown (grG_set w b j u) (by simpa using hgb) (own_ne_blk h.tks hb (by decide)) (.inr hvb) (fun s hs=>?_) (fun s hs=>?_)
 ·by_cases hn:s.2=[]
  ·exact .inl hn
  ·exact .inr (own_ne_blk ((h.nt.own s hs).2 hn) hb (by decide))
 ·by_cases hn:s.2=[]
  ·exact .inl hn
  ·exact .inr (own_ne_blk ((h.nt.ownN s hs).2 hn) hb (by decide))
theorem Ef.blkset {r:Option Nat} {w0 w:World} (h:Ef g r w0 w)(hb:w0.heap.size≤b)(j:Nat)(u:Value):Ef g r w0 (w.setCell ⟨b,j,none⟩ u):=
 ⟨h.os,h.tape,h.output,by have:=h.size;simpa using this,fun k hk hg hr=>((grG_set w b j u).block k (Nat.lt_of_lt_of_le hk h.size) (by simp;omega)).trans (h.keep k hk hg hr)⟩
theorem Fm.poke (h:Fm g tv TE v E w b n vn vk vd i bad many v' A wr)(j:Nat)(u:Value)(n':Nd)(vn' vk' vd':Value)(hc:(sevC n vn vk vd).setIfInBounds j u=sevC n' vn' vk' vd')
  (on:OwnX w.heap.size vn' n'.names wr) (ok:OwnX w.heap.size vk' n'.keys wr) (od:OwnN w.heap.size vd' n'.kids wr) (fnk:vn'.ownBlock=none∨vn'.ownBlock≠vk'.ownBlock)
  (fn:∀s ∈ slots (E++A),s.2=[]∨s.1.ownBlock=none∨s.1.ownBlock≠vn'.ownBlock) (fk:∀s ∈ slots (E++A),s.2=[]∨s.1.ownBlock=none∨s.1.ownBlock≠vk'.ownBlock) (fd:∀s ∈ kslots (E++A),s.2=[]∨s.1.ownBlock=none∨s.1.ownBlock≠vd'.ownBlock) :
  Fm g tv TE v E w b n' vn' vk' vd' i bad many v' A (wr.setCell ⟨b,j,none⟩ u):=by
 have hgb:g≠b:=by have:=h.hg;have:=h.hb;omega
 exact⟨h.rs.blkset h.blk hgb h.hvb j u,h.ef.blkset h.hb j u,h.nw,h.fr,h.frN,by rw[← hc];simp[World.setCell,Array.getElem?_modify,h.blk],h.hb,h.hg,h.hvb,
  World.ownsRow.kept on (grG_set wr b j u) (own_ne_blk on h.blk (by decide)),World.ownsRow.kept ok (grG_set wr b j u) (own_ne_blk ok h.blk (by decide)),World.ownsRow.kept od (grG_set wr b j u) (own_ne_blk od h.blk (by decide)),fnk,fn,fk,fd⟩
theorem Fm.pokeS (h:Fm g tv TE v E w b n vn vk vd i bad many v' A wr)(j:Nat)(u:Value)(n':Nd)(hc:(sevC n vn vk vd).setIfInBounds j u=sevC n' vn vk vd)(h1:n'.names=n.names)(h2:n'.keys=n.keys)(h3:n'.kids=n.kids) :
  Fm g tv TE v E w b n' vn vk vd i bad many v' A (wr.setCell ⟨b,j,none⟩ u):=
 h.poke j u n' vn vk vd hc (by rw[h1];exact h.on) (by rw[h2];exact h.ok) (by rw[h3];exact h.od) h.fnk h.fn h.fk h.fd
theorem slot_lt {w:World} {v:Value} {E:List NdE} {B:Nat} (h:Nt B v E w)(s:Sl)(hs:s ∈ slots E)(hn:s.2 ≠ [])(k:Nat)(hk:s.1.ownBlock=some k):k<w.heap.size:=(World.ownsRow.lt ((h.own s hs).2 hn) k hk).2
theorem kslot_lt {w:World} {v:Value} {E:List NdE} {B:Nat} (h:Nt B v E w)(s:Sn)(hs:s ∈ kslots E)(hn:s.2 ≠ [])(k:Nat)(hk:s.1.ownBlock=some k):k<w.heap.size:=(World.ownsRow.lt ((h.ownN s hs).2 hn) k hk).2
theorem Fm.kid {obj:Obj} {w2:World} {vd':Value} {z:Int} (h:Fm g tv TE v E w b n vn vk vd i bad many v' A wr)(ho:OwnN w.heap.size vd' (n.kids ++ [z]) w2)(hg2:(wr.alloc obj).grownBy w2 vd.ownBlock)(hnw:Nw (wr.alloc obj) vd vd') :
  w2.cell? ⟨b,6,none⟩=some vd∧w2.frozen? ⟨b,6,none⟩=false∧Fm g tv TE v E w b { n with kids:=n.kids ++ [z] } vn vk vd' i bad many v' A (w2.setCell ⟨b,6,none⟩ vd'):=by
 have hgb:g≠b:=by have:=h.hg;have:=h.hb;omega
 have hW:Below wr.heap.size wr (wr.alloc obj):=(Below.refl _ _).alloc (Nat.le_refl _) _
 have hWs:(wr.alloc obj).heap.size=wr.heap.size+1:=by simp
 have rW:=h.rs.below hW
 have onW:=h.on.below hW
 have okW:=h.ok.below hW
 have odW:OwnN w.heap.size vd n.kids (wr.alloc obj):=h.od.below hW
 have blW:=(hW.block b (heap_ltM h.blk)).trans h.blk
 have ne2:∀{B e s m:Nat} {x:Value} {xs:List Value},(wr.alloc obj).ownsRow B e s x m xs→e≠2→x.ownBlock=none∨x.ownBlock≠vd.ownBlock:=fun ho he=>own_apart9 ho odW he
 have hbv:some b≠vd.ownBlock:=by
  intro e
  rcases own_ne_blk odW blW (by decide) with e2|e2
  ·rw[e2] at e;cases e
  ·exact e2 e.symm
 have r2:Rs g tv TE i bad many v' (E++A) w2:=by
  refine rW.grown hg2 (fun e=>?_) (ne2 rW.tks (by decide)) (ne2 rW.nt.row (by decide)) (fun s hs=>?_) h.fd
  ·have:=(World.ownsRow.lt h.od g e.symm).1
   have:=h.hg
   omega
  ·by_cases hn:s.2=[]
   ·exact .inl hn
   ·exact .inr (ne2 ((rW.nt.own s hs).2 hn) (by decide))
 have bl2:=(hg2.block b (heap_ltM blW) hbv).trans blW
 have hs2:=hg2.size
 have hes:=h.ef.size
 have ef2:Ef g v.ownBlock w w2:=⟨hg2.os.trans h.ef.os,hg2.tape.trans h.ef.tape,hg2.output.trans h.ef.output,by omega,fun k hk hg hr=>((hg2.block k (by omega) (fun e=>by have:=(World.ownsRow.lt h.od k e.symm).1;omega)).trans (hW.block k (by omega))).trans (h.ef.keep k hk hg hr)⟩
 have on2:OwnX w.heap.size vn n.names w2:=World.ownsRow.kept onW hg2 (ne2 onW (by decide))
 have ok2:OwnX w.heap.size vk n.keys w2:=World.ownsRow.kept okW hg2 (ne2 okW (by decide))
 refine⟨by simp[World.cell?,bl2],by simp[World.frozen?,bl2],?_⟩
 refine⟨r2.blkset bl2 hgb h.hvb 6 vd',ef2.blkset h.hb 6 vd',h.nw,h.fr,h.frN,by simp[World.setCell,Array.getElem?_modify,bl2],h.hb,h.hg,h.hvb,
  World.ownsRow.kept on2 (grG_set w2 b 6 vd') (own_ne_blk on2 bl2 (by decide)),World.ownsRow.kept ok2 (grG_set w2 b 6 vd') (own_ne_blk ok2 bl2 (by decide)),World.ownsRow.kept ho (grG_set w2 b 6 vd') (own_ne_blk ho bl2 (by decide)),h.fnk,h.fn,h.fk,?_⟩
 intro s hs
 rcases hnw with e|⟨k,hk,e⟩
 ·rw[e];exact h.fd s hs
 ·by_cases hn:s.2=[]
  ·exact .inl hn
  ·right
   rw[e]
   cases ho:s.1.ownBlock with
   | none=>exact .inl rfl
   | some q=>exact .inr (fun e2=>by cases e2;have:=kslot_lt h.rs.nt s hs hn k ho;omega)
theorem Fm.put (h:Fm g tv TE v E w b n vn vk vd i bad many v' A wr)(hlen:(E++A).length≤100000) :
  Calls Tryz.prog 50 #[.pointer (some ⟨g,0,none⟩),ndV n vn vk vd] wr fun e w'=>e=.returned (.int .i64 ((E++A).length:Int))∧∃v2,Rs g tv TE i bad many v2 (E++(A ++ [(n,vn,vk,vd)])) w'∧Ef g v.ownBlock w w'∧Nw w v v2 ∧
   (∀s ∈ slots (A ++ [(n,vn,vk,vd)]),s.2=[]∨∀k,s.1.ownBlock=some k→w.heap.size≤k)∧(∀s ∈ kslots (A ++ [(n,vn,vk,vd)]),s.2=[]∨∀k,s.1.ownBlock=some k→w.heap.size≤k):=by
 have hB:g+1≤w.heap.size:=h.hg
 have lsx:∀{x:Value} {l:List ByteArray},OwnX w.heap.size x l wr→LsX (g+1) wr (x,l):=fun ho=>⟨ho.shape,fun _=>own_base ho hB⟩
 have farx:∀{x:Value} {l:List ByteArray},OwnX w.heap.size x l wr→(∀s ∈ slots (E++A),s.2=[]∨s.1.ownBlock=none∨s.1.ownBlock≠x.ownBlock)→∀s ∈ slots (E++A),FarX s (x,l):=by
  intro x l ho hf s hs
  rcases hf s hs with e|e|e
  ·exact .inl e
  ·by_cases hn:s.2=[]
   ·exact .inl hn
   ·have:=own_none ((h.rs.nt.own s hs).2 hn) e
    exact absurd (List.eq_nil_of_length_eq_zero this) hn
  ·exact .inr (.inr e)
 refine(specPutT g tv TE i bad many v' (E++A) n vn vk vd wr h.rs hlen (lsx h.on) (lsx h.ok) ⟨?_,fun _=>own_base h.od hB⟩ ?_ (fun s hs=>⟨farx h.on h.fn s hs,farx h.ok h.fk s hs⟩) ?_).mono ?_
 ·rcases h.od.2 with ⟨e,h0⟩|⟨q,cap,cur,e,-⟩
  ·exact⟨none,0,by show vd=.slice none n.kids.length 0;rw[e,h0]⟩
  ·exact⟨_,cap,e⟩
 ·rcases h.fnk with e|e
  ·exact .inl (List.eq_nil_of_length_eq_zero (own_none h.on e))
  ·exact .inr (.inr e)
 ·intro s hs
  rcases h.fd s hs with e|e|e
  ·exact .inl e
  ·by_cases hn:s.2=[]
   ·exact .inl hn
   ·have:=own_none ((h.rs.nt.ownN s hs).2 hn) e
    exact absurd (List.eq_nil_of_length_eq_zero this) hn
  ·exact .inr (.inr e)
 ·rintro e w' ⟨rfl,v2,h2,e2,n2⟩
  refine⟨rfl,v2,by rw[← List.append_assoc];exact h2,h.ef.trans h.nw e2,h.nw.trans h.ef.size n2,?_,?_⟩
  ·intro s hs
   rcases slots_mem hs with h1|h1
   ·exact h.fr s h1
   ·simp only[slots,List.flatMap_cons,List.flatMap_nil,List.append_nil,List.mem_cons,List.not_mem_nil,or_false] at h1
    rcases h1 with rfl|rfl
    ·exact .inr fun k hk=>(World.ownsRow.lt h.on k hk).1
    ·exact .inr fun k hk=>(World.ownsRow.lt h.ok k hk).1
  ·intro s hs
   rcases kslots_mem hs with h1|h1
   ·exact h.frN s h1
   ·simp only[kslots,List.map_cons,List.map_nil,List.mem_cons,List.not_mem_nil,or_false] at h1
    subst h1
    exact .inr fun k hk=>(World.ownsRow.lt h.od k hk).1
end
theorem wp_cut {P:Program} {c:Code} {a:Act} {w:World} {Q:Exit→Act→World→Prop} (R:Act→Act→World→Prop)(h1:c.wp P (fun x a' w'=>x=.normal∧R a a' w') a w)(h2:∀a' w',R a a' w'→Q .normal a' w'):c.wp P Q a w:=
 Code.wp_mono (fun _ a' w' h=>by obtain⟨rfl,h⟩:=h;exact h2 a' w' h) h1
def Rf.blkEnd:Rf.KO→Rf.Out
 | .ok i N ks=>.ok i (N ++ [{ Rf.zn 1 with kids:=ks }])
 | .bad j=>.bad j
theorem Rf.blk_yes (T:List Rf.Tk)(C:Nat→List Nd→Rf.Out)(i:Nat)(N:List Nd)(h:Rf.is T i 112 [123]=true):Rf.blk T C i N=Rf.blkEnd (Rf.cmds T C T.length (i+1) N []):=by
 unfold Rf.blk
 rw[if_pos h]
 cases Rf.cmds T C T.length (i+1) N []<;>rfl
def big (A:List NdE):Bool:=A.any fun e=>decide (100<e.1.names.length) || decide (100<e.1.keys.length)
theorem big_app (A B:List NdE):big (A++B)=(big A || big B):=List.any_append
def Rf.given (bad:Bool)(i:Nat)(o:Rf.Out):Rf.Out:=if bad=true then .bad i else o
theorem RdP.mk2 {g:Nat} {tv:Value} {T:List Rf.Tk} {TE:List TkE} {c:Nat} {P:Nat→List Nd→Rf.Out} {i:Nat} {bad many:Bool} {v:Value} {E:List NdE} {w:World} {z:Int} {A:List NdE} {i':Nat} {bad' many':Bool} {v':Value} {w':World} (R:Rf.Out)(hR:R=Rf.given bad i (P i (E.map (·.1))))
  (rs:Rs g tv TE i' bad' many' v' (E++A) w') (ef:Ef g v.ownBlock w w') (nw:Nw w v v') (fr:∀s ∈ slots A,s.2=[]∨∀k,s.1.ownBlock=some k→w.heap.size≤k) (frN:∀s ∈ kslots A,s.2=[]∨∀k,s.1.ownBlock=some k→w.heap.size≤k)
  (lt:i'<T.length) (le:i≤i') (cnt:A.length+3*i≤3*i'+c) (cnt0:bad'=false→A.length+3*i+1≤3*i'∧i<i')
  (h1:bad'=true→R=.bad i') (h2:bad'=false→R=.ok i' ((E++A).map (·.1))∧z=Rf.last ((E++A).map (·.1))∧many'=(many || big A)):RdP g tv T TE c P i bad many v E w z A i' bad' many' v' w':=by
 refine⟨rs,ef,nw,fr,frN,lt,le,fun h=>(cnt0 h).2,cnt,fun h=>(cnt0 h).1,?_⟩
 unfold Rf.given at hR
 cases hb:bad with
 | true=>
  rw[hb,if_pos rfl] at hR
  rw[if_pos rfl]
  cases hb':bad' with
  | true=>
   have:=h1 hb'
   rw[hR] at this
   cases this
   exact⟨rfl,rfl⟩
  | false=>
   have:=(h2 hb').1
   rw[hR] at this
   cases this
 | false=>
  rw[hb,if_neg (by decide)] at hR
  rw[if_neg (by decide),← hR]
  cases hb':bad' with
  | true=>rw[h1 hb'];exact⟨rfl,rfl⟩
  | false=>rw[(h2 hb').1];exact⟨rfl,rfl,rfl,(h2 hb').2.1,(h2 hb').2.2⟩
theorem RdP.given {g:Nat} {tv:Value} {T:List Rf.Tk} {TE:List TkE} {c:Nat} {P:Nat→List Nd→Rf.Out} {i:Nat} {many:Bool} {v:Value} {E:List NdE} {w:World} {z:Int} {A:List NdE} {i':Nat} {bad' many':Bool} {v':Value} {w':World} (h:RdP g tv T TE c P i false many v E w z A i' bad' many' v' w') :
  (bad'=true→P i (E.map (·.1))=.bad i')∧(bad'=false→P i (E.map (·.1))=.ok i' ((E++A).map (·.1))∧z=Rf.last ((E++A).map (·.1))∧many'=(many || big A)):=by
 have ho:=h.out
 rw[if_neg (by decide)] at ho
 cases hP:P i (E.map (·.1)) with
 | ok j N=>
  rw[hP] at ho
  obtain⟨rfl,rfl,rfl,hz,hm⟩:=ho
  exact⟨fun e=>(by cases e),fun _=>⟨rfl,hz,hm⟩⟩
 | bad j=>
  rw[hP] at ho
  obtain⟨rfl,rfl⟩:=ho
  exact⟨fun _=>rfl,fun e=>(by cases e)⟩
theorem own_shape {w:World} {B s m:Nat} {e:TypeId} {x:Value} {xs:List Value} (h:w.ownsRow B e s x m xs):∃o cap,x=.slice o m cap:=by
 rcases h.2 with ⟨e,h0⟩|⟨q,cap,cur,e,-⟩
 ·exact⟨none,0,by rw[e,h0]⟩
 ·exact⟨_,cap,e⟩
theorem below_drew {B:Nat} {w w':World} (h:Below B w w'):Below B w w'.drew:=⟨h.os,h.tape,h.output,h.size,h.block⟩
def blkM (T:List Rf.Tk)(g:Nat)(wr:World):Nat:=2*(T.length-(Lib.intOf ((wr.cell? ⟨g,1,none⟩).getD undef)).toNat)+(match wr.cell? ⟨g,2,none⟩ with|some (.bool false)=>1|_=>0)
def BlkInv (g:Nat)(tv:Value)(T:List Rf.Tk)(TE:List TkE)(v:Value)(E:List NdE)(w:World)(B i:Nat)(many:Bool)(R:Rf.Out)(C:Nat→List Nd→Rf.Out)(wr:World):Prop:=
 ∃ (j:Nat) (bd mn:Bool) (v' vd:Value) (A:List NdE) (ks:List Int) (F:Nat),j<T.length∧i≤j∧T.length≤j+F∧ks.length≤j+1∧(bd=false→ks.length≤j)∧A.length+3*i≤3*j∧Hid (Fm g tv TE v E w B { Rf.zn 1 with kids:=ks } (.slice none 0 0) (.slice none 0 0) vd j bd mn v' A wr)∧Hid (bd=true→R=.bad j)∧Hid (bd=false→i<j∧R=Rf.blkEnd (Rf.cmds T C F j ((E++A).map (·.1)) ks)∧mn=(many || big A))
theorem RdP.res {g:Nat} {tv:Value} {T:List Rf.Tk} {TE:List TkE} {c:Nat} {P:Nat→List Nd→Rf.Out} {i:Nat} {bad many:Bool} {v:Value} {E:List NdE} {w:World} {z:Int} {A:List NdE} {i':Nat} {bad' many':Bool} {v':Value} {w':World} (h:RdP g tv T TE c P i bad many v E w z A i' bad' many' v' w') :
  (bad'=true→Rf.given bad i (P i (E.map (·.1)))=.bad i')∧(bad'=false→bad=false∧P i (E.map (·.1))=.ok i' ((E++A).map (·.1))∧z=Rf.last ((E++A).map (·.1))∧many'=(many || big A)):=by
 cases bad with
 | true=>
  have ho:=h.out
  rw[if_pos rfl] at ho
  obtain⟨rfl,rfl⟩:=ho
  exact⟨fun _=>rfl,fun e=>(by cases e)⟩
 | false=>
  obtain⟨h1,h2⟩:=h.given
  exact⟨fun e=>(by rw[Rf.given,if_neg (by decide),h1 e]),fun e=>⟨rfl,h2 e⟩⟩
set_option maxHeartbeats 8000000 in
theorem specBlock (g:Nat)(tv:Value)(l:List UInt8)(T:List Rf.Tk)(TE:List TkE)(f:Nat)(C:Nat→List Nd→Rf.Out)(hK:Tks l T TE)(hT:T.length≤30000)(hC:RdC 49 g tv T TE 0 f C) :
  RdC 92 g tv T TE 1 (f+1) (Rf.blk T C):=by
 intro i bad many v E w h hi hf hE
 obtain⟨R,hR⟩:∃R,R=Rf.given bad i (Rf.blk T C i (E.map (·.1))):=⟨_,rfl⟩
 have hgl:=heap_ltM h.blk
 have hll:=hK.length
 have hW:Calls Tryz.prog 95 #[.pointer (some ⟨g,0,none⟩),.int .u8 ((112:Nat):Int),.string ⟨#[123]⟩] w fun e w1=>e=.returned (.tuple #[])∧∃j bd,Rs g tv TE j bd many v E w1∧Ef g none w w1∧j<T.length∧i≤j∧(bd=true→R=.bad j)∧(bd=false→i<j∧R=Rf.blkEnd (Rf.cmds T C T.length j (E.map (·.1)) [])):=by
  by_cases hA:(!bad && Rf.is T i 112 [123])=true
  ·obtain⟨hb0,hA1⟩:bad=false∧Rf.is T i 112 [123]=true:=by cases bad<;>simp_all
   subst hb0
   refine(specWantY g tv TE i many v E w 112 ⟨#[123]⟩ h (by omega) (by omega) (by rw[hK.is i hi];exact hA1)).mono ?_
   rintro e w1 ⟨rfl,h1,e1⟩
   refine⟨rfl,i+1,false,h1,e1,hK.is_nxt i hi 112 [123] hA1,by omega,fun e=>(by cases e),fun _=>⟨by omega,?_⟩⟩
   rw[hR,← Rf.blk_yes T C i _ hA1]
   rfl
  ·refine(specWantN g tv TE i bad many v E w 112 ⟨#[123]⟩ h (by omega) (by rw[hK.is i hi];simpa using hA)).mono ?_
   rintro e w1 ⟨rfl,h1,e1⟩
   refine⟨rfl,i,true,h1,e1,hi,Nat.le_refl _,fun _=>?_,fun e=>(by cases e)⟩
   rw[hR]
   cases bad
   ·unfold Rf.given Rf.blk
    rw[if_neg (by decide),if_neg (by simpa using hA)]
   ·rfl
 have HR:=mkHid hR
 have HK:=mkHid hK
 have HC:=mkHid hC
 have HE:=mkHid hE
 clear hC hR h hK
 go_enter Tryz.func92,Tryz.ntmps92
 go_wp2_with (go_at_call 95;fail)
 refine hW.mono ?_
 rintro e w1 ⟨rfl,j,bd,h1,e1,hj,hij,r1,r2⟩
 have S0:=mkHid (Fm.start hgl h1 e1 1)
 clear h1 e1 hW
 obtain⟨B,hB⟩:∃B,w1.heap.size=B:=⟨_,rfl⟩
 rw[hB] at S0
 go_wp2
 replace S0:Hid (BlkInv g tv T TE v E w B i many R C (w1.alloc (.cells (sevC (Rf.zn 1) (.slice none 0 0) (.slice none 0 0) (.slice none 0 0)) 109))):=
  ⟨j,bd,many,v,_,[],[],T.length,hj,hij,by omega,by simp,by simp,by simp;omega,S0,r1,fun e=>⟨(r2 e).1,by rw[List.append_nil];exact(r2 e).2,by simp[big]⟩⟩
 clear r1 r2 hj hij
 clear hB
 go_loopw [] (fun wr=>BlkInv g tv T TE v E w B i many R C wr) (fun wr=>blkM T g wr)
 case atStart=>exact S0.out
 case round=>
  clear S0
  obtain⟨j,bd,mn,v',vd,A,ks,F,hj,hij,hF,hks,hks2,hcn,S,R1,R2⟩:=hrel
  have c1:=mkHid (five S.out.rs.blk).2.1
  have c2:=(five S.out.rs.blk).2.2.1
  have C2:=mkHid c2
  obtain⟨F,rfl⟩:∃F',F=F'+1:=⟨F-1,by omega⟩
  cases bd
  ·have hks2:=hks2 rfl
   obtain⟨hij2,hRb,hmn⟩:=R2.out rfl
   replace hRb:=mkHid hRb
   replace hmn:=mkHid hmn
   clear R1 R2
   by_cases hB:Rf.is T j 112 [125]=true
   ·go_wp2_with (go_at_call 131;fail)
    refine(specIs g tv TE j false mn v' (E++A) _ 112 ⟨#[125]⟩ S.out.rs (by omega)).mono ?_
    rintro e W ⟨rfl,hb2⟩
    rw[HK.out.is j hj,hB]
    have S2:=mkHid (S.out.small (S.out.rs.below hb2) (Ef.of_below hb2))
    clear hb2 S c2
    go_wp2_with (go_at_call 95;fail)
    have hj1:=HK.out.is_nxt j hj 112 [125] hB
    refine(specWantY g tv TE j mn v' (E++A) _ 112 ⟨#[125]⟩ S2.out.rs (by omega) (by omega) (by rw[HK.out.is j hj];exact hB)).mono ?_
    rintro e w3 ⟨rfl,h3,e3⟩
    have S3:=mkHid (S2.out.small h3 e3)
    clear h3 e3 S2
    have HRR:Hid (R=.ok (j+1) ((E++A).map (·.1) ++ [{ Rf.zn 1 with kids:=ks }])):=by
     show R=_
     rw[hRb.out,Rf.cmds,if_pos hB]
     rfl
    clear hRb
    obtain⟨oD,cD,eD⟩:=own_shape S3.out.od
    subst eD
    have hbk:=S3.out.blk
    have d0:w3.cell? ⟨B,0,none⟩=some (.int .i64 1):=by simp[World.cell?,hbk];rfl
    have d1:w3.cell? ⟨B,1,none⟩=some (.int .i64 0):=by simp[World.cell?,hbk];rfl
    have d2:w3.cell? ⟨B,2,none⟩=some (.int .i64 0):=by simp[World.cell?,hbk];rfl
    have d3:w3.cell? ⟨B,3,none⟩=some (.string ⟨#[]⟩):=by simp[World.cell?,hbk];rfl
    have d4:w3.cell? ⟨B,4,none⟩=some (.slice none 0 0):=by simp[World.cell?,hbk]
    have d5:w3.cell? ⟨B,5,none⟩=some (.slice none 0 0):=by simp[World.cell?,hbk]
    have d6:w3.cell? ⟨B,6,none⟩=some (.slice oD ks.length cD):=by simp[World.cell?,hbk]
    clear hbk
    have kP:=mkHid (S3.out.put (by have:=HE.out;simp;omega))
    clear S3
    go_wp2_with (go_at_call 50;fail)
    refine kP.out.mono ?_
    rintro e w4 ⟨rfl,v2,h4,e4,n4,f4,g4⟩
    clear d0 d1 d2 d3 d4 d5 d6 kP
    go_wp2
    go_ret
    refine⟨_,_,j+1,false,mn,v2,rfl,RdP.mk2 R HR.out h4 e4 n4 f4 g4 hj1 (by omega) (by simp;omega) (fun _=>⟨by simp;omega,by omega⟩) (fun e=>(by cases e)) (fun _=>⟨?_,?_,?_⟩)⟩
    ·rw[HRR.out];simp
    ·simp[Rf.last];omega
    ·rw[hmn.out,big_app];simp[big,Rf.zn]
   ·have hB1:Rf.is T j 112 [125]=false:=by simpa using hB
    go_wp2_with (go_at_call 131;fail)
    refine(specIs g tv TE j false mn v' (E++A) _ 112 ⟨#[125]⟩ S.out.rs (by omega)).mono ?_
    rintro e W ⟨rfl,hb2⟩
    rw[HK.out.is j hj,hB1]
    have S2:=mkHid (S.out.small (S.out.rs.below hb2) (Ef.of_below hb2))
    clear hb2 S c2
    go_wp2
    obtain⟨RR,hRR⟩:∃RR:Act→Act→World→Prop,RR=(fun a a' w'=>∃ (z:Int) (A1:List NdE) (j':Nat) (bd' mn':Bool) (v1 vd':Value) (hh:Nat) (w3:World),a'=(((((((a.put (some 17) (.pointer (some ⟨B,6,none⟩))).put (some 18) vd).put (some 19) (.pointer (some ⟨g,0,none⟩))).put (some 20) (.int .i64 z)).put (some 21) (.slice (some ⟨hh,0,none⟩) 1 1)).put (some 22) vd').put (some 23) (.pointer (some ⟨B,6,none⟩)))∧Hid (Fm g tv TE v E w B { Rf.zn 1 with kids:=ks ++ [z] } (.slice none 0 0) (.slice none 0 0) vd' j' bd' mn' v1 (A++A1) w')∧Hid (RdP g tv T TE 0 C j false mn v' (E++A) W.drew z A1 j' bd' mn' v1 w3)):=⟨_,rfl⟩
    have HRR:=mkHid hRR
    clear hRR
    refine wp_cut RR ?_ ?_
    ·have SD:=mkHid (S2.out.small (S2.out.rs.below (below_drew (Below.refl _ _))) (Ef.of_below (below_drew (Below.refl _ _))))
     have kC:=mkHid (HC.out j false mn v' (E++A) W.drew SD.out.rs hj (by omega) (by have:=HE.out;simp;omega))
     obtain⟨oD,cD,eD⟩:=own_shape S2.out.od
     subst eD
     have y0:W.cell? ⟨B,6,none⟩=some (.slice oD ks.length cD):=by simp[World.cell?,S2.out.blk]
     refine wp_region_any (by kernel_rfl) ?_
     refine ta 0 (.pointer (some ⟨B,6,none⟩)) (hQ:=fun _ _ _ h=>nomatch h.1) ?_ ?_
     ·intro w
      go_simp
      all_goals omega
     go_simp
     refine ta 2 (.pointer (some ⟨g,0,none⟩)) (hQ:=fun _ _ _ h=>nomatch h.1) ?_ ?_
     ·intro w
      go_simp
      all_goals omega
     go_simp
     refine wpAny_ready (rs:=[1,3]) (by kernel_rfl) (by simp) ?_
     refine AllReady.cons rfl (fun K hK=>?_) (AllReady.cons rfl (fun K hK=>?_) AllReady.nil)
     ·skip
      go_simp
      refine hK _ _ ?_
      clear hK K
      go_simp
      refine r1 3 (fun K hK=>?_)
      go_simp
      refine kC.out.mono ?_
      rintro e w3 ⟨z,A1,j',bd',mn',v1,rfl,hp⟩
      have S3:=mkHid (SD.out.call hp)
      have HP:=mkHid hp
      clear hp
      have y3:w3.cell? ⟨B,6,none⟩=some (.slice oD ks.length cD):=by simp[World.cell?,S3.out.blk]
      have y4:(w3.alloc (.cells #[.int .i64 z] 2)).cell? ⟨B,6,none⟩=some (.slice oD ks.length cD):=(World.cell?_of_block (((Below.refl w3.heap.size w3).alloc (Nat.le_refl _) _).block B (heap_ltM S3.out.blk))).trans y3
      go_simp
      refine hK _ _ ?_
      clear hK K
      go_simp
      refine r1 4 (fun K hK=>?_)
      go_simp
      refine hK _ _ ?_
      clear hK K
      go_simp
      refine r1 5 (fun K hK=>?_)
      refine opAppKd _ _ rfl w.heap.size (.slice oD ks.length cD) ks rfl (S3.out.od.below ((Below.refl _ _).alloc (Nat.le_refl _) _)) z w3.heap.size 1 rfl (by simp) (by omega) (by have:=S3.out.ef.size;simp;omega) ?_
      intro vd' w4 ho4 hg4 hn4
      obtain⟨x6,z6,s5⟩:=S3.out.kid ho4 hg4 hn4
      obtain⟨o5,c5,e5⟩:=own_shape ho4
      rw[List.length_append,List.length_singleton] at e5
      subst e5
      have S5:=mkHid s5
      clear s5 ho4 hg4 hn4
      refine hK _ _ ?_
      clear hK K
      go_simp
      refine ta 6 (.pointer (some ⟨B,6,none⟩)) (hQ:=fun _ _ _ h=>nomatch h.1) ?_ ?_
      ·intro w
       go_simp
       all_goals omega
      go_simp
      refine r1 7 (fun K hK=>?_)
      go_simp
      refine hK _ _ ?_
      clear hK K
      go_simp
      refine wpAny_done (by kernel_rfl) ?_ _
      first|refine⟨rfl,?_⟩|skip
      rw[HRR.out]
      exact⟨z,A1,j',bd',mn',v1,.slice o5 (ks.length+1) c5,w3.heap.size,w3,by kernel_rfl,S5,HP⟩
     ·skip
      go_simp
      refine kC.out.mono ?_
      rintro e w3 ⟨z,A1,j',bd',mn',v1,rfl,hp⟩
      have S3:=mkHid (SD.out.call hp)
      have HP:=mkHid hp
      clear hp
      have y3:w3.cell? ⟨B,6,none⟩=some (.slice oD ks.length cD):=by simp[World.cell?,S3.out.blk]
      have y4:(w3.alloc (.cells #[.int .i64 z] 2)).cell? ⟨B,6,none⟩=some (.slice oD ks.length cD):=(World.cell?_of_block (((Below.refl w3.heap.size w3).alloc (Nat.le_refl _) _).block B (heap_ltM S3.out.blk))).trans y3
      go_simp
      refine hK _ _ ?_
      clear hK K
      go_simp
      refine wpAny_ready (rs:=[1,4]) (by kernel_rfl) (by simp) ?_
      refine AllReady.cons rfl (fun K hK=>?_) (AllReady.cons rfl (fun K hK=>?_) AllReady.nil)
      ·skip
       go_simp
       refine hK _ _ ?_
       clear hK K
       go_simp
       refine r1 4 (fun K hK=>?_)
       go_simp
       refine hK _ _ ?_
       clear hK K
       go_simp
       refine r1 5 (fun K hK=>?_)
       refine opAppKd _ _ rfl w.heap.size (.slice oD ks.length cD) ks rfl (S3.out.od.below ((Below.refl _ _).alloc (Nat.le_refl _) _)) z w3.heap.size 1 rfl (by simp) (by omega) (by have:=S3.out.ef.size;simp;omega) ?_
       intro vd' w4 ho4 hg4 hn4
       obtain⟨x6,z6,s5⟩:=S3.out.kid ho4 hg4 hn4
       obtain⟨o5,c5,e5⟩:=own_shape ho4
       rw[List.length_append,List.length_singleton] at e5
       subst e5
       have S5:=mkHid s5
       clear s5 ho4 hg4 hn4
       refine hK _ _ ?_
       clear hK K
       go_simp
       refine ta 6 (.pointer (some ⟨B,6,none⟩)) (hQ:=fun _ _ _ h=>nomatch h.1) ?_ ?_
       ·intro w
        go_simp
        all_goals omega
       go_simp
       refine r1 7 (fun K hK=>?_)
       go_simp
       refine hK _ _ ?_
       clear hK K
       go_simp
       refine wpAny_done (by kernel_rfl) ?_ _
       first|refine⟨rfl,?_⟩|skip
       rw[HRR.out]
       exact⟨z,A1,j',bd',mn',v1,.slice o5 (ks.length+1) c5,w3.heap.size,w3,by kernel_rfl,S5,HP⟩
      ·skip
       go_simp
       refine hK _ _ ?_
       clear hK K
       go_simp
       refine r1 1 (fun K hK=>?_)
       go_simp
       refine hK _ _ ?_
       clear hK K
       go_simp
       refine r1 5 (fun K hK=>?_)
       refine opAppKd _ _ rfl w.heap.size (.slice oD ks.length cD) ks rfl (S3.out.od.below ((Below.refl _ _).alloc (Nat.le_refl _) _)) z w3.heap.size 1 rfl (by simp) (by omega) (by have:=S3.out.ef.size;simp;omega) ?_
       intro vd' w4 ho4 hg4 hn4
       obtain⟨x6,z6,s5⟩:=S3.out.kid ho4 hg4 hn4
       obtain⟨o5,c5,e5⟩:=own_shape ho4
       rw[List.length_append,List.length_singleton] at e5
       subst e5
       have S5:=mkHid s5
       clear s5 ho4 hg4 hn4
       refine hK _ _ ?_
       clear hK K
       go_simp
       refine ta 6 (.pointer (some ⟨B,6,none⟩)) (hQ:=fun _ _ _ h=>nomatch h.1) ?_ ?_
       ·intro w
        go_simp
        all_goals omega
       go_simp
       refine r1 7 (fun K hK=>?_)
       go_simp
       refine hK _ _ ?_
       clear hK K
       go_simp
       refine wpAny_done (by kernel_rfl) ?_ _
       first|refine⟨rfl,?_⟩|skip
       rw[HRR.out]
       exact⟨z,A1,j',bd',mn',v1,.slice o5 (ks.length+1) c5,w3.heap.size,w3,by kernel_rfl,S5,HP⟩
    rw[HRR.out]
    clear HRR RR
    rintro a' w5 ⟨z,A1,j',bd',mn',v1,vd',hh,w3,rfl,S5,HP⟩
    obtain⟨q1,q2⟩:=HP.out.given
    have hlt:=HP.out.lt
    have hle:=HP.out.le
    have hadv:=HP.out.adv
    have hcnt:=HP.out.cnt
    have c3:=mkHid (five S5.out.rs.blk).2.1
    have c4:=mkHid (five S5.out.rs.blk).2.2.1
    clear HP S2
    cases bd'
    ·have hadv:=hadv rfl
     obtain⟨p1,p2,p3⟩:=q2 rfl
     have hRn:Hid (false=false→i<j'∧R=Rf.blkEnd (Rf.cmds T C F j' ((E++(A++A1)).map (·.1)) (ks ++ [z]))∧mn'=(many || big (A++A1))):=by
      refine fun _=>⟨by omega,?_,?_⟩
      ·rw[hRb.out,Rf.cmds,if_neg hB,p1,p2,← List.append_assoc]
      ·rw[p3,hmn.out,big_app,Bool.or_assoc]
     have hRb2:Hid (false=true→R=Rf.Out.bad j'):=fun e=>(by cases e)
     clear q1 q2 p1 p2 p3 hRb hmn
     have HI:Hid (BlkInv g tv T TE v E w B i many R C w5):=⟨j',false,mn',v1,vd',A++A1,ks ++ [z],F,hlt,by omega,by omega,by simp;omega,by simp;omega,by simp;omega,S5,hRb2,hRn⟩
     have HM:Hid (blkM T g w5<blkM T g wr):=by
      show _<_
      unfold blkM
      rw[c1.out,C2.out,c3.out,c4.out]
      simp[Lib.intOf]
      omega
     clear S5 hRb2 hRn
     go_wp2
     go_roundw
     case rel=>first|exact HI.out|exact⟨_,_,_,_,_,_,_,_,_,_,_,_,_,_,_,_,_,HI.out,rfl⟩
     case measure=>exact HM.out
    ·have hRb2:Hid (true=true→R=Rf.Out.bad j'):=by
      refine fun _=>?_
      rw[hRb.out,Rf.cmds,if_neg hB,q1 rfl]
      rfl
     have hRn:Hid (true=false→i<j'∧R=Rf.blkEnd (Rf.cmds T C (F+1) j' ((E++(A++A1)).map (·.1)) (ks ++ [z]))∧mn'=(many || big (A++A1))):=fun e=>(by cases e)
     clear q1 q2 hRb hmn
     have HI:Hid (BlkInv g tv T TE v E w B i many R C w5):=⟨j',true,mn',v1,vd',A++A1,ks ++ [z],F+1,hlt,by omega,by omega,by simp;omega,fun e=>(by cases e),by simp;omega,S5,hRb2,hRn⟩
     have HM:Hid (blkM T g w5<blkM T g wr):=by
      show _<_
      unfold blkM
      rw[c1.out,C2.out,c3.out,c4.out]
      simp[Lib.intOf]
      omega
     clear S5 hRb2 hRn
     go_wp2
     go_roundw
     case rel=>first|exact HI.out|exact⟨_,_,_,_,_,_,_,_,_,_,_,_,_,_,_,_,_,HI.out,rfl⟩
     case measure=>exact HM.out
  ·clear R2
   go_wp2_with (go_at_call 95;fail)
   refine(specWantN g tv TE j true mn v' (E++A) _ 112 ⟨#[125]⟩ S.out.rs (by omega) rfl).mono ?_
   rintro e w3 ⟨rfl,h3,e3⟩
   have S3:=mkHid (S.out.small h3 e3)
   clear h3 e3 S
   obtain⟨oD,cD,eD⟩:=own_shape S3.out.od
   subst eD
   have hbk:=S3.out.blk
   have d0:w3.cell? ⟨B,0,none⟩=some (.int .i64 1):=by simp[World.cell?,hbk];rfl
   have d1:w3.cell? ⟨B,1,none⟩=some (.int .i64 0):=by simp[World.cell?,hbk];rfl
   have d2:w3.cell? ⟨B,2,none⟩=some (.int .i64 0):=by simp[World.cell?,hbk];rfl
   have d3:w3.cell? ⟨B,3,none⟩=some (.string ⟨#[]⟩):=by simp[World.cell?,hbk];rfl
   have d4:w3.cell? ⟨B,4,none⟩=some (.slice none 0 0):=by simp[World.cell?,hbk]
   have d5:w3.cell? ⟨B,5,none⟩=some (.slice none 0 0):=by simp[World.cell?,hbk]
   have d6:w3.cell? ⟨B,6,none⟩=some (.slice oD ks.length cD):=by simp[World.cell?,hbk]
   clear hbk
   have kP:=mkHid (S3.out.put (by have:=HE.out;simp;omega))
   clear S3
   go_wp2_with (go_at_call 50;fail)
   refine kP.out.mono ?_
   rintro e w4 ⟨rfl,v2,h4,e4,n4,f4,g4⟩
   clear d0 d1 d2 d3 d4 d5 d6 kP
   go_wp2
   go_ret
   exact⟨_,_,j,true,mn,v2,rfl,RdP.mk2 R HR.out h4 e4 n4 f4 g4 hj (by omega) (by simp;omega) (fun e=>(by cases e)) (fun _=>R1.out (by trivial)) (fun e=>(by cases e))⟩
end Go.Proofs.YtkcajnjledldnaaGreatDoor
