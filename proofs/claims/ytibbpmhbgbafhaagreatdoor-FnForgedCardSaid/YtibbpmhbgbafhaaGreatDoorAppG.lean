import Derived.Test.YtibbpmhbgbafhaaGreatDoorDrawOpC
set_option maxRecDepth 20000
namespace Go.Proofs.YtibbpmhbgbafhaaGreatDoor
open Go.RowKit Go.Lib Go.Maps
structure Bx3 where
 n:ByteArray
 l:ByteArray
 d:ByteArray
def Bx3.ok (b:Bx3):Prop:=b.n.size≤20∧b.l.size≤20∧b.d.size≤20
def bxC (b:Bx3):List Value:=[.string b.n,.string b.l,.string b.d]
def bxCells (L:List Bx3):List Value:=L.flatMap bxC
theorem bxCells_len (L:List Bx3):(bxCells L).length=L.length*3:=by
 induction L with
 | nil=>rfl
 | cons r t ih=>simp only[bxCells,bxC,List.flatMap_cons,List.length_append,List.length_cons,List.length_nil] at ih ⊢;omega
theorem bxCells_join (L R:List Bx3):bxCells (L++R)=bxCells L++bxCells R:=by simp[bxCells]
theorem bxCells_at (E:List Bx3):∀(i:Nat)(h:i<E.length),(bxCells E)[i*3]?=some (.string E[i].n)∧(bxCells E)[i*3+1]?=some (.string E[i].l)∧(bxCells E)[i*3+2]?=some (.string E[i].d):=by
 induction E with
 | nil=>intro i h;exact absurd h (Nat.not_lt_zero _)
 | cons r t ih=>
  intro i h
  have e:bxCells (r::t)=.string r.n :: .string r.l :: .string r.d::bxCells t:=rfl
  rw[e]
  cases i with
  | zero=>exact⟨rfl,rfl,rfl⟩
  | succ i=>
   have:=ih i (by simpa using h)
   rw[show(i+1)*3=i*3+1+1+1 by omega]
   simpa using this
def OwnB (B:Nat)(v:Value)(L:List Bx3)(w:World):Prop:=w.ownsRow B 134 3 v L.length (bxCells L)
theorem OwnB.nil (B:Nat)(w:World):OwnB B (.slice none 0 0) [] w:=World.ownsRow_nil w B _ 3
theorem OwnB.shape {B:Nat} {v:Value} {F:List Bx3} {w:World} (h:OwnB B v F w):∃o c,v=.slice o F.length c:=by
 rcases h.2 with ⟨hv,h0⟩|⟨g,cap,cur,hv,_⟩
 ·exact⟨none,0,by rw[hv,h0]⟩
 ·exact⟨_,_,hv⟩
theorem OwnB.base {B B':Nat} {v:Value} {F:List Bx3} {w:World} (h:OwnB B v F w)(hB:B'≤B):OwnB B' v F w:=by
 refine⟨h.1,?_⟩
 rcases h.2 with h0|⟨g,cap,cur,hv,hg,hr⟩
 ·exact .inl h0
 ·exact .inr ⟨g,cap,cur,hv,Nat.le_trans hB hg,hr⟩
theorem OwnB.same {B:Nat} {v:Value} {F:List Bx3} {w w':World} (h:OwnB B v F w)(hs:Same B w.heap.size w w'):OwnB B v F w':=row_same h hs
theorem OwnB.below {B:Nat} {v:Value} {F:List Bx3} {w w':World} (h:OwnB B v F w)(hb:Below w.heap.size w w'):OwnB B v F w':=h.same (Same.of_below hb (Nat.le_refl _))
theorem OwnB.cellsAt {B:Nat} {oo:Option Addr} {cc:Nat} {F:List Bx3} {w:World} (h:OwnB B (.slice oo F.length cc) F w)(hn:0<F.length):∃gL,B≤gL∧gL<w.heap.size∧oo=some ⟨gL,0,none⟩∧∀j (hj:j<F.length),w.cell? ⟨gL,j*3,none⟩=some (.string F[j].n)∧w.cell? ⟨gL,j*3+1,none⟩=some (.string F[j].l)∧w.cell? ⟨gL,j*3+2,none⟩=some (.string F[j].d):=by
 rcases h.2 with ⟨h1,h0⟩|⟨g,cap',cur,h1,-⟩
 ·omega
 ·simp only[Value.slice.injEq] at h1
  obtain⟨rfl,-⟩:=h1
  have hl:=World.ownsRow.lt h g rfl
  refine⟨g,hl.1,hl.2,rfl,fun j hj=>?_⟩
  have k:=fun q u hu=>World.ownsRow.cells h (g:=g) rfl q u hu
  have e:∀q,((⟨g,0,none⟩:Addr).add q)=⟨g,q,none⟩:=fun q=>by rw[Addr.add_lit,Nat.zero_add]
  obtain⟨k0,k1,k2⟩:=bxCells_at F j hj
  have a0:=k _ _ k0
  have a1:=k _ _ k1
  have a2:=k _ _ k2
  rw[e] at a0 a1 a2
  exact⟨a0,a1,a2⟩
theorem Tryz.infoBx:(Tryz.prog.info? 134).map (fun i=>(i.zero,i.size,i.bytes))=some (some (.agg #[.string ⟨#[]⟩,.string ⟨#[]⟩,.string ⟨#[]⟩]),3,48):=by kernel_rfl
theorem opAppB {w:World} {o:Oper} {a:Act} {K:Act→World→Prop} {Q:Exit→Act→World→Prop} (s x:Operand)
  (ho:o.op=.call { callee:=.builtin .append,args:=#[s,x],argTypes:=#[135,135] })
  (B:Nat) (v:Value) (C:List Bx3) (hs:a.eval s=v) (hown:OwnB B v C w) (R:List Bx3) (ad:Addr) (n c:Nat) (hx:a.eval x=.slice (some ad) n c) (hn:n=R.length) (hR:∀j u,(bxCells R)[j]?=some u→w.cell? (ad.add j)=some u) (hlen:C.length+R.length≤10000) (hB:B≤w.heap.size)
  (h:∀v' w',OwnB B v' (C++R) w'→w.grownBy w' v.ownBlock→K (a.put o.dst v') w'):o.wp Tryz.prog a w K Q:=by
 obtain⟨i0,hi0,hz0,hz1,hz2⟩:=info_parts Tryz.infoBx
 subst hn
 unfold OwnB at hown
 have hone:∀u ∈ bxCells R,u.oneCell'=true:=by
  intro u hu
  simp only[bxCells,List.mem_flatMap] at hu
  obtain⟨m,_,hm⟩:=hu
  simp[bxC] at hm
  rcases hm with rfl|rfl|rfl<;>rfl
 obtain⟨v',w',hr,h2,h3,h4,h5⟩:=run_append_own_at (P:=Tryz.prog) w B 135 o.type 134 i0 _ 3 48 Tryz.underlying135 hi0 hz0 hz1 hz2 rfl (by decide) v C.length (bxCells C) hown ad R.length c (bxCells R) (bxCells_len R) hR hone (by unfold maxLen;omega) (by omega) hB
 unfold Oper.wp execOp
 simp only[ho,resolve,invoke,builtin,Sem.run_bind,Sem.run_pure,Result.andThen_ok,List.map_toArray,List.map_cons,List.map_nil,hs,hx,hr]
 refine h v' w' ?_ h3
 unfold OwnB
 rw[bxCells_join,List.length_append]
 exact h2
structure En where
 grp:Bool
 nm:ByteArray
 n:ByteArray
 l:ByteArray
 d:ByteArray
 mem:List Bx3
def En.ok (e:En):Prop:=e.nm.size≤20∧(e.n.size≤20∧e.l.size≤20∧e.d.size≤20)∧e.mem.length≤3∧∀b ∈ e.mem,b.ok
abbrev EnE:=En × Value
def enC (e:EnE):List Value:=[.bool e.1.grp,.string e.1.nm,.string e.1.n,.string e.1.l,.string e.1.d,e.2]
def enCells (E:List EnE):List Value:=E.flatMap enC
theorem enCells_len (L:List EnE):(enCells L).length=L.length*6:=by
 induction L with
 | nil=>rfl
 | cons r t ih=>simp only[enCells,enC,List.flatMap_cons,List.length_append,List.length_cons,List.length_nil] at ih ⊢;omega
theorem enCells_join (L R:List EnE):enCells (L++R)=enCells L++enCells R:=by simp[enCells]
theorem enCells_at (E:List EnE):∀(i:Nat)(h:i<E.length),(enCells E)[i*6]?=some (.bool E[i].1.grp)∧(enCells E)[i*6+1]?=some (.string E[i].1.nm)∧(enCells E)[i*6+2]?=some (.string E[i].1.n)∧(enCells E)[i*6+3]?=some (.string E[i].1.l)∧(enCells E)[i*6+4]?=some (.string E[i].1.d)∧(enCells E)[i*6+5]?=some E[i].2:=by
 induction E with
 | nil=>intro i h;exact absurd h (Nat.not_lt_zero _)
 | cons r t ih=>
  intro i h
  have e:enCells (r::t)=.bool r.1.grp :: .string r.1.nm :: .string r.1.n :: .string r.1.l :: .string r.1.d::r.2::enCells t:=rfl
  rw[e]
  cases i with
  | zero=>exact⟨rfl,rfl,rfl,rfl,rfl,rfl⟩
  | succ i=>
   have:=ih i (by simpa using h)
   rw[show(i+1)*6=i*6+1+1+1+1+1+1 by omega]
   simpa using this
structure Ens (B:Nat)(v:Value)(E:List EnE)(w:World):Prop where
 row:w.ownsRow B 137 6 v E.length (enCells E)
 own:∀e ∈ E,OwnB B e.2 e.1.mem w
theorem Ens.made (B:Nat)(w:World)(hB:B≤w.heap.size):Ens B (.slice (some ⟨w.heap.size,0,none⟩) 0 0) [] (w.alloc (.cells #[] 137)):=
 ⟨⟨rfl,.inr ⟨w.heap.size,0,#[],rfl,hB,hp_alloc _ _,Nat.le_refl _,Nat.zero_le _,rfl,rfl⟩⟩,fun _ h=>by simp at h⟩
theorem Ens.shape {B:Nat} {v:Value} {F:List EnE} {w:World} (h:Ens B v F w):∃o c,v=.slice o F.length c:=by
 rcases h.row.2 with ⟨hv,h0⟩|⟨g,cap,cur,hv,_⟩
 ·exact⟨none,0,by rw[hv,h0]⟩
 ·exact⟨_,_,hv⟩
theorem Ens.same {B:Nat} {v:Value} {E:List EnE} {w w':World} (h:Ens B v E w)(hs:Same B w.heap.size w w'):Ens B v E w':=
 ⟨row_same h.row hs,fun e he=>(h.own e he).same hs⟩
theorem Ens.below {B:Nat} {v:Value} {E:List EnE} {w w':World} (h:Ens B v E w)(hb:Below w.heap.size w w'):Ens B v E w':=h.same (Same.of_below hb (Nat.le_refl _))
theorem Ens.gr {B g:Nat} {v:Value} {E:List EnE} {w w':World} (h:Ens B v E w)(hg:w.grownBy w' (some g))(hB:g<B):Ens B v E w':=h.same (Same.gr hg hB (Nat.le_refl _))
theorem Ens.cellsAt {B:Nat} {oo:Option Addr} {cc:Nat} {F:List EnE} {w:World} (h:Ens B (.slice oo F.length cc) F w)(hn:0<F.length):∃gL,gL<w.heap.size∧oo=some ⟨gL,0,none⟩∧∀j (hj:j<F.length),w.cell? ⟨gL,j*6,none⟩=some (.bool F[j].1.grp)∧w.cell? ⟨gL,j*6+1,none⟩=some (.string F[j].1.nm)∧w.cell? ⟨gL,j*6+2,none⟩=some (.string F[j].1.n)∧w.cell? ⟨gL,j*6+3,none⟩=some (.string F[j].1.l)∧w.cell? ⟨gL,j*6+4,none⟩=some (.string F[j].1.d)∧w.cell? ⟨gL,j*6+5,none⟩=some F[j].2:=by
 rcases h.row.2 with ⟨h1,h0⟩|⟨g,cap',cur,h1,-⟩
 ·omega
 ·simp only[Value.slice.injEq] at h1
  obtain⟨rfl,-⟩:=h1
  have hl:=World.ownsRow.lt h.row g rfl
  refine⟨g,hl.2,rfl,fun j hj=>?_⟩
  have k:=fun q u hu=>World.ownsRow.cells h.row (g:=g) rfl q u hu
  have e:∀q,((⟨g,0,none⟩:Addr).add q)=⟨g,q,none⟩:=fun q=>by rw[Addr.add_lit,Nat.zero_add]
  obtain⟨k0,k1,k2,k3,k4,k5⟩:=enCells_at F j hj
  have a0:=k _ _ k0
  have a1:=k _ _ k1
  have a2:=k _ _ k2
  have a3:=k _ _ k3
  have a4:=k _ _ k4
  have a5:=k _ _ k5
  rw[e] at a0 a1 a2 a3 a4 a5
  exact⟨a0,a1,a2,a3,a4,a5⟩
theorem Tryz.infoEn:(Tryz.prog.info? 137).map (fun i=>(i.zero,i.size,i.bytes))=some (some (.agg #[.bool false,.string ⟨#[]⟩,.string ⟨#[]⟩,.string ⟨#[]⟩,.string ⟨#[]⟩,.slice none 0 0]),6,96):=by kernel_rfl
theorem wp_appEn {w:World} {ops:Array Oper} {rest:List Oper} {o:Oper} {a:Act} {Q:Exit→Act→World→Prop} (hgd:o.guard=none)(s x:Operand)
  (ho:o.op=.call { callee:=.builtin .append,args:=#[s,x],argTypes:=#[101,101] })
  (B:Nat) (v:Value) (C:List EnE) (hs:a.eval s=v) (hown:Ens B v C w) (R:List EnE) (ad:Addr)
  (n c:Nat) (hx:a.eval x=.slice (some ad) n c) (hn:n=R.length) (hR:∀j u,(enCells R)[j]?=some u→w.cell? (ad.add j)=some u) (hRo:∀e ∈ R,OwnB B e.2 e.1.mem w) (hlen:C.length+R.length≤10000) (hB:B≤w.heap.size)
  (h:∀v' w',Ens B v' (C++R) w'→w.grownBy w' v.ownBlock→wpList Tryz.prog ops Q rest (a.put o.dst v') w'):wpList Tryz.prog ops Q (o::rest) a w:=by
 obtain⟨i0,hi0,hz0,hz1,hz2⟩:=info_parts Tryz.infoEn
 subst hn
 have hone:∀u ∈ enCells R,u.oneCell'=true:=by
  intro u hu
  simp only[enCells,List.mem_flatMap] at hu
  obtain⟨m,hm0,hm⟩:=hu
  obtain⟨oo,cc,hv⟩:=(hRo m hm0).shape
  simp[enC] at hm
  rcases hm with rfl|rfl|rfl|rfl|rfl|rfl
  ·rfl
  ·rfl
  ·rfl
  ·rfl
  ·rfl
  ·rw[hv];rfl
 refine wpList_append_own _ hgd s x 101 ho B 137 i0 _ 6 96 Tryz.underlying101 hi0 hz0 hz1 hz2 rfl (by decide) v C.length (enCells C) hs hown.row ad R.length c (enCells R) hx
  (enCells_len R) hR hone (by unfold maxLen;omega) (by omega) hB ?_
 intro v' w' h1 h2 _
 refine h v' w' ⟨?_,?_⟩ h2
 ·rw[enCells_join,List.length_append]
  exact h1
 ·intro e he
  have hx0:OwnB B e.2 e.1.mem w:=by
   rcases List.mem_append.1 he with he|he
   ·exact hown.own e he
   ·exact hRo e he
  exact World.ownsRow.kept hx0 h2 (own_apartA (show w.ownsRow B 134 3 _ _ _ from hx0) hown.row (by decide))
theorem GoneBy.mono {W:World} {g cl cp a0 z k k':Nat} {o:Option Addr} {w:World} (h:GoneBy W g o cl cp a0 z k w)(hk:k≤k'):GoneBy W g o cl cp a0 z k' w:=by
 obtain⟨h1,a',h2,h3⟩:=h
 exact⟨h1,a',by omega,h3⟩
abbrev rgAct (L M R:List Value):Act:={ tmps:=(L++M++R).toArray,defers:=[] }
def enFact (tv:Value)(Bk g B:Nat)(j:Nat)(v:Value)(w:World):Prop:=
 match j with
 | 0=>v=.pointer (some ⟨Bk,5,none⟩)
 | 1=>v=tv
 | 2=>v=.pointer (some ⟨g,0,none⟩)
 | 3=>∃ q:Bx3,v=.agg #[.string q.n,.string q.l,.string q.d]∧q.ok
 | 4=>∃ (b:Nat) (q:Bx3),v=.slice (some ⟨b,0,none⟩) 1 1∧B≤b∧w.heap[b]?=some (.cells #[.string q.n,.string q.l,.string q.d] 134)∧q.ok
 | _=>True
def enDst (j:Nat):Nat:=
 match j with
 | 0=>33
 | 1=>34
 | 2=>35
 | 3=>36
 | 4=>37
 | _=>999
theorem enFact.gr {tv:Value} {Bk g B:Nat} (hB:g<B)(j:Nat)(v:Value)(w w':World)(h:enFact tv Bk g B j v w)(hg:w.grownBy w' (some g)):enFact tv Bk g B j v w':=by
 unfold enFact at h ⊢
 split
 case h_5=>
  obtain⟨b,t,h1,h2,h3,h4⟩:=h
  exact⟨b,t,h1,h2,by rw[hg.block b (hp_lt h3) (by intro e;have:=Option.some.inj e;omega)];exact h3,h4⟩
 all_goals first
  | exact h
  | trivial
set_option maxHeartbeats 8000000 in
theorem srcEntries (g:Nat)(o:Option Addr)(c:List UInt8)(cp a z:Nat)(w:World)(h:Src w g o c.length cp a z)(hc:Code g w o c)(ha:a≤700000000000)(hl:c.length≤1048576)(hz:z≤12) :
  Calls Tryz.prog 61 #[.pointer (some ⟨g,0,none⟩)] w fun e w'=>∃ (v:Value) (E:List EnE) (a':Nat),e=.returned v∧E.length≤7∧(∀e ∈ E,e.1.ok)∧Ens w.heap.size v E w'∧a'≤a+15000∧Src w' g o c.length cp a' z∧w.grownBy w' (some g):=by
 have HC:Hid (Code g w o c):=hc
 have hgl:=h.lt
 have Hs:=mkHid h
 have Hg:Hid (w.grownBy w (some g)):=gr_refl _ _
 clear h hc
 go_enter Tryz.func61,Tryz.ntmps61
 obtain⟨W1,hW1⟩:∃W,w.alloc (.cells #[] 137)=W:=⟨_,rfl⟩
 have b1:Below w.heap.size w W1:=by rw[← hW1];exact(Below.refl _ _).alloc (Nat.le_refl _) _
 have O1:Ens w.heap.size (.slice (some ⟨w.heap.size,0,none⟩) 0 0) [] W1:=by rw[← hW1];exact Ens.made _ w (Nat.le_refl _)
 have Hs0:=mkHid (Hs.out.below b1)
 have Hg0:Hid (w.grownBy W1 (some g)):=gr_below b1
 have HO1:=mkHid O1
 have HW1:=mkHid hW1
 have c2:=Hs0.out.c2
 have hq3:(z:Int) / 3=((z / 3:Nat):Int):=rfl
 have hN:=srcN g o c cp a z (4+((z / 3:Nat):Int)) W1 Hs0.out (HC.out.grown Hg0.out (Nat.le_refl _)) (by omega) hl (by omega) (by omega)
 obtain⟨z3,hz3⟩:∃q,z / 3=q:=⟨_,rfl⟩
 rw[hz3] at hN hq3
 have hz4:z3≤4:=by omega
 rw[← HW1.out] at c2
 clear O1 b1 hW1 Hs Hg hz3
 go_wp2_with fail
 rw[HW1.out]
 refine hN.mono ?_
 rintro e w1 ⟨v,rfl,hv,hs1,hg1⟩
 have Hs1:=mkHid hs1
 have Hg1:=mkHid (gr_trans Hg0.out hg1)
 have HO2:=mkHid (HO1.out.gr hg1 hgl)
 clear hN hs1 hg1 Hs0 Hg0 HO1 HW1 c2 hq3
 go_wp2
 go_loopw [3,4] (fun ov iv wr=>∃ (k a':Nat) (E:List EnE),iv=.int .i64 k∧E.length+k≤7∧a'+2000*k≤a+14001∧Hid (∀e ∈ E,e.1.ok)∧Hid (Src wr g o c.length cp a' z)∧Hid (w.grownBy wr (some g))∧Hid (Ens w.heap.size ov E wr)) (fun _ iv _=>(Lib.intOf iv).toNat)
 case atStart=>exact⟨v,a+1,[],by go_num,by simp;omega,by omega,fun t ht=>by simp at ht,Hs1,Hg1,HO2⟩
 case round=>
  clear Hs1 Hg1 HO2
  obtain⟨k,a',E,rfl,hEk,hak,HT,Hs,Hg,HO⟩:=hrel
  by_cases hk:0<k
  ·obtain⟨V0,hV0⟩:∃V,V=wr:=⟨_,rfl⟩
   subst hV0
   have hgV:g<V0.heap.size:=Hs.out.lt
   have hwV:w.heap.size≤V0.heap.size:=Hg.out.size
   have HC0:Hid (Code g V0 o c):=HC.out.grown Hg.out (Nat.le_refl _)
   have hR2:=hp_alloc V0 (.cells #[.bool false,.string ⟨#[]⟩,.string ⟨#[]⟩,.string ⟨#[]⟩,.string ⟨#[]⟩,.slice none 0 0] 137)
   go_wp2_with (refine wpL_store_row rfl 137 _ _ rfl V0.heap.size _ rfl rfl 137 _ hR2 (by kernel_rfl) rfl (by simp[Value.oneCell']) ?_;refine Hid.out ?_)
   obtain⟨V5,hV5⟩:∃V,(V0.alloc (.cells #[.bool false,.string ⟨#[]⟩,.string ⟨#[]⟩,.string ⟨#[]⟩,.string ⟨#[]⟩,.slice none 0 0] 137)).setRow V0.heap.size #[.bool false,.string ⟨#[]⟩,.string ⟨#[]⟩,.string ⟨#[]⟩,.string ⟨#[]⟩,.slice none 0 0]=V:=⟨_,rfl⟩
   have hb5:=below_row hV5
   have HB5:Hid (V5.heap[V0.heap.size]?=some (.cells #[.bool false,.string ⟨#[]⟩,.string ⟨#[]⟩,.string ⟨#[]⟩,.string ⟨#[]⟩,.slice none 0 0] 137 (0,0))):=by rw[← hV5];exact setRow_heap _ _ _ _ _ _ hR2
   rw[hV5]
   obtain⟨Bk,hBk⟩:∃Bk,Bk=V0.heap.size:=⟨_,rfl⟩
   rw[← hBk] at HB5 ⊢
   have hBV:V0.heap.size≤Bk:=by omega
   have hBk5:Bk<V5.heap.size:=hp_lt HB5.out
   have Hs5:=mkHid (Hs.out.below hb5)
   have Hg5:Hid (V0.grownBy V5 (some g)):=gr_below hb5
   clear hR2 hV5 hBk hb5 Hs
   refine mkHid ?_
   have hN207:=srcOne g o c cp a' z 4 V5 Hs5.out (HC0.out.grown Hg5.out (Nat.le_refl _)) (by omega) hl (by omega) (by omega)
   go_wp2_with fail
   refine hN207.mono ?_
   rintro e w202 ⟨b201,rfl,hs205,hg206⟩
   have Hs203:=mkHid hs205
   have Hg204:=mkHid (gr_trans Hg5.out hg206)
   have HB208:Hid (w202.heap[Bk]?=some (.cells #[.bool false,.string ⟨#[]⟩,.string ⟨#[]⟩,.string ⟨#[]⟩,.string ⟨#[]⟩,.slice none 0 0] 137 (0,0))):=(hg206.block Bk (hp_lt HB5.out) (by intro e;have:=Option.some.inj e;omega)).trans HB5.out
   clear HB5
   clear hN207 hs205 hg206 Hs5 Hg5
   cases b201 with
   | true=>
    have hc0:w202.cell? ⟨Bk,0,none⟩=some (.bool false):=by simp[World.cell?,HB208.out]
    have hf0:w202.frozen? ⟨Bk,0,none⟩=false:=by simp[World.frozen?,HB208.out]
    obtain⟨Va,hVa⟩:∃V,w202.setCell ⟨Bk,0,none⟩ (.bool true)=V:=⟨_,rfl⟩
    have HBa:Hid (Va.heap[Bk]?=some (.cells #[.bool true,.string ⟨#[]⟩,.string ⟨#[]⟩,.string ⟨#[]⟩,.string ⟨#[]⟩,.slice none 0 0] 137 (0,0))):=by show _=_;rw[← hVa];simp[World.setCell,Array.getElem?_modify,HB208.out]
    have Hsa:Hid (Src Va g o c.length cp (a'+1) z):=by rw[← hVa];exact Hs203.out.setC (by omega)
    have Hga:Hid (V0.grownBy Va (some g)):=by rw[← hVa];exact gr_setC Hg204.out hBV
    have HVa:=mkHid hVa
    clear hVa HB208 Hs203 Hg204
    have hN216:=srcWord g o c cp (a'+1) z Va Hsa.out (HC0.out.grown Hga.out (Nat.le_refl _)) (by omega) hl
    go_wp2_with fail
    rw[HVa.out]
    clear hc0 hf0 HVa
    refine hN216.mono ?_
    rintro e w211 ⟨t209,a210,rfl,hzt209,ha210,hs214,hg215⟩
    have Hs212:=mkHid hs214
    have Hg213:=mkHid (gr_trans Hga.out hg215)
    have HB217:Hid (w211.heap[Bk]?=some (.cells #[.bool true,.string ⟨#[]⟩,.string ⟨#[]⟩,.string ⟨#[]⟩,.string ⟨#[]⟩,.slice none 0 0] 137 (0,0))):=(hg215.block Bk (hp_lt HBa.out) (by intro e;have:=Option.some.inj e;omega)).trans HBa.out
    clear HBa
    clear hN216 hs214 hg215 Hsa Hga
    have hc1:w211.cell? ⟨Bk,1,none⟩=some (.string ⟨#[]⟩):=by simp[World.cell?,HB217.out]
    have hf1:w211.frozen? ⟨Bk,1,none⟩=false:=by simp[World.frozen?,HB217.out]
    obtain⟨Vb,hVb⟩:∃V,w211.setCell ⟨Bk,1,none⟩ (.string t209)=V:=⟨_,rfl⟩
    have HBb:Hid (Vb.heap[Bk]?=some (.cells #[.bool true,.string t209,.string ⟨#[]⟩,.string ⟨#[]⟩,.string ⟨#[]⟩,.slice none 0 0] 137 (0,0))):=by show _=_;rw[← hVb];simp[World.setCell,Array.getElem?_modify,HB217.out]
    have Hsb:Hid (Src Vb g o c.length cp a210 z):=by rw[← hVb];exact Hs212.out.setC (by omega)
    have Hgb:Hid (V0.grownBy Vb (some g)):=by rw[← hVb];exact gr_setC Hg213.out hBV
    have HVb:=mkHid hVb
    clear hVb HB217 Hs212 Hg213
    have hN224:=srcN g o c cp a210 z 4 Vb Hsb.out (HC0.out.grown Hgb.out (Nat.le_refl _)) (by omega) hl (by omega) (by omega)
    go_wp2_with fail
    rw[HVb.out]
    clear hc1 hf1 HVb
    refine hN224.mono ?_
    rintro e w219 ⟨v218,rfl,hv218,hs222,hg223⟩
    have Hs220:=mkHid hs222
    have Hg221:=mkHid (gr_trans Hgb.out hg223)
    have HB225:Hid (w219.heap[Bk]?=some (.cells #[.bool true,.string t209,.string ⟨#[]⟩,.string ⟨#[]⟩,.string ⟨#[]⟩,.slice none 0 0] 137 (0,0))):=(hg223.block Bk (hp_lt HBb.out) (by intro e;have:=Option.some.inj e;omega)).trans HBb.out
    clear HBb
    clear hN224 hs222 hg223 Hsb Hgb
    go_wp2
    go_loopw [6] (fun jv wr=>∃ (j a1 ct:Nat) (P:List Bx3) (ot:Option Addr),jv=.int .i64 j∧P.length+j≤3∧a1+500*j≤a'+1700∧Hid (∀t ∈ P,t.ok)∧Hid (Src wr g o c.length cp a1 z)∧Hid (V0.grownBy wr (some g))∧Hid (wr.heap[Bk]?=some (.cells #[.bool true,.string t209,.string ⟨#[]⟩,.string ⟨#[]⟩,.string ⟨#[]⟩,.slice ot P.length ct] 137 (0,0)))∧Hid (OwnB (Bk+1) (.slice ot P.length ct) P wr)) (fun jv _=>(Lib.intOf jv).toNat)
    case atStart=>exact⟨v218,(a210+1),0,[],none,by go_num,by simp;omega,by omega,fun t ht=>by simp at ht,Hs220,Hg221,HB225,OwnB.nil _ _⟩
    case round=>
     clear Hs220 Hg221 HB225
     obtain⟨j,a1,ct,P,ot,rfl,hPj,haj,HP,Hs,Hgi,HB,HX⟩:=hrel
     by_cases hj:0<j
     ·have HCW:Hid (Code g wr o c):=HC0.out.grown Hgi.out (Nat.le_refl _)
      have hgr0:g<wr.heap.size:=Hs.out.lt
      have hBw:Bk<wr.heap.size:=hp_lt HB.out
      have HB1:Hid (wr.cell? ⟨Bk,5,none⟩=some (.slice ot P.length ct)):=by show _=_;simp[World.cell?,HB.out]
      have HG:Hid (GoneBy wr g o c.length cp a1 z (70*0) wr.drew):=⟨gr_below (Below.refl _ _).drew,a1,by omega,Hs.out.below (Below.refl _ _).drew⟩
      go_wp2
      obtain⟨W0,hW0⟩:∃V,V=wr:=⟨_,rfl⟩
      subst hW0
      refine wp_region_any (by kernel_rfl) ?_
      refine wpAny_phase 5 3 #[true,true,true,true,true,false,false,false] enDst (fun x=>rgAct [_,_,_,_,_,_,_,_,_,_,_,_,_,_,_,_,_,_,_,_,_,_,_,_,_,_,_,_,_,_,_,_,_] [x 33,x 34,x 35,x 36,x 37] [_,_,_,_,_,_,_,_,_,_]) (enFact (.slice ot P.length ct) Bk g W0.heap.size) (fun k w=>GoneBy W0 g o c.length cp a1 z (70*k) w) (fun w w'=>w.grownBy w' (some g)) rfl rfl (by decide) rfl (by kernel_rfl) (by kernel_rfl) ?_ (enFact.gr hgr0) ?hend ?hstep _ _ 0 (fun j=>match j with|33=>u33|34=>u34|35=>u35|36=>u36|37=>u37|_=>undef) _ rfl rfl rfl (by intro j hj;simp[Array.getD]) ?_ HG.out ?_
      ·intro i j hi hj hne
       have e1:∀q,q<5→∀r,r<5→q≠r→enDst q≠enDst r:=by decide
       exact e1 j hj i hi hne
      case hend=>
       intro x wq hG hf
       have f1:x 34=.slice ot P.length ct:=hf 1 (by decide)
       obtain⟨b,q,e4,hb,hbk,hft⟩:=hf 4 (by decide)
       have e4':x 37=.slice (some ⟨b,0,none⟩) 1 1:=e4
       obtain⟨hgq,a2,ha2,hs2⟩:=hG
       have HXq:OwnB (Bk+1) (.slice ot P.length ct) P wq:=HX.out.same (Same.gr hgq (by omega) (Nat.le_refl _))
       have hsq:Bk+1≤wq.heap.size:=Nat.le_trans hBw hgq.size
       have hcel:∀j u,(bxCells [q])[j]?=some u→wq.cell? ((⟨b,0,none⟩:Addr).add j)=some u:=by
        intro j u hj
        rw[Addr.add_lit,Nat.zero_add]
        match j,hj with
        | 0,hj=>cases hj;simp[World.cell?,hbk]
        | 1,hj=>cases hj;simp[World.cell?,hbk]
        | 2,hj=>cases hj;simp[World.cell?,hbk]
       have HBq:wq.heap[Bk]?=some (.cells #[.bool true,.string t209,.string ⟨#[]⟩,.string ⟨#[]⟩,.string ⟨#[]⟩,.slice ot P.length ct] 137 (0,0)):=by
        rw[hgq.block Bk hBw (by intro e;have:=Option.some.inj e;omega)]
        exact HB.out
       have hblk:∀q,(Value.slice ot P.length ct).ownBlock=some q→Bk+1≤q:=fun q hq=>(World.ownsRow.lt HX.out q hq).1
       have Hgq:=mkHid (gr_trans Hgi.out hgq)
       clear hf e4 hbk
       refine wpAny_ready (rs:=[5]) (by kernel_rfl) (by simp) ?_
       refine AllReady.cons rfl (fun K hK=>?_) AllReady.nil
       rw[if_pos (by rfl)]
       refine opAppB _ _ rfl (Bk+1) (.slice ot P.length ct) P f1 HXq [q] ⟨b,0,none⟩ 1 1 e4' rfl hcel (by simp;omega) hsq ?_
       intro v' w' hO' hG'
       refine hK _ _ ?_
       clear hK K
       have hs3:Src w' g o c.length cp a2 z:=hs2.row hG' (fun q hq=>by have:=hblk q hq;omega)
       have hg3:V0.grownBy w' (some g):=gr_row Hgq.out hG' (fun q hq=>by have:=hblk q hq;omega)
       have hB3:w'.heap[Bk]?=some (.cells #[.bool true,.string t209,.string ⟨#[]⟩,.string ⟨#[]⟩,.string ⟨#[]⟩,.slice ot P.length ct] 137 (0,0)):=by
        rw[hG'.block Bk (by omega) (fun e=>by have:=hblk Bk e.symm;omega)]
        exact HBq
       obtain⟨o2,c2,rfl⟩:=hO'.shape
       have hc3:w'.cell? ⟨Bk,5,none⟩=some (.slice ot P.length ct):=by simp[World.cell?,hB3]
       have hf3:w'.frozen? ⟨Bk,5,none⟩=false:=by simp[World.frozen?,hB3]
       have HP2:Hid (∀q0 ∈ P ++ [q],q0.ok):=by
        intro q0 hq
        rcases List.mem_append.1 hq with hq|hq
        ·exact HP.out q0 hq
        ·simp only[List.mem_cons,List.not_mem_nil,or_false] at hq
         subst hq
         exact hft
       have hP2:(P ++ [q]).length≤P.length+1:=by simp
       obtain⟨P2,hPe⟩:∃P2,P ++ [q]=P2:=⟨_,rfl⟩
       rw[hPe] at HP2 hP2 hO' ⊢
       clear hPe
       have HB4:Hid ((w'.setCell ⟨Bk,5,none⟩ (.slice o2 P2.length c2)).heap[Bk]?=some (.cells #[.bool true,.string t209,.string ⟨#[]⟩,.string ⟨#[]⟩,.string ⟨#[]⟩,.slice o2 P2.length c2] 137 (0,0))):=by show _=_;simp[World.setCell,Array.getElem?_modify,hB3]
       have HX4:Hid (OwnB (Bk+1) (.slice o2 P2.length c2) P2 (w'.setCell ⟨Bk,5,none⟩ (.slice o2 P2.length c2))):=row_stay hO' (fun q hq=>by
        have:=(World.ownsRow.lt hO' q hq).1
        simp[World.setCell,Array.getElem?_modify,show Bk≠q by omega])
       have Hs4:=mkHid (hs3.setC (b:=Bk) (j:=5) (v:=.slice o2 P2.length c2) (by omega))
       have Hg4:=mkHid (gr_setC (b:=Bk) (j:=5) (v:=.slice o2 P2.length c2) hg3 (by omega))
       clear hO' hG' HXq hcel hs2 hgq hs3 hg3 hB3 HBq HX HB HB1 HP Hgq HG
       show wpAny _ _ _ _ 2 _ (rgAct [_,_,_,_,_,_,_,_,_,_,_,_,_,_,_,_,_,_,_,_,_,_,_,_,_,_,_,_,_,_,_,_,_] [x 33,x 34,x 35,x 36,x 37] (.slice o2 P2.length c2 :: [_,_,_,_,_,_,_,_,_])) _
       generalize x 33=y33
       generalize x 34=y34
       generalize x 35=y35
       generalize x 36=y36
       generalize x 37=y37
       go_simp
       refine wpAny_ready (rs:=[6]) (by kernel_rfl) (by simp) ?_
       refine AllReady.cons rfl (fun K hK=>?_) AllReady.nil
       go_simp
       refine hK _ _ ?_
       clear hK K
       go_simp
       refine wpAny_ready (rs:=[7]) (by kernel_rfl) (by simp) ?_
       refine AllReady.cons rfl (fun K hK=>?_) AllReady.nil
       go_simp
       refine hK _ _ ?_
       clear hK K
       go_simp
       refine wpAny_done (by kernel_rfl) ?_ _
       go_simp
       go_wp2
       go_roundw
       case rel=>exact⟨j-1,a2,c2,P2,o2,by go_num,by omega,by omega,HP2,Hs4,Hg4,HB4,HX4⟩
       case measure=>simp[Lib.intOf];omega
      case hstep=>
       intro k2 x L wr i hil hkl hG hi hf
       rcases (show i=0∨i=1∨i=2∨i=3∨i=4 by omega) with rfl|rfl|rfl|rfl|rfl
       ·clear hi hf
        refine wpOp_step rfl (fun K hK=>?_)
        go_simp
        exact hK _ _ ⟨.pointer (some ⟨Bk,5,none⟩),by simp[put,enDst],rfl,gr_refl _ _,(hG.still (Below.refl _ _)).mono (by omega)⟩
       ·have e0:x 33=.pointer (some ⟨Bk,5,none⟩):=hf 0 (by omega) (ready_dep hi rfl 0 (by kernel_rfl))
        clear hi hf
        have hcel:wr.cell? ⟨Bk,5,none⟩=some (.slice ot P.length ct):=gr_cell hG.1 (show Bk≠g by omega) HB1.out
        refine wpOp_step rfl (fun K hK=>?_)
        go_simp
        exact hK _ _ ⟨.slice ot P.length ct,by simp[put,enDst,e0],rfl,gr_refl _ _,(hG.still (Below.refl _ _)).mono (by omega)⟩
       ·clear hi hf
        refine wpOp_step rfl (fun K hK=>?_)
        go_simp
        exact hK _ _ ⟨.pointer (some ⟨g,0,none⟩),by simp[put,enDst],rfl,gr_refl _ _,(hG.still (Below.refl _ _)).mono (by omega)⟩
       ·have e0:x 35=.pointer (some ⟨g,0,none⟩):=hf 2 (by omega) (ready_dep hi rfl 2 (by kernel_rfl))
        clear hi hf
        obtain⟨hgr,a1,ha1,hs1⟩:=hG
        have hN:=srcBox g o c cp a1 z wr hs1 (HCW.out.grown hgr (Nat.le_refl _)) (by omega) hl
        refine wpOp_step rfl (fun K hK=>?_)
        go_simp
        refine hN.mono ?_
        rintro e w2 ⟨n,l,d,a2,rfl,hz,ha2,hs2,hg2⟩
        go_simp
        exact hK _ _ ⟨.agg #[.string n,.string l,.string d],by simp[put,enDst,e0],⟨⟨n,l,d⟩,rfl,hz⟩,hg2,gr_trans hgr hg2,a2,by omega,hs2⟩
       ·have f3:=hf 3 (by omega) (ready_dep hi rfl 3 (by kernel_rfl))
        clear hi hf
        obtain⟨q,e0,hz⟩:=f3
        have e0':x 36=.agg #[.string q.n,.string q.l,.string q.d]:=e0
        clear e0
        refine wpOp_step rfl (fun K hK=>?_)
        go_simp
        have hbb:∀cs,Below wr.heap.size wr (wr.alloc (.cells cs 134)):=fun cs=>(Below.refl _ _).alloc (Nat.le_refl _) _
        exact hK _ _ ⟨.slice (some ⟨wr.heap.size,0,none⟩) 1 1,by simp[put,enDst,e0'],⟨wr.heap.size,q,rfl,hG.1.size,hp_alloc _ _,hz⟩,gr_below (hbb _),(hG.still (hbb _)).mono (by omega)⟩
      ·intro k2 j hk2
       simp[Array.getD] at hk2
      ·intro j hj hd
       simp[Array.getD] at hd
     ·skip
      have hAl:=HO.out.gr Hgi.out hgl
      obtain⟨VA,hVA⟩:∃V,wr.alloc (.cells #[.bool true,.string t209,.string ⟨#[]⟩,.string ⟨#[]⟩,.string ⟨#[]⟩,.slice ot P.length ct] 137)=V:=⟨_,rfl⟩
      have bA:Below wr.heap.size wr VA:=by rw[← hVA];exact(Below.refl _ _).alloc (Nat.le_refl _) _
      have HAl:=mkHid (hAl.below bA)
      have hx0:OwnB (Bk+1) (.slice ot P.length ct) P VA:=OwnB.below (w:=wr) HX.out bA
      obtain⟨q9,hq9⟩:∃q:EnE,q=(⟨true,t209,⟨#[]⟩,⟨#[]⟩,⟨#[]⟩,P⟩,.slice ot P.length ct):=⟨_,rfl⟩
      have HRo:Hid (∀e ∈ [q9],OwnB w.heap.size e.2 e.1.mem VA):=by
       intro e he
       simp only[List.mem_cons,List.not_mem_nil,or_false] at he
       subst he
       rw[hq9]
       exact hx0.base (by omega)
      have n2:VA.heap[wr.heap.size]?=some (.cells #[.bool true,.string t209,.string ⟨#[]⟩,.string ⟨#[]⟩,.string ⟨#[]⟩,.slice ot P.length ct] 137 (0,0)):=by have h9:=hp_alloc wr (.cells #[.bool true,.string t209,.string ⟨#[]⟩,.string ⟨#[]⟩,.string ⟨#[]⟩,.slice ot P.length ct] 137);rw[hVA] at h9;first|exact h9|simpa using h9
      have Hcs:Hid (∀j u,(enCells [q9])[j]?=some u→VA.cell? ((⟨wr.heap.size,0,none⟩:Addr).add j)=some u):=by
       intro j u hj
       rw[Addr.add_lit,Nat.zero_add]
       rw[hq9] at hj
       match j,hj with
       | 0,hj=>cases hj;simp[World.cell?,n2]
       | 1,hj=>cases hj;simp[World.cell?,n2]
       | 2,hj=>cases hj;simp[World.cell?,n2]
       | 3,hj=>cases hj;simp[World.cell?,n2]
       | 4,hj=>cases hj;simp[World.cell?,n2]
       | 5,hj=>cases hj;simp[World.cell?,n2]
      have hsA:w.heap.size≤VA.heap.size:=Nat.le_trans hwV (Nat.le_trans Hgi.out.size bA.size)
      have HVA:=mkHid hVA
      have HgA:=mkHid (gr_trans (gr_trans Hg.out Hgi.out) (gr_below bA))
      have HsA:=mkHid (Hs.out.below bA)
      have Hok:Hid (q9.1.ok):=by
       rw[hq9]
       exact⟨by show ByteArray.size t209≤20;omega,⟨by show ByteArray.size ⟨#[]⟩≤20;decide,by show ByteArray.size ⟨#[]⟩≤20;decide,by show ByteArray.size ⟨#[]⟩≤20;decide⟩,by show P.length≤3;omega,HP.out⟩
      have HBc:=mkHid HB.out
      clear hAl bA hx0 n2 hVA hq9 HO
      go_wp2_with (first|(refine wpL_load_row rfl 137 _ rfl Bk _ 137 (0,0) _ rfl HBc.out Tryz.underlying137 rfl (by kernel_rfl) ?_)|(at_builtin;go_must (rw[HVA.out];refine wp_appEn (w:=VA) rfl _ _ rfl w.heap.size u3 E rfl HAl.out [q9] ⟨wr.heap.size,0,none⟩ 1 1 rfl rfl Hcs.out HRo.out (by simp;omega) hsA ?_;intro v' w' hA' hG';refine Hid.out ?_)))
      have hblk:∀q,u3.ownBlock=some q→w.heap.size≤q:=fun q hq=>(World.ownsRow.lt HAl.out.row q hq).1
      have Hs2:=mkHid (HsA.out.row hG' (fun q hq=>by have:=hblk q hq;omega))
      have Hg2:=mkHid (gr_row HgA.out hG' hblk)
      have HA2:=mkHid hA'
      have HT2:Hid (∀e ∈ E ++ [q9],e.1.ok):=by
       intro e he
       rcases List.mem_append.1 he with he|he
       ·exact HT.out e he
       ·simp only[List.mem_cons,List.not_mem_nil,or_false] at he
        subst he
        exact Hok.out
      have hE2:(E ++ [q9]).length≤E.length+1:=by simp
      clear hA' hG' HAl HRo Hcs HVA HgA HsA Hok HBc HT
      generalize E ++ [q9]=E2 at *
      refine mkHid ?_
      go_wp2
      refine⟨⟨k-1,a1,E2,by go_num,by omega,by omega,HT2,Hs2,Hg2,HA2⟩,by simp[Lib.intOf];omega⟩
   | false=>
    have hN214:=srcBox g o c cp (a'+1) z w202 Hs203.out (HC0.out.grown Hg204.out (Nat.le_refl _)) (by omega) hl
    go_wp2_with fail
    refine hN214.mono ?_
    rintro e w209 ⟨bn,bl,bd,a9,rfl,hz9,ha9,hs212,hg213⟩
    have Hs210:=mkHid hs212
    have Hg211:=mkHid (gr_trans Hg204.out hg213)
    have HB215:Hid (w209.heap[Bk]?=some (.cells #[.bool false,.string ⟨#[]⟩,.string ⟨#[]⟩,.string ⟨#[]⟩,.string ⟨#[]⟩,.slice none 0 0] 137 (0,0))):=(hg213.block Bk (hp_lt HB208.out) (by intro e;have:=Option.some.inj e;omega)).trans HB208.out
    clear HB208
    clear hN214 hs212 hg213 Hs203 Hg204
    have hc2:w209.cell? ⟨Bk,2,none⟩=some (.string ⟨#[]⟩):=by simp[World.cell?,HB215.out]
    have hc3:w209.cell? ⟨Bk,3,none⟩=some (.string ⟨#[]⟩):=by simp[World.cell?,HB215.out]
    have hc4:w209.cell? ⟨Bk,4,none⟩=some (.string ⟨#[]⟩):=by simp[World.cell?,HB215.out]
    have hf2:w209.frozen? ⟨Bk,2,none⟩=false:=by simp[World.frozen?,HB215.out]
    have hf3:w209.frozen? ⟨Bk,3,none⟩=false:=by simp[World.frozen?,HB215.out]
    have hf4:w209.frozen? ⟨Bk,4,none⟩=false:=by simp[World.frozen?,HB215.out]
    have hbx:∃q:Bx3,q=⟨bn,bl,bd⟩:=⟨_,rfl⟩
    have HBz:Hid ((((w209.setCell ⟨Bk,2,none⟩ (.string bn)).setCell ⟨Bk,3,none⟩ (.string bl)).setCell ⟨Bk,4,none⟩ (.string bd)).heap[Bk]?=some (.cells #[.bool false,.string ⟨#[]⟩,.string bn,.string bl,.string bd,.slice none 0 0] 137 (0,0))):=by show _=_;simp[World.setCell,Array.getElem?_modify,HB215.out]
    have Hsz:Hid (Src (((w209.setCell ⟨Bk,2,none⟩ (.string bn)).setCell ⟨Bk,3,none⟩ (.string bl)).setCell ⟨Bk,4,none⟩ (.string bd)) g o c.length cp a9 z):=((Hs210.out.setC (by omega)).setC (by omega)).setC (by omega)
    have Hgz:Hid (V0.grownBy (((w209.setCell ⟨Bk,2,none⟩ (.string bn)).setCell ⟨Bk,3,none⟩ (.string bl)).setCell ⟨Bk,4,none⟩ (.string bd)) (some g)):=gr_setC (gr_setC (gr_setC Hg211.out hBV) hBV) hBV
    clear hbx
    have hAl:=HO.out.gr Hgz.out hgl
    obtain⟨VA,hVA⟩:∃V,(((w209.setCell ⟨Bk,2,none⟩ (.string bn)).setCell ⟨Bk,3,none⟩ (.string bl)).setCell ⟨Bk,4,none⟩ (.string bd)).alloc (.cells #[.bool false,.string ⟨#[]⟩,.string bn,.string bl,.string bd,.slice none 0 0] 137)=V:=⟨_,rfl⟩
    have bA:Below (((w209.setCell ⟨Bk,2,none⟩ (.string bn)).setCell ⟨Bk,3,none⟩ (.string bl)).setCell ⟨Bk,4,none⟩ (.string bd)).heap.size (((w209.setCell ⟨Bk,2,none⟩ (.string bn)).setCell ⟨Bk,3,none⟩ (.string bl)).setCell ⟨Bk,4,none⟩ (.string bd)) VA:=by rw[← hVA];exact(Below.refl _ _).alloc (Nat.le_refl _) _
    have HAl:=mkHid (hAl.below bA)
    have hx0:OwnB (Bk+1) (.slice none 0 0) [] VA:=OwnB.below (w:=(((w209.setCell ⟨Bk,2,none⟩ (.string bn)).setCell ⟨Bk,3,none⟩ (.string bl)).setCell ⟨Bk,4,none⟩ (.string bd))) (OwnB.nil _ _) bA
    obtain⟨q9,hq9⟩:∃q:EnE,q=(⟨false,⟨#[]⟩,bn,bl,bd,[]⟩,.slice none 0 0):=⟨_,rfl⟩
    have HRo:Hid (∀e ∈ [q9],OwnB w.heap.size e.2 e.1.mem VA):=by
     intro e he
     simp only[List.mem_cons,List.not_mem_nil,or_false] at he
     subst he
     rw[hq9]
     exact hx0.base (by omega)
    have n2:VA.heap[w209.heap.size]?=some (.cells #[.bool false,.string ⟨#[]⟩,.string bn,.string bl,.string bd,.slice none 0 0] 137 (0,0)):=by have h9:=hp_alloc (((w209.setCell ⟨Bk,2,none⟩ (.string bn)).setCell ⟨Bk,3,none⟩ (.string bl)).setCell ⟨Bk,4,none⟩ (.string bd)) (.cells #[.bool false,.string ⟨#[]⟩,.string bn,.string bl,.string bd,.slice none 0 0] 137);rw[hVA] at h9;first|exact h9|simpa using h9
    have Hcs:Hid (∀j u,(enCells [q9])[j]?=some u→VA.cell? ((⟨w209.heap.size,0,none⟩:Addr).add j)=some u):=by
     intro j u hj
     rw[Addr.add_lit,Nat.zero_add]
     rw[hq9] at hj
     match j,hj with
     | 0,hj=>cases hj;simp[World.cell?,n2]
     | 1,hj=>cases hj;simp[World.cell?,n2]
     | 2,hj=>cases hj;simp[World.cell?,n2]
     | 3,hj=>cases hj;simp[World.cell?,n2]
     | 4,hj=>cases hj;simp[World.cell?,n2]
     | 5,hj=>cases hj;simp[World.cell?,n2]
    have hsA:w.heap.size≤VA.heap.size:=Nat.le_trans hwV (Nat.le_trans Hgz.out.size bA.size)
    have HVA:=mkHid hVA
    have HgA:=mkHid (gr_trans (gr_trans Hg.out Hgz.out) (gr_below bA))
    have HsA:=mkHid (Hsz.out.below bA)
    have Hok:Hid (q9.1.ok):=by
     rw[hq9]
     exact⟨by show ByteArray.size ⟨#[]⟩≤20;decide,hz9,Nat.zero_le _,fun b hb=>by cases hb⟩
    have HBc:=mkHid HBz.out
    clear hAl bA hx0 n2 hVA hq9 HO
    go_wp2_with (first|(refine wpL_load_row rfl 137 _ rfl Bk _ 137 (0,0) _ rfl HBc.out Tryz.underlying137 rfl (by kernel_rfl) ?_)|(at_builtin;go_must (rw[HVA.out];refine wp_appEn (w:=VA) rfl _ _ rfl w.heap.size u3 E rfl HAl.out [q9] ⟨w209.heap.size,0,none⟩ 1 1 rfl rfl Hcs.out HRo.out (by simp;omega) hsA ?_;intro v' w' hA' hG';refine Hid.out ?_)))
    have hblk:∀q,u3.ownBlock=some q→w.heap.size≤q:=fun q hq=>(World.ownsRow.lt HAl.out.row q hq).1
    have Hs2:=mkHid (HsA.out.row hG' (fun q hq=>by have:=hblk q hq;omega))
    have Hg2:=mkHid (gr_row HgA.out hG' hblk)
    have HA2:=mkHid hA'
    have HT2:Hid (∀e ∈ E ++ [q9],e.1.ok):=by
     intro e he
     rcases List.mem_append.1 he with he|he
     ·exact HT.out e he
     ·simp only[List.mem_cons,List.not_mem_nil,or_false] at he
      subst he
      exact Hok.out
    have hE2:(E ++ [q9]).length≤E.length+1:=by simp
    clear hA' hG' HAl HRo Hcs HVA HgA HsA Hok HBc HT
    generalize E ++ [q9]=E2 at *
    refine mkHid ?_
    go_wp2
    refine⟨⟨k-1,a9,E2,by go_num,by omega,by omega,HT2,Hs2,Hg2,HA2⟩,by simp[Lib.intOf];omega⟩
  ·go_wp2
   go_ret
   exact⟨_,E,a',rfl,by omega,HT.out,HO.out,by omega,Hs.out,Hg.out⟩
end Go.Proofs.YtibbpmhbgbafhaaGreatDoor
namespace Go.Proofs.YtibbpmhbgbafhaaGreatDoor
open Go.RowKit Go.Lib
theorem Own.belowG {B:Nat} {v:Value} {p:List UInt8} {w w':World} (h:Own B v p w)(hb:Below w.heap.size w w'):Own B v p w':=row_stay h fun k hk=>hb.block k (World.ownsRow.lt h k hk).2
theorem wp_appG {P:Program} {w:World} {ops:Array Oper} {rest:List Oper} {o:Oper} {a:Act} {Q:Exit→Act→World→Prop} (hgd:o.guard=none)(s x:Operand)(t:TypeId)
  (ho:o.op=.call { callee:=.builtin .append,args:=#[s,x],argTypes:=#[t,t] })
  (i:TypeInfo) (ht:P.underlying t=some (.slice 5)) (hi:P.info? 5=some i) (hz:i.zero=some (.int .u8 0)) (hsize:i.size=1) (hby:i.bytes=1)
  (B:Nat) (v:Value) (p:List UInt8) (hs:a.eval s=v) (hown:Own B v p w) (cs:Array Value) (news:List UInt8) (hcs:cs.toList=byteCells news)
  (n c:Nat) (hn:n=news.length) (hx:a.eval x=.slice (some ⟨w.heap.size,0,none⟩) n c) (hlen:p.length+news.length≤140737488355328) (hB:B≤w.heap.size)
  (h:∀v' w',Own B v' (p++news) w'→(w.alloc (.cells cs 5)).grownBy w' v.ownBlock→wpList P ops Q rest (a.put o.dst v') w'):wpList P ops Q (o::rest) a (w.alloc (.cells cs 5)):=by
 subst hn
 refine wpList_append_own _ hgd s x t ho B 5 i (.int .u8 0) 1 1 ht hi hz hsize hby rfl (by decide) v p.length (byteCells p) hs (hown.alloc _) ⟨w.heap.size,0,none⟩ news.length c (byteCells news) hx
  (by rw[byteCells_length,Nat.mul_one]) ?_ ?_ (by unfold maxLen;omega) (by omega) (by simp;omega) ?_
 ·intro j u hj
  rw[add_off]
  rw[← hcs] at hj
  simp only[World.cell?,hp_alloc]
  rw[← Array.getElem?_toList]
  exact hj
 ·intro u hu
  simp only[byteCells,List.mem_map] at hu
  obtain⟨b,_,rfl⟩:=hu
  rfl
 ·intro v' w' h1 h2 _
  refine h v' w' ?_ h2
  unfold Own
  rw[byteCells_append,List.length_append]
  exact h1
theorem wp_appsG {P:Program} {w:World} {ops:Array Oper} {rest:List Oper} {o:Oper} {a:Act} {Q:Exit→Act→World→Prop} (hgd:o.guard=none)(s x:Operand)(t u:TypeId)
  (ho:o.op=.call { callee:=.builtin .append,args:=#[s,x],argTypes:=#[t,u] })
  (i:TypeInfo) (ht:P.underlying t=some (.slice 5)) (hu:P.underlying u=some .string) (hi:P.info? 5=some i) (hz:i.zero=some (.int .u8 0)) (hsize:i.size=1) (hby:i.bytes=1)
  (B:Nat) (v:Value) (p:List UInt8) (hs:a.eval s=v) (hown:Own B v p w) (news:ByteArray)
  (hx:a.eval x=.string news) (hlen:p.length+news.size≤140737488355328) (hB:B≤w.heap.size)
  (h:∀v' w',Own B v' (p++news.data.toList) w'→w.grownBy w' v.ownBlock→wpList P ops Q rest (a.put o.dst v') w'):wpList P ops Q (o::rest) a w:=by
 refine wpList_append_own_string _ hgd s x t u ho B 5 i ht hu hi hz hsize hby v p.length (byteCells p) hs hown news hx (by unfold maxLen;omega) hlen hB ?_
 intro v' w' h1 h2 _
 refine h v' w' ?_ h2
 unfold Own
 rw[byteCells_append,List.length_append]
 exact h1
end Go.Proofs.YtibbpmhbgbafhaaGreatDoor
