import Derived.Test.YtkcajnjledldnaaGreatDoorGenBase
set_option maxRecDepth 20000
set_option maxHeartbeats 4000000
namespace Go.Proofs.YtkcajnjledldnaaGreatDoor
open Go.RowKit Go.Lib Go.Maps
structure GAlias where
 name:ByteArray
 toF:List ByteArray
def GAliasV (n:GAlias)(v1:Value):Value:=.agg #[.string n.name,v1]
def GAlias.fits (n:GAlias)(m:Nat):Prop:=n.name.size≤m∧n.toF.length≤m∧(∀t ∈ n.toF,t.size≤m)
structure GAliasIn (lo hi:Nat)(w:World)(n:GAlias)(v1:Value):Prop where
 s1:∃a c,v1=.slice a n.toF.length c∧TxL lo hi w a n.toF
theorem GAliasIn.same {lo hi:Nat} {w w':World} {n:GAlias} {v1:Value} (h:GAliasIn lo hi w n v1)(hs:Same lo hi w w'):GAliasIn lo hi w' n v1:=by
 obtain⟨⟨a1,c1,e1,t1⟩⟩:=h
 exact⟨⟨a1,c1,e1,t1.same hs⟩⟩
theorem GAliasIn.mono {lo lo' hi hi':Nat} {w:World} {n:GAlias} {v1:Value} (h:GAliasIn lo hi w n v1)(hl:lo'≤lo)(hh:hi≤hi'):GAliasIn lo' hi' w n v1:=by
 obtain⟨⟨a1,c1,e1,t1⟩⟩:=h
 exact⟨⟨a1,c1,e1,t1.mono hl hh⟩⟩
structure GAliasAt (w:World)(A:Addr)(n:GAlias)(v1:Value):Prop where
 c0:w.cell? A=some (.string n.name)
 c1:w.cell? ⟨A.block,A.off+1,none⟩=some (v1)
theorem GAliasAt.same {lo hi:Nat} {w w':World} {A:Addr} {n:GAlias} {v1:Value} (h:GAliasAt w A n v1)(hs:Same lo hi w w')(h1:lo≤A.block)(h2:A.block<hi):GAliasAt w' A n v1:=
 ⟨(hs.cell h1 h2).trans h.c0,(hs.cell (p:=⟨A.block,A.off+1,none⟩) h1 h2).trans h.c1⟩
def GAliassL (lo hi:Nat)(w:World)(o:Option Addr)(F:List GAlias):Prop:=∀i (h:i<F.length),∃ a v1,o=some a∧lo≤a.block∧a.block<hi∧GAliasAt w (a.add (i*2)) F[i] v1∧GAliasIn lo hi w F[i] v1
theorem GAliassL.same {lo hi:Nat} {w w':World} {o:Option Addr} {F:List GAlias} (h:GAliassL lo hi w o F)(hs:Same lo hi w w'):GAliassL lo hi w' o F:=by
 intro i hi
 obtain⟨a,v1,ho,h1,h2,h3,h4⟩:=h i hi
 exact⟨a,v1,ho,h1,h2,h3.same hs (by rw[add_blockG];exact h1) (by rw[add_blockG];exact h2),h4.same hs⟩
theorem GAliassL.mono {lo lo' hi hi':Nat} {w:World} {o:Option Addr} {F:List GAlias} (h:GAliassL lo hi w o F)(hl:lo'≤lo)(hh:hi≤hi'):GAliassL lo' hi' w o F:=by
 intro i hi
 obtain⟨a,v1,ho,h1,h2,h3,h4⟩:=h i hi
 exact⟨a,v1,ho,Nat.le_trans hl h1,Nat.lt_of_lt_of_le h2 hh,h3,h4.mono hl hh⟩
theorem GAliassL.below {lo hi B:Nat} {w w':World} {o:Option Addr} {F:List GAlias} (h:GAliassL lo hi w o F)(hb:Below B w w')(hB:hi≤B):GAliassL lo hi w' o F:=h.same (Same.of_below hb hB)
theorem lawSzAlias (n:GAlias)(v1:Value)(left lo:Nat)(w:World)(hI:GAliasIn lo w.heap.size w n v1)(hf:n.fits maxLen)(hl:left≤1048576) :
  Calls Tryz.prog 79 #[GAliasV n v1,.int .i64 left] w fun e w'=>∃ r:Int,e=.returned (.int .i64 r)∧Hid (r = -1∨∃ m:Nat,r=m∧m≤left∧n.fits 1048576)∧Below w.heap.size w w':=by
 obtain⟨⟨a1,c1,rfl,t1⟩⟩:=hI
 obtain⟨f0_0,f1_0,f1_1⟩:=hf
 have H1:=mkHid fun (w':World) (hb:Below w.heap.size w w') (m:Nat) (hm:m≤1048576)=>lawSzSStr a1 n.toF c1 m lo w' ((t1.below hb (Nat.le_refl _)).mono (Nat.le_refl _) hb.size) f1_0 f1_1 hm
 unfold GAliasV
 unfold maxLen at f0_0
 clear f1_0 f1_1 t1
 obtain⟨W,hW⟩:∃W,W=w.alloc (.cells #[.string n.name,.slice a1 n.toF.length c1] 140):=⟨_,rfl⟩
 have hbW:Below w.heap.size w W:=by rw[hW];exact(Below.refl _ _).alloc (Nat.le_refl _) _
 have hWs:w.heap.size<W.heap.size:=by rw[hW];simp
 have HW:=mkHid hW
 clear hW
 by_cases h0:left<n.name.size
 ·go_enter Tryz.func79,Tryz.ntmps79
  go_wp2
  go_ret
  first|rw[← HW.out]|skip
  exact⟨-1,rfl,.inl rfl,hbW⟩
 ·obtain⟨l0,h0a⟩:∃l:Nat,left-n.name.size=l:=⟨_,rfl⟩
  have h0b:(left:Int)-(n.name.size:Int)=(l0:Int):=by omega
  have h0c:l0≤left:=by omega
  have g0:Hid (n.name.size≤1048576):=by show _≤_;omega
  clear h0a
  go_enter Tryz.func79,Tryz.ntmps79
  go_wp2_with fail
  rw[← HW.out]
  refine(H1.out W hbW l0 (by omega)).mono ?_
  rintro e w1 ⟨r1,rfl,hr1,hb1⟩
  have hz1:w.heap.size<w1.heap.size:=Nat.lt_of_lt_of_le hWs hb1.size
  have hbw1:=hbW.trans (hb1.mono (Nat.le_of_lt hWs))
  clear hb1 HW
  rcases hr1.out with rfl|⟨m1,rfl,hm1,hf1⟩
  ·clear hr1
   go_wp2
   go_ret
   exact⟨-1,rfl,.inl rfl,hbw1⟩
  ·replace hf1:=mkHid hf1
   clear hr1
   go_wp2
   go_ret
   exact⟨_,rfl,.inr ⟨m1,rfl,by omega,g0.out,hf1.out.1,hf1.out.2⟩,hbw1⟩
theorem lawSzSAlias (o:Option Addr)(F:List GAlias)(cap left lo:Nat)(w:World)(hF:GAliassL lo w.heap.size w o F)(hlen:F.length≤maxLen)(hsz:∀f ∈ F,f.fits maxLen)(hl:left≤1048576) :
  Calls Tryz.prog 35 #[.slice o F.length cap,.int .i64 left] w fun e w'=>∃ r:Int,e=.returned (.int .i64 r)∧Hid (r = -1∨∃ m:Nat,r=m∧m≤left∧F.length≤1048576∧∀f ∈ F,f.fits 1048576)∧Below w.heap.size w w':=by
 unfold maxLen at hlen
 by_cases hn:left<F.length
 ·clear hF hsz
  go_enter Tryz.func35,Tryz.ntmps35
  go_wp2
  go_ret
  exact⟨-1,rfl,Or.inl rfl,Below.refl _ _⟩
 ·obtain⟨l0,hl0⟩:∃l:Nat,left-F.length=l:=⟨_,rfl⟩
  have hl1:(left:Int)-(F.length:Int)=(l0:Int):=by omega
  have hl2:l0≤left:=by omega
  have hl3:F.length≤1048576:=by omega
  have HF:=mkHid hF
  have Hsz:=mkHid hsz
  clear hF hsz hl0
  go_enter Tryz.func35,Tryz.ntmps35
  go_wp2
  clear hl1
  go_loopw [1,5] (fun l i wr=>∃ (k m:Nat),k≤F.length∧i=.int .i64 k∧m≤left∧l=.int .i64 m∧Hid (∀j (h:j<F.length),j<k→F[j].fits 1048576)∧Below w.heap.size w wr) (fun _ i _=>F.length-(Lib.intOf i).toNat)
  case atStart=>exact⟨0,l0,Nat.zero_le _,rfl,hl2,rfl,fun j h h0=>absurd h0 (Nat.not_lt_zero _),Below.refl _ _⟩
  case round=>
   obtain⟨k,m,hk,rfl,hm,rfl,hall,hb⟩:=hrel
   by_cases hlt:k<F.length
   ·obtain⟨a,v1,rfl,ha1,ha2,hA,hI⟩:=(HF.out.below hb (Nat.le_refl _)) k hlt
    have hS:=mkHid (lawSzAlias F[k] v1 m lo wr (hI.mono (Nat.le_refl _) hb.size) (Hsz.out _ (List.getElem_mem hlt)) (by omega))
    have c0:=hA.c0
    have c1:=hA.c1
    clear hA hI
    unfold GAliasV at hS
    generalize hf:F[k]=f at *
    have Hf:=mkHid hf
    clear hf
    go_wp2_with fail
    refine hS.out.mono ?_
    rintro e w1 ⟨r1,rfl,hr1,hb1⟩
    have hb2:=mkHid (hb.trans (hb1.mono hb.size))
    clear hS c0 c1 hb1 hb
    rcases hr1.out with rfl|⟨m1,rfl,hm1,hft⟩
    ·clear hr1
     go_wp2
     go_ret
     exact⟨-1,rfl,Or.inl rfl,hb2.out⟩
    ·replace hft:=mkHid hft
     clear hr1
     go_wp2
     go_roundw
     case rel=>
      refine⟨k+1,m1,by omega,by go_num,by omega,rfl,?_,hb2.out⟩
      intro j h hj
      by_cases hjk:j<k
      ·exact hall.out j h hjk
      ·have:j=k:=by omega
       subst this
       rw[Hf.out];exact hft.out
     case measure=>simp[Lib.intOf];omega
   ·have Hall:Hid (∀f ∈ F,f.fits 1048576):=by
     intro t ht
     obtain⟨j,hj,rfl⟩:=List.getElem_of_mem ht
     exact hall.out j hj (by omega)
    go_wp2
    go_ret
    exact⟨_,rfl,Or.inr ⟨m,rfl,hm,hl3,Hall.out⟩,hb⟩
theorem lawToXAlias (n:GAlias)(u1:Value)(lo:Nat)(w:World)(hI:GAliasIn lo w.heap.size w n u1)(hf:n.fits 1048576) :
  Calls Tryz.prog 98 #[GAliasV n u1] w fun e w'=>∃ v1:Value,e=.returned (GAliasV n v1)∧Hid (GAliasIn w.heap.size w'.heap.size w' n v1)∧Below w.heap.size w w'∧Hid (Soft w.heap.size w'):=by
 obtain⟨⟨a1,c1,rfl,t1⟩⟩:=hI
 obtain⟨f0_0,f1_0,f1_1⟩:=hf
 have H1:=mkHid fun (w':World) (hb:Below w.heap.size w w')=>lawToSXStr a1 n.toF c1 lo w' ((t1.below hb (Nat.le_refl _)).mono (Nat.le_refl _) hb.size) f1_0 f1_1
 clear f0_0 f1_0 f1_1 t1
 obtain⟨G,hG⟩:∃G,w.heap.size=G:=⟨_,rfl⟩
 obtain⟨V0,hV0⟩:∃W,W=((w.alloc (.cells #[.string n.name,.slice a1 n.toF.length c1] 140)).alloc (.cells #[.string ⟨#[]⟩,.slice none 0 0] 146)).alloc (.cells #[.string n.name,.slice none 0 0] 146):=⟨_,rfl⟩
 obtain⟨hb0,hs0,hP0,hR0,hO0⟩:=three_blocks hG hV0
 have hSf:=mkHid (show Soft G V0 by rw[hV0,← hG];exact(((Soft.refl _).alloc _ _).alloc _ _).alloc _ _)
 have HV0:=mkHid hV0
 clear hV0
 have hG':=mkHid hG
 unfold GAliasV
 go_enter Tryz.func98,Tryz.ntmps98
 go_wp2_with fail
 rw[← HV0.out]
 refine(H1.out V0 (by rw[hG];exact hb0)).mono ?_
 rintro e w1 ⟨rfl,hT1,hw1,hsf1⟩
 replace hSf:=mkHid (hSf.out.call hw1 hsf1.out)
 obtain⟨g1,hg1⟩:∃g,V0.heap.size=g:=⟨_,rfl⟩
 rw[hg1] at hT1 hw1 hs0 ⊢
 have hw1s:=hw1.size
 rw[hg1] at hw1s
 have hP1a:=(hw1.block G (by omega)).trans hP0
 have hR1a:=(hw1.block (G+1) (by omega)).trans hR0
 have hO1a:=(hw1.block (G+1+1) (by omega)).trans hO0
 have x1_1:w1.cell? ⟨G+1+1,1,none⟩=some (.slice none 0 0):=by simp[World.cell?,hO1a]
 have z1_1:w1.frozen? ⟨G+1+1,1,none⟩=false:=by simp[World.frozen?,hO1a]
 obtain⟨V1,hV1⟩:∃V,V=w1.setCell ⟨G+1+1,1,none⟩ (.slice (some ⟨g1,0,none⟩) n.toF.length n.toF.length):=⟨_,rfl⟩
 replace hSf:=mkHid (show Soft G V1 by rw[hV1];exact(hSf.out.set _ _ _))
 have hgr1:w1.grownBy V1 (some (G+1+1)):=by rw[hV1];exact grG_set _ _ _ _
 have hP1:=(hgr1.block G (by omega) (by simp;omega)).trans hP1a
 have hR1:=(hgr1.block (G+1) (by omega) (by simp)).trans hR1a
 have hO1:V1.heap[G+1+1]?=some (.cells #[.string n.name,.slice (some ⟨g1,0,none⟩) n.toF.length n.toF.length] 146 (0,0)):=by rw[hV1];simp[World.setCell,Array.getElem?_modify,hO1a]
 have hs1:G+3≤V1.heap.size:=Nat.le_trans (Nat.le_trans hs0 hw1s) hgr1.size
 have hb1:Below G w V1:=(hb0.trans (hw1.mono (by omega))).grown hgr1 (by omega) (fun k hk=>by cases hk;omega)
 replace hT1:=mkHid ((hT1.out.same (Same.gr hgr1 (by omega) (Nat.le_refl _))).mono (show G+3≤_ by omega) hgr1.size)
 replace hV1:=mkHid hV1
 have HV1:=hV1
 clear hP1a hR1a hO1a hP0 hR0 hO0 hw1 HV0 hgr1 hb0
 clear hs0 hg1 hw1s
 have hgz:=grown_setRow V1 (G+1) #[.string n.name,.slice (some ⟨g1,0,none⟩) n.toF.length n.toF.length]
 have hSz:=mkHid (hSf.out.setRow (G+1) #[.string n.name,.slice (some ⟨g1,0,none⟩) n.toF.length n.toF.length])
 clear hSf
 have hbz:=mkHid (hb1.grown hgz (by omega) (fun k hk=>by cases hk;omega))
 replace hT1:=mkHid ((hT1.out.same (Same.gr hgz (by omega) (Nat.le_refl _))).mono (show G≤_ by omega) hgz.size)
 rw[HV1.out] at hT1 hbz hSz hO1 hR1
 clear hgz HV1 hV1 hb1 hP1 hs1
 go_wp2_with (first|(refine wpL_load_row rfl 146 _ rfl (G+1+1) _ 146 (0,0) _ rfl hO1 Tryz.underlying146 rfl (by kernel_rfl) ?_)|(refine wpL_store_row rfl 146 _ _ rfl (G+1) _ rfl rfl 146 _ hR1 (by kernel_rfl) rfl (by simp[Value.oneCell']) ?_)|go_in)
 refine bodyPost_ret (v:=.agg #[.string n.name,.slice (some ⟨g1,0,none⟩) n.toF.length n.toF.length]) (results_cell_row Tryz.results98 _ _ (G+1) 146 _ (0,0) _ rfl (setRow_heap _ _ _ _ _ _ hR1) Tryz.underlying146 rfl (by kernel_rfl)) rfl ?_
 rw[hG]
 exact⟨_,rfl,⟨⟨_,_,rfl,hT1.out⟩⟩,hbz.out,hSz⟩
structure GAliasL (f:Nat→Value)(j:Nat)(n:GAlias)(v1:Value):Prop where
 c0:f (j*2)=.string n.name
 c1:f (j*2+1)=v1
def GAliasSet (w:World)(g k:Nat)(n:GAlias)(v1:Value):World:=((w.setCell ⟨g,k*2,none⟩ (.string n.name)).setCell ⟨g,k*2+1,none⟩ (v1))
theorem GAliasRow {w:World} {g t N:Nat} {f:Nat→Value} (h:w.rowIs g t N f)(k:Nat)(n:GAlias)(v1:Value) :
  ∃ f',(GAliasSet w g k n v1).rowIs g t N f'∧GAliasL f' k n v1∧∀(j:Nat) (m:GAlias) (q1:Value),j≠k→GAliasL f j m q1→GAliasL f' j m q1:=by
 refine⟨_,((h.set _ _).set _ _),?_,?_⟩
 ·constructor<;>simp
 ·intro j m q1 hj hl
  obtain⟨c0,c1⟩:=hl
  constructor<;>rw[if_neg (by omega),if_neg (by omega)]<;>assumption
theorem GAliasGr (w:World)(g k:Nat)(n:GAlias)(v1:Value):w.grownBy (GAliasSet w g k n v1) (some g):=grG_trans (grG_set _ _ _ _) (grG_set _ _ _ _)
theorem Tryz.infoGAlias:(Tryz.prog.info? 146).map (fun i=>(i.zero,i.size,i.bytes))=some (some (.agg #[.string ⟨#[]⟩,.slice none 0 0]),2,40):=by kernel_rfl
theorem lawToSXAlias (o:Option Addr)(F:List GAlias)(cap lo:Nat)(w:World)(hF:GAliassL lo w.heap.size w o F)(hlen:F.length≤1048576)(hfit:∀f ∈ F,f.fits 1048576) :
  Calls Tryz.prog 53 #[.slice o F.length cap] w fun e w'=>e=.returned (.slice (some ⟨w.heap.size,0,none⟩) F.length F.length)∧Hid (GAliassL w.heap.size w'.heap.size w' (some ⟨w.heap.size,0,none⟩) F)∧Below w.heap.size w w'∧Hid (Soft w.heap.size w'):=by
 obtain⟨i0,hi,hy0,hy1,hy2⟩:=info_parts Tryz.infoGAlias
 have hmk:=run_make (P:=Tryz.prog) w 41 146 i0 _ Tryz.underlying41 hi hy0 .i64 .i64 F.length F.length (by omega) (Int.le_refl _) (by rw[hy2];omega) (by omega)
 simp only[Int.toNat_natCast,hy1] at hmk
 have HF:=mkHid hF
 have Hfit:=mkHid hfit
 clear hF hfit
 obtain⟨c0,hc0⟩:∃c0,c0=madeCells (Value.cells (.agg #[.string ⟨#[]⟩,.slice none 0 0])) (F.length*2):=⟨_,rfl⟩
 have hcs:c0.size=F.length*2:=by rw[hc0];exact size_madeCells _ _
 rw[← hc0] at hmk
 have Hrow0:Hid (∃f,(w.alloc (.cells c0 146)).rowIs w.heap.size 146 (F.length*2) f):=by
  refine⟨fun j=>c0[j]!,?_⟩
  have:=World.rowIs_alloc w c0 146 (fun j=>c0[j]!) (fun i hi=>by simp[hi])
  rw[hcs] at this
  exact this
 clear hc0 hcs
 go_enter Tryz.func53,Tryz.ntmps53
 go_wp2
 clear hmk
 generalize hG:w.heap.size=G at *
 go_loopw [4] (fun i wr=>∃ (k:Nat) (f:Nat→Value),k≤F.length∧i=.int .i64 k∧wr.rowIs G 146 (F.length*2) f∧Hid (∀j (h:j<F.length),j<k→∃v1,GAliasL f j F[j] v1∧GAliasIn (G+1) wr.heap.size wr F[j] v1)∧Below G w wr∧Hid (Soft G wr)) (fun i _=>F.length-(Lib.intOf i).toNat)
 case atStart=>
  obtain⟨f,hx⟩:=Hrow0.out
  exact⟨0,f,Nat.zero_le _,rfl,hx,fun j h h0=>absurd h0 (Nat.not_lt_zero _),(Below.refl _ _).alloc (by omega) _,by rw[← hG];exact(Soft.refl _).alloc _ _⟩
 case round=>
  clear Hrow0
  obtain⟨k,f,hk,rfl,hrow,hall,hb,hSf⟩:=hrel
  by_cases hlt:k<F.length
  ·obtain⟨a,u1,rfl,ha1,ha2,hA,hI⟩:=(HF.out.below hb (Nat.le_refl _)) k hlt
   have hGl:=hrow.lt
   have hT:=mkHid (lawToXAlias F[k] u1 lo wr (hI.mono (Nat.le_refl _) (by omega)) (Hfit.out _ (List.getElem_mem hlt)))
   have c0:=hA.c0
   have c1:=hA.c1
   obtain⟨⟨a1,k1,rfl,-⟩⟩:=hI
   clear hA
   generalize hf:F[k]=n at *
   have Hf:=mkHid hf
   clear hf
   unfold GAliasV at hT
   go_wp2_with fail
   refine hT.out.mono ?_
   rintro e w1 ⟨v1,rfl,hTx,hb1,hsf1⟩
   have hTx1:=hTx.out
   obtain⟨⟨b1,m1,rfl,-⟩⟩:=hTx1
   have hrow1:w1.rowIs G 146 (F.length*2) f:=hrow.of_block (hb1.block G hGl)
   have hgr:=GAliasGr w1 G k n (.slice b1 n.toF.length m1)
   obtain⟨f',hrow2,hL,hLo⟩:=GAliasRow hrow1 k n (.slice b1 n.toF.length m1)
   have hb1s:=hb1.size
   have hS2:Hid (Soft G (GAliasSet w1 G k n (.slice b1 n.toF.length m1))):=(((hSf.out.call hb1 hsf1.out).set _ _ _).set _ _ _)
   have hb2:Below G w (GAliasSet w1 G k n (.slice b1 n.toF.length m1)):=(hb.trans (hb1.mono (by omega))).grown hgr (by omega) (fun j hj=>by cases hj;exact Nat.le_refl _)
   have hIn2:=(hTx.out.mono (show G+1≤_ by omega) (Nat.le_refl _) |>.same (Same.gr hgr (by omega) (Nat.le_refl _))).mono (Nat.le_refl _) hgr.size
   have Hall:Hid (∀j (h:j<F.length),j<k+1→∃v1,GAliasL f' j F[j] v1∧GAliasIn (G+1) (GAliasSet w1 G k n (.slice b1 n.toF.length m1)).heap.size (GAliasSet w1 G k n (.slice b1 n.toF.length m1)) F[j] v1):=by
    intro j h hj
    by_cases hjk:j=k
    ·subst hjk
     rw[Hf.out]
     exact⟨_,hL,hIn2⟩
    ·obtain⟨h1,hl,hm⟩:=hall.out j h (by omega)
     exact⟨h1,hLo j _ _ hjk hl,(((hm.same (Same.of_below hb1 (Nat.le_refl _))).mono (Nat.le_refl _) hb1s).same (Same.gr hgr (by omega) (Nat.le_refl _))).mono (Nat.le_refl _) hgr.size⟩
   have hd:=fun (j:Nat) (hj:j<2)=>hrow1.cell (i:=k*2+j) (by omega)
   have d0:=hd 0 (by omega)
   have d1:=hd 1 (by omega)
   have z0:=hrow1.frozen (k*2)
   have z1:=hrow1.frozen (k*2+1)
   rw[Nat.add_zero] at d0
   have hadd:=add_off G (k*2)
   replace hrow2:=mkHid hrow2
   replace hb2:=mkHid hb2
   clear hd hrow hrow1 hL hLo hgr hall hb hb1 hb1s hT c0 c1 hTx hIn2
   unfold GAliasSet at hrow2 hb2 hS2 Hall
   go_wp2
   go_roundw
   case rel=>exact⟨k+1,f',by omega,by go_num,hrow2.out,Hall.out,hb2.out,hS2⟩
   case measure=>simp[Lib.intOf];omega
  ·go_wp2
   go_ret
   refine⟨by rw[hG];rfl,?_,by rw[hG];exact hb,by rw[hG];exact hSf⟩
   intro i hi
   obtain⟨v1,hl,hm⟩:=hall.out i hi (by omega)
   refine⟨⟨w.heap.size,0,none⟩,v1,rfl,Nat.le_refl _,by rw[hG];exact hrow.lt,?_,hm.mono (by rw[hG];omega) (Nat.le_refl _)⟩
   rw[add_off,hG]
   have hd:=fun (j:Nat) (hj:j<2)=>hrow.cell (i:=i*2+j) (by omega)
   refine⟨?_,?_⟩
   ·have:=hd 0 (by omega);rw[Nat.add_zero,hl.c0] at this;exact this
   ·have:=hd 1 (by omega);rw[hl.c1] at this;exact this
theorem lawEqAlias (n:GAlias)(v1:Value)(u1:Value)(lo lo':Nat)(w:World)(hI:GAliasIn lo w.heap.size w n v1)(hJ:GAliasIn lo' w.heap.size w n u1)(hf:n.fits 1048576) :
  Calls Tryz.prog 123 #[GAliasV n v1,GAliasV n u1] w fun e w'=>e=.returned (.bool true)∧Below w.heap.size w w':=by
 obtain⟨⟨a1,c1,rfl,t1⟩⟩:=hI
 obtain⟨⟨b1,d1,rfl,s1⟩⟩:=hJ
 obtain⟨f0_0,f1_0,f1_1⟩:=hf
 have H1:=mkHid fun (w':World) (hb:Below w.heap.size w w')=>lawEqSStr a1 b1 n.toF c1 d1 lo lo' w' ((t1.below hb (Nat.le_refl _)).mono (Nat.le_refl _) hb.size) ((s1.below hb (Nat.le_refl _)).mono (Nat.le_refl _) hb.size) f1_0
 clear f0_0 f1_0 f1_1 t1 s1
 unfold GAliasV
 obtain⟨W0,hW⟩:∃W,W=(w.alloc (.cells #[.string n.name,.slice a1 n.toF.length c1] 146)).alloc (.cells #[.string n.name,.slice b1 n.toF.length d1] 146):=⟨_,rfl⟩
 obtain⟨hb0,hs0,hA0,hB0⟩:=two_blocks hW
 have HW:=mkHid hW
 clear hW
 go_enter Tryz.func123,Tryz.ntmps123
 go_wp2_with fail
 rw[← HW.out]
 refine(H1.out W0 hb0).mono ?_
 rintro e W1 ⟨rfl,hw1⟩
 have hw1s:=hw1.size
 have hA1:=(hw1.block w.heap.size (by omega)).trans hA0
 have hB1:=(hw1.block (w.heap.size+1) (by omega)).trans hB0
 have hb1:=hb0.trans (hw1.mono (by omega))
 have hs1:w.heap.size+2≤W1.heap.size:=Nat.le_trans hs0 hw1s
 clear hA0 hB0 hw1 hs0 hb0 hw1s HW
 clear hA1 hB1 hs1
 go_wp2
 go_ret
 exact⟨rfl,hb1⟩
set_option maxRecDepth 10000 in
theorem lawEqSAlias (a b:Option Addr)(F:List GAlias)(cap cap' lo lo':Nat)(w:World)(hF:GAliassL lo w.heap.size w a F)(hG:GAliassL lo' w.heap.size w b F)(hlen:F.length≤1048576)(hfit:∀f ∈ F,f.fits 1048576) :
  Calls Tryz.prog 73 #[.slice a F.length cap,.slice b F.length cap'] w fun e w'=>e=.returned (.bool true)∧Below w.heap.size w w':=by
 have HF:=mkHid hF
 have HG:=mkHid hG
 have Hfit:=mkHid hfit
 clear hF hG hfit
 go_enter Tryz.func73,Tryz.ntmps73
 go_wp2
 go_loopw [5] (fun i wr=>∃ k:Nat,k≤F.length∧i=.int .i64 k∧Below w.heap.size w wr) (fun i _=>F.length-(Lib.intOf i).toNat)
 case atStart=>exact⟨0,Nat.zero_le _,rfl,Below.refl _ _⟩
 case round=>
  obtain⟨k,hk,rfl,hb0⟩:=hrel
  by_cases hlt:k<F.length
  ·obtain⟨a',v1,rfl,ha,ha',hA,hI⟩:=(HF.out.below hb0 (Nat.le_refl _)) k hlt
   obtain⟨b',u1,rfl,hb,hb',hB,hJ⟩:=(HG.out.below hb0 (Nat.le_refl _)) k hlt
   have hE:=mkHid fun (w':World) (hb':Below wr.heap.size wr w')=>lawEqAlias F[k] v1 u1 lo lo' w' ((hI.mono (Nat.le_refl _) hb0.size).same (Same.of_below hb' (Nat.le_refl _)) |>.mono (Nat.le_refl _) hb'.size) ((hJ.mono (Nat.le_refl _) hb0.size).same (Same.of_below hb' (Nat.le_refl _)) |>.mono (Nat.le_refl _) hb'.size) (Hfit.out _ (List.getElem_mem hlt))
   have c0:=hA.c0
   have c1:=hA.c1
   have d0:=hB.c0
   have d1:=hB.c1
   clear hA hB hI hJ
   generalize F[k]=n at *
   have cE:Hid (∀d os,Calls Tryz.prog 123 #[GAliasV n v1,GAliasV n u1] (Go.Sort.grow (redrawn wr d) os) fun e w''=>e=.returned (.bool true)∧∃p:Regrown,w''=Go.Sort.grow (redrawn wr p.d) p.os):=fun d os=>Calls.regrown_of (hE.out _ (below_regrown wr d os))
   unfold GAliasV at cE
   go_wp2
   have k0:=cell_regrown c0
   have l0:=cell_regrown d0
   have k1:=cell_regrown c1
   have l1:=cell_regrown d1
   clear hE c0 c1 d0 d1
   refine wp_region_quiet_below (by kernel_rfl) (by kernel_rfl) ?_
   repeat (go_big_quiet_step (exact cE.out _ _))
   refine wpQuiet_nil ?_
   intro _ hw'
   obtain⟨⟨dq,osq⟩,hw''⟩:=hw'
   subst hw''
   have hbq:=mkHid (hb0.trans ((below_regrown wr dq osq).mono hb0.size))
   generalize Go.Sort.grow (redrawn wr dq) osq=wq at *
   clear k0 k1 l0 l1 cE hb0
   go_wp2
   go_roundw
   case rel=>exact⟨k+1,by omega,by go_num,hbq.out⟩
   case measure=>simp[Lib.intOf];omega
  ·go_wp2
   go_ret
   exact⟨rfl,hb0⟩
structure GMx where
 domain:ByteArray
 prefer:Int
 host:ByteArray
def GMxV (n:GMx):Value:=.agg #[.string n.domain,.int .i64 n.prefer,.string n.host]
def GMx.fits (n:GMx)(m:Nat):Prop:=n.domain.size≤m∧n.host.size≤m
structure GMxAt (w:World)(A:Addr)(n:GMx):Prop where
 c0:w.cell? A=some (.string n.domain)
 c1:w.cell? ⟨A.block,A.off+1,none⟩=some (.int .i64 n.prefer)
 c2:w.cell? ⟨A.block,A.off+2,none⟩=some (.string n.host)
theorem GMxAt.same {lo hi:Nat} {w w':World} {A:Addr} {n:GMx} (h:GMxAt w A n)(hs:Same lo hi w w')(h1:lo≤A.block)(h2:A.block<hi):GMxAt w' A n:=
 ⟨(hs.cell h1 h2).trans h.c0,(hs.cell (p:=⟨A.block,A.off+1,none⟩) h1 h2).trans h.c1,(hs.cell (p:=⟨A.block,A.off+2,none⟩) h1 h2).trans h.c2⟩
def GMxsL (lo hi:Nat)(w:World)(o:Option Addr)(F:List GMx):Prop:=∀i (h:i<F.length),∃ a,o=some a∧lo≤a.block∧a.block<hi∧GMxAt w (a.add (i*3)) F[i]
theorem GMxsL.same {lo hi:Nat} {w w':World} {o:Option Addr} {F:List GMx} (h:GMxsL lo hi w o F)(hs:Same lo hi w w'):GMxsL lo hi w' o F:=by
 intro i hi
 obtain⟨a,ho,h1,h2,h3⟩:=h i hi
 exact⟨a,ho,h1,h2,h3.same hs (by rw[add_blockG];exact h1) (by rw[add_blockG];exact h2)⟩
theorem GMxsL.mono {lo lo' hi hi':Nat} {w:World} {o:Option Addr} {F:List GMx} (h:GMxsL lo hi w o F)(hl:lo'≤lo)(hh:hi≤hi'):GMxsL lo' hi' w o F:=by
 intro i hi
 obtain⟨a,ho,h1,h2,h3⟩:=h i hi
 exact⟨a,ho,Nat.le_trans hl h1,Nat.lt_of_lt_of_le h2 hh,h3⟩
theorem GMxsL.below {lo hi B:Nat} {w w':World} {o:Option Addr} {F:List GMx} (h:GMxsL lo hi w o F)(hb:Below B w w')(hB:hi≤B):GMxsL lo hi w' o F:=h.same (Same.of_below hb hB)
theorem lawSzMx (n:GMx)(left _lo:Nat)(w:World)(hf:n.fits maxLen)(hl:left≤1048576) :
  Calls Tryz.prog 80 #[GMxV n,.int .i64 left] w fun e w'=>∃ r:Int,e=.returned (.int .i64 r)∧Hid (r = -1∨∃ m:Nat,r=m∧m≤left∧n.fits 1048576)∧Below w.heap.size w w':=by
 obtain⟨f0_0,f2_0⟩:=hf
 unfold GMxV
 unfold maxLen at f0_0
 unfold maxLen at f2_0
 obtain⟨W,hW⟩:∃W,W=w.alloc (.cells #[.string n.domain,.int .i64 n.prefer,.string n.host] 142):=⟨_,rfl⟩
 have hbW:Below w.heap.size w W:=by rw[hW];exact(Below.refl _ _).alloc (Nat.le_refl _) _
 have hWs:w.heap.size<W.heap.size:=by rw[hW];simp
 have HW:=mkHid hW
 clear hW
 by_cases h0:left<n.domain.size
 ·go_enter Tryz.func80,Tryz.ntmps80
  go_wp2
  go_ret
  first|rw[← HW.out]|skip
  exact⟨-1,rfl,.inl rfl,hbW⟩
 ·obtain⟨l0,h0a⟩:∃l:Nat,left-n.domain.size=l:=⟨_,rfl⟩
  have h0b:(left:Int)-(n.domain.size:Int)=(l0:Int):=by omega
  have h0c:l0≤left:=by omega
  have g0:Hid (n.domain.size≤1048576):=by show _≤_;omega
  clear h0a
  by_cases h2:l0<n.host.size
  ·go_enter Tryz.func80,Tryz.ntmps80
   go_wp2
   go_ret
   first|rw[← HW.out]|skip
   exact⟨-1,rfl,.inl rfl,hbW⟩
  ·obtain⟨l2,h2a⟩:∃l:Nat,l0-n.host.size=l:=⟨_,rfl⟩
   have h2b:(l0:Int)-(n.host.size:Int)=(l2:Int):=by omega
   have h2c:l2≤l0:=by omega
   have g2:Hid (n.host.size≤1048576):=by show _≤_;omega
   clear h2a
   go_enter Tryz.func80,Tryz.ntmps80
   go_wp2
   go_ret
   first|rw[← HW.out]|skip
   exact⟨_,rfl,.inr ⟨l2,rfl,by omega,g0.out,g2.out⟩,hbW⟩
theorem lawSzSMx (o:Option Addr)(F:List GMx)(cap left lo:Nat)(w:World)(hF:GMxsL lo w.heap.size w o F)(hlen:F.length≤maxLen)(hsz:∀f ∈ F,f.fits maxLen)(hl:left≤1048576) :
  Calls Tryz.prog 36 #[.slice o F.length cap,.int .i64 left] w fun e w'=>∃ r:Int,e=.returned (.int .i64 r)∧Hid (r = -1∨∃ m:Nat,r=m∧m≤left∧F.length≤1048576∧∀f ∈ F,f.fits 1048576)∧Below w.heap.size w w':=by
 unfold maxLen at hlen
 by_cases hn:left<F.length
 ·clear hF hsz
  go_enter Tryz.func36,Tryz.ntmps36
  go_wp2
  go_ret
  exact⟨-1,rfl,Or.inl rfl,Below.refl _ _⟩
 ·obtain⟨l0,hl0⟩:∃l:Nat,left-F.length=l:=⟨_,rfl⟩
  have hl1:(left:Int)-(F.length:Int)=(l0:Int):=by omega
  have hl2:l0≤left:=by omega
  have hl3:F.length≤1048576:=by omega
  have HF:=mkHid hF
  have Hsz:=mkHid hsz
  clear hF hsz hl0
  go_enter Tryz.func36,Tryz.ntmps36
  go_wp2
  clear hl1
  go_loopw [1,5] (fun l i wr=>∃ (k m:Nat),k≤F.length∧i=.int .i64 k∧m≤left∧l=.int .i64 m∧Hid (∀j (h:j<F.length),j<k→F[j].fits 1048576)∧Below w.heap.size w wr) (fun _ i _=>F.length-(Lib.intOf i).toNat)
  case atStart=>exact⟨0,l0,Nat.zero_le _,rfl,hl2,rfl,fun j h h0=>absurd h0 (Nat.not_lt_zero _),Below.refl _ _⟩
  case round=>
   obtain⟨k,m,hk,rfl,hm,rfl,hall,hb⟩:=hrel
   by_cases hlt:k<F.length
   ·obtain⟨a,rfl,ha1,ha2,hA⟩:=(HF.out.below hb (Nat.le_refl _)) k hlt
    have hS:=mkHid (lawSzMx F[k] m lo wr (Hsz.out _ (List.getElem_mem hlt)) (by omega))
    have c0:=hA.c0
    have c1:=hA.c1
    have c2:=hA.c2
    clear hA
    unfold GMxV at hS
    generalize hf:F[k]=f at *
    have Hf:=mkHid hf
    clear hf
    go_wp2_with fail
    refine hS.out.mono ?_
    rintro e w1 ⟨r1,rfl,hr1,hb1⟩
    have hb2:=mkHid (hb.trans (hb1.mono hb.size))
    clear hS c0 c1 c2 hb1 hb
    rcases hr1.out with rfl|⟨m1,rfl,hm1,hft⟩
    ·clear hr1
     go_wp2
     go_ret
     exact⟨-1,rfl,Or.inl rfl,hb2.out⟩
    ·replace hft:=mkHid hft
     clear hr1
     go_wp2
     go_roundw
     case rel=>
      refine⟨k+1,m1,by omega,by go_num,by omega,rfl,?_,hb2.out⟩
      intro j h hj
      by_cases hjk:j<k
      ·exact hall.out j h hjk
      ·have:j=k:=by omega
       subst this
       rw[Hf.out];exact hft.out
     case measure=>simp[Lib.intOf];omega
   ·have Hall:Hid (∀f ∈ F,f.fits 1048576):=by
     intro t ht
     obtain⟨j,hj,rfl⟩:=List.getElem_of_mem ht
     exact hall.out j hj (by omega)
    go_wp2
    go_ret
    exact⟨_,rfl,Or.inr ⟨m,rfl,hm,hl3,Hall.out⟩,hb⟩
theorem lawToXMx (n:GMx)(lo:Nat)(w:World) :
  Calls Tryz.prog 99 #[GMxV n] w fun e w'=>e=.returned (GMxV n)∧Below w.heap.size w w'∧Hid (Soft w.heap.size w'):=by
 have _hlo:=lo
 unfold GMxV
 go_enter Tryz.func99,Tryz.ntmps99
 go_wp2
 refine bodyPost_ret (v:=.agg #[.string n.domain,.int .i64 n.prefer,.string n.host]) (by simp[results,Tryz.results99,go_sem]) rfl ⟨rfl,?_⟩
 exact⟨(((Below.refl _ _).alloc (Nat.le_refl _) _).alloc (by simp) _).alloc (by simp;omega) _,(((Soft.refl _).alloc _ _).alloc _ _).alloc _ _⟩
structure GMxL (f:Nat→Value)(j:Nat)(n:GMx):Prop where
 c0:f (j*3)=.string n.domain
 c1:f (j*3+1)=.int .i64 n.prefer
 c2:f (j*3+2)=.string n.host
def GMxSet (w:World)(g k:Nat)(n:GMx):World:=(((w.setCell ⟨g,k*3,none⟩ (.string n.domain)).setCell ⟨g,k*3+1,none⟩ (.int .i64 n.prefer)).setCell ⟨g,k*3+2,none⟩ (.string n.host))
theorem GMxRow {w:World} {g t N:Nat} {f:Nat→Value} (h:w.rowIs g t N f)(k:Nat)(n:GMx) :
  ∃ f',(GMxSet w g k n).rowIs g t N f'∧GMxL f' k n∧∀(j:Nat) (m:GMx),j≠k→GMxL f j m→GMxL f' j m:=by
 refine⟨_,(((h.set _ _).set _ _).set _ _),?_,?_⟩
 ·constructor<;>simp
 ·intro j m hj hl
  obtain⟨c0,c1,c2⟩:=hl
  constructor<;>rw[if_neg (by omega),if_neg (by omega),if_neg (by omega)]<;>assumption
theorem GMxGr (w:World)(g k:Nat)(n:GMx):w.grownBy (GMxSet w g k n) (some g):=grG_trans (grG_trans (grG_set _ _ _ _) (grG_set _ _ _ _)) (grG_set _ _ _ _)
theorem Tryz.infoGMx:(Tryz.prog.info? 95).map (fun i=>(i.zero,i.size,i.bytes))=some (some (.agg #[.string ⟨#[]⟩,.int .i64 0,.string ⟨#[]⟩]),3,40):=by kernel_rfl
theorem lawToSXMx (o:Option Addr)(F:List GMx)(cap lo:Nat)(w:World)(hF:GMxsL lo w.heap.size w o F)(hlen:F.length≤1048576)(hfit:∀f ∈ F,f.fits 1048576) :
  Calls Tryz.prog 54 #[.slice o F.length cap] w fun e w'=>e=.returned (.slice (some ⟨w.heap.size,0,none⟩) F.length F.length)∧Hid (GMxsL w.heap.size w'.heap.size w' (some ⟨w.heap.size,0,none⟩) F)∧Below w.heap.size w w'∧Hid (Soft w.heap.size w'):=by
 obtain⟨i0,hi,hy0,hy1,hy2⟩:=info_parts Tryz.infoGMx
 have hmk:=run_make (P:=Tryz.prog) w 42 95 i0 _ Tryz.underlying42 hi hy0 .i64 .i64 F.length F.length (by omega) (Int.le_refl _) (by rw[hy2];omega) (by omega)
 simp only[Int.toNat_natCast,hy1] at hmk
 have HF:=mkHid hF
 have Hfit:=mkHid hfit
 clear hF hfit
 obtain⟨c0,hc0⟩:∃c0,c0=madeCells (Value.cells (.agg #[.string ⟨#[]⟩,.int .i64 0,.string ⟨#[]⟩])) (F.length*3):=⟨_,rfl⟩
 have hcs:c0.size=F.length*3:=by rw[hc0];exact size_madeCells _ _
 rw[← hc0] at hmk
 have Hrow0:Hid (∃f,(w.alloc (.cells c0 95)).rowIs w.heap.size 95 (F.length*3) f):=by
  refine⟨fun j=>c0[j]!,?_⟩
  have:=World.rowIs_alloc w c0 95 (fun j=>c0[j]!) (fun i hi=>by simp[hi])
  rw[hcs] at this
  exact this
 clear hc0 hcs
 go_enter Tryz.func54,Tryz.ntmps54
 go_wp2
 clear hmk
 generalize hG:w.heap.size=G at *
 go_loopw [4] (fun i wr=>∃ (k:Nat) (f:Nat→Value),k≤F.length∧i=.int .i64 k∧wr.rowIs G 95 (F.length*3) f∧Hid (∀j (h:j<F.length),j<k→GMxL f j F[j])∧Below G w wr∧Hid (Soft G wr)) (fun i _=>F.length-(Lib.intOf i).toNat)
 case atStart=>
  obtain⟨f,hx⟩:=Hrow0.out
  exact⟨0,f,Nat.zero_le _,rfl,hx,fun j h h0=>absurd h0 (Nat.not_lt_zero _),(Below.refl _ _).alloc (by omega) _,by rw[← hG];exact(Soft.refl _).alloc _ _⟩
 case round=>
  clear Hrow0
  obtain⟨k,f,hk,rfl,hrow,hall,hb,hSf⟩:=hrel
  by_cases hlt:k<F.length
  ·obtain⟨a,rfl,ha1,ha2,hA⟩:=(HF.out.below hb (Nat.le_refl _)) k hlt
   have hGl:=hrow.lt
   have hT:=mkHid (lawToXMx F[k] lo wr)
   have c0:=hA.c0
   have c1:=hA.c1
   have c2:=hA.c2
   clear hA
   generalize hf:F[k]=n at *
   have Hf:=mkHid hf
   clear hf
   unfold GMxV at hT
   go_wp2_with fail
   refine hT.out.mono ?_
   rintro e w1 ⟨rfl,hb1,hsf1⟩
   have hrow1:w1.rowIs G 95 (F.length*3) f:=hrow.of_block (hb1.block G hGl)
   have hgr:=GMxGr w1 G k n
   obtain⟨f',hrow2,hL,hLo⟩:=GMxRow hrow1 k n
   have hb1s:=hb1.size
   have hS2:Hid (Soft G (GMxSet w1 G k n)):=((((hSf.out.call hb1 hsf1.out).set _ _ _).set _ _ _).set _ _ _)
   have hb2:Below G w (GMxSet w1 G k n):=(hb.trans (hb1.mono (by omega))).grown hgr (by omega) (fun j hj=>by cases hj;exact Nat.le_refl _)
   have Hall:Hid (∀j (h:j<F.length),j<k+1→GMxL f' j F[j]):=by
    intro j h hj
    by_cases hjk:j=k
    ·subst hjk
     rw[Hf.out]
     exact hL
    ·exact hLo j _ hjk (hall.out j h (by omega))
   have hd:=fun (j:Nat) (hj:j<3)=>hrow1.cell (i:=k*3+j) (by omega)
   have d0:=hd 0 (by omega)
   have d1:=hd 1 (by omega)
   have d2:=hd 2 (by omega)
   have z0:=hrow1.frozen (k*3)
   have z1:=hrow1.frozen (k*3+1)
   have z2:=hrow1.frozen (k*3+2)
   rw[Nat.add_zero] at d0
   have hadd:=add_off G (k*3)
   replace hrow2:=mkHid hrow2
   replace hb2:=mkHid hb2
   clear hd hrow hrow1 hL hLo hgr hall hb hb1 hb1s hT c0 c1 c2
   unfold GMxSet at hrow2 hb2 hS2
   go_wp2
   go_roundw
   case rel=>exact⟨k+1,f',by omega,by go_num,hrow2.out,Hall.out,hb2.out,hS2⟩
   case measure=>simp[Lib.intOf];omega
  ·go_wp2
   go_ret
   refine⟨by rw[hG];rfl,?_,by rw[hG];exact hb,by rw[hG];exact hSf⟩
   intro i hi
   have hl:=hall.out i hi (by omega)
   refine⟨⟨w.heap.size,0,none⟩,rfl,Nat.le_refl _,by rw[hG];exact hrow.lt,?_⟩
   rw[add_off,hG]
   have hd:=fun (j:Nat) (hj:j<3)=>hrow.cell (i:=i*3+j) (by omega)
   refine⟨?_,?_,?_⟩
   ·have:=hd 0 (by omega);rw[Nat.add_zero,hl.c0] at this;exact this
   ·have:=hd 1 (by omega);rw[hl.c1] at this;exact this
   ·have:=hd 2 (by omega);rw[hl.c2] at this;exact this
theorem lawEqMx (n:GMx)(lo lo':Nat)(w:World) :
  Calls Tryz.prog 124 #[GMxV n,GMxV n] w fun e w'=>e=.returned (.bool true)∧Below w.heap.size w w':=by
 have _hlo:=lo+lo'
 unfold GMxV
 go_enter Tryz.func124,Tryz.ntmps124
 go_wp2
 go_ret
 exact⟨rfl,((Below.refl _ _).alloc (Nat.le_refl _) _).alloc (by simp) _⟩
set_option maxRecDepth 10000 in
theorem lawEqSMx (a b:Option Addr)(F:List GMx)(cap cap' lo lo':Nat)(w:World)(hF:GMxsL lo w.heap.size w a F)(hG:GMxsL lo' w.heap.size w b F)(hlen:F.length≤1048576)(hfit:∀f ∈ F,f.fits 1048576) :
  Calls Tryz.prog 74 #[.slice a F.length cap,.slice b F.length cap'] w fun e w'=>e=.returned (.bool true)∧Below w.heap.size w w':=by
 have HF:=mkHid hF
 have HG:=mkHid hG
 have Hfit:=mkHid hfit
 clear hF hG hfit
 go_enter Tryz.func74,Tryz.ntmps74
 go_wp2
 go_loopw [5] (fun i wr=>∃ k:Nat,k≤F.length∧i=.int .i64 k∧Below w.heap.size w wr) (fun i _=>F.length-(Lib.intOf i).toNat)
 case atStart=>exact⟨0,Nat.zero_le _,rfl,Below.refl _ _⟩
 case round=>
  obtain⟨k,hk,rfl,hb0⟩:=hrel
  by_cases hlt:k<F.length
  ·obtain⟨a',rfl,ha,ha',hA⟩:=(HF.out.below hb0 (Nat.le_refl _)) k hlt
   obtain⟨b',rfl,hb,hb',hB⟩:=(HG.out.below hb0 (Nat.le_refl _)) k hlt
   have hE:=mkHid fun (w':World) (_:Below wr.heap.size wr w')=>lawEqMx F[k] lo lo' w'
   have c0:=hA.c0
   have c1:=hA.c1
   have c2:=hA.c2
   have d0:=hB.c0
   have d1:=hB.c1
   have d2:=hB.c2
   clear hA hB
   generalize F[k]=n at *
   have cE:Hid (∀d os,Calls Tryz.prog 124 #[GMxV n,GMxV n] (Go.Sort.grow (redrawn wr d) os) fun e w''=>e=.returned (.bool true)∧∃p:Regrown,w''=Go.Sort.grow (redrawn wr p.d) p.os):=fun d os=>Calls.regrown_of (hE.out _ (below_regrown wr d os))
   unfold GMxV at cE
   go_wp2
   have k0:=cell_regrown c0
   have l0:=cell_regrown d0
   have k1:=cell_regrown c1
   have l1:=cell_regrown d1
   have k2:=cell_regrown c2
   have l2:=cell_regrown d2
   clear hE c0 c1 c2 d0 d1 d2
   refine wp_region_quiet_below (by kernel_rfl) (by kernel_rfl) ?_
   repeat (go_big_quiet_step (exact cE.out _ _))
   refine wpQuiet_nil ?_
   intro _ hw'
   obtain⟨⟨dq,osq⟩,hw''⟩:=hw'
   subst hw''
   have hbq:=mkHid (hb0.trans ((below_regrown wr dq osq).mono hb0.size))
   generalize Go.Sort.grow (redrawn wr dq) osq=wq at *
   clear k0 k1 k2 l0 l1 l2 cE hb0
   go_wp2
   go_roundw
   case rel=>exact⟨k+1,by omega,by go_num,hbq.out⟩
   case measure=>simp[Lib.intOf];omega
  ·go_wp2
   go_ret
   exact⟨rfl,hb0⟩
structure GQueueConfig where
 locF:ByteArray
 aliases:List GAlias
 mx:List GMx
 delays:List Int
 maxAge:Int
def GQueueConfigV (n:GQueueConfig)(v1 v2 v3:Value):Value:=.agg #[.string n.locF,v1,v2,v3,.int .i64 n.maxAge]
def GQueueConfig.fits (n:GQueueConfig)(m:Nat):Prop:=n.locF.size≤m∧n.aliases.length≤m∧(∀x ∈ n.aliases,x.fits m)∧n.mx.length≤m∧(∀x ∈ n.mx,x.fits m)∧n.delays.length≤m
structure GQueueConfigIn (lo hi:Nat)(w:World)(n:GQueueConfig)(v1 v2 v3:Value):Prop where
 s1:∃a c,v1=.slice a n.aliases.length c∧GAliassL lo hi w a n.aliases
 s2:∃a c,v2=.slice a n.mx.length c∧GMxsL lo hi w a n.mx
 s3:∃a c,v3=.slice a n.delays.length c∧InL lo hi w a n.delays
theorem GQueueConfigIn.same {lo hi:Nat} {w w':World} {n:GQueueConfig} {v1 v2 v3:Value} (h:GQueueConfigIn lo hi w n v1 v2 v3)(hs:Same lo hi w w'):GQueueConfigIn lo hi w' n v1 v2 v3:=by
 obtain⟨⟨a1,c1,e1,t1⟩,⟨a2,c2,e2,t2⟩,⟨a3,c3,e3,t3⟩⟩:=h
 exact⟨⟨a1,c1,e1,t1.same hs⟩,⟨a2,c2,e2,t2.same hs⟩,⟨a3,c3,e3,t3.same hs⟩⟩
theorem GQueueConfigIn.mono {lo lo' hi hi':Nat} {w:World} {n:GQueueConfig} {v1 v2 v3:Value} (h:GQueueConfigIn lo hi w n v1 v2 v3)(hl:lo'≤lo)(hh:hi≤hi'):GQueueConfigIn lo' hi' w n v1 v2 v3:=by
 obtain⟨⟨a1,c1,e1,t1⟩,⟨a2,c2,e2,t2⟩,⟨a3,c3,e3,t3⟩⟩:=h
 exact⟨⟨a1,c1,e1,t1.mono hl hh⟩,⟨a2,c2,e2,t2.mono hl hh⟩,⟨a3,c3,e3,t3.mono hl hh⟩⟩
theorem lawSzQueueConfig (n:GQueueConfig)(v1 v2 v3:Value)(left lo:Nat)(w:World)(hI:GQueueConfigIn lo w.heap.size w n v1 v2 v3)(hf:n.fits maxLen)(hl:left≤1048576) :
  Calls Tryz.prog 10 #[GQueueConfigV n v1 v2 v3,.int .i64 left] w fun e w'=>∃ r:Int,e=.returned (.int .i64 r)∧Hid (r = -1∨∃ m:Nat,r=m∧m≤left∧n.fits 1048576)∧Below w.heap.size w w':=by
 obtain⟨⟨a1,c1,rfl,t1⟩,⟨a2,c2,rfl,t2⟩,⟨a3,c3,rfl,t3⟩⟩:=hI
 obtain⟨f0_0,f1_0,f1_1,f2_0,f2_1,f3_0⟩:=hf
 have H1:=mkHid fun (w':World) (hb:Below w.heap.size w w') (m:Nat) (hm:m≤1048576)=>lawSzSAlias a1 n.aliases c1 m lo w' ((t1.below hb (Nat.le_refl _)).mono (Nat.le_refl _) hb.size) f1_0 f1_1 hm
 have H2:=mkHid fun (w':World) (hb:Below w.heap.size w w') (m:Nat) (hm:m≤1048576)=>lawSzSMx a2 n.mx c2 m lo w' ((t2.below hb (Nat.le_refl _)).mono (Nat.le_refl _) hb.size) f2_0 f2_1 hm
 have H3:=mkHid fun (w':World) (_:Below w.heap.size w w') (m:Nat) (hm:m≤1048576)=>lawSzSInt a3 n.delays c3 m w' f3_0 hm
 unfold GQueueConfigV
 unfold maxLen at f0_0
 clear f1_0 f1_1 t1 f2_0 f2_1 t2 f3_0 t3
 obtain⟨W,hW⟩:∃W,W=w.alloc (.cells #[.string n.locF,.slice a1 n.aliases.length c1,.slice a2 n.mx.length c2,.slice a3 n.delays.length c3,.int .i64 n.maxAge] 29):=⟨_,rfl⟩
 have hbW:Below w.heap.size w W:=by rw[hW];exact(Below.refl _ _).alloc (Nat.le_refl _) _
 have hWs:w.heap.size<W.heap.size:=by rw[hW];simp
 have q0_2:W.cell? ⟨w.heap.size,2,none⟩=some (.slice a2 n.mx.length c2):=by rw[hW];simp
 have q0_3:W.cell? ⟨w.heap.size,3,none⟩=some (.slice a3 n.delays.length c3):=by rw[hW];simp
 have HW:=mkHid hW
 clear hW
 by_cases h0:left<n.locF.size
 ·go_enter Tryz.func10,Tryz.ntmps10
  go_wp2
  go_ret
  first|rw[← HW.out]|skip
  exact⟨-1,rfl,.inl rfl,hbW⟩
 ·obtain⟨l0,h0a⟩:∃l:Nat,left-n.locF.size=l:=⟨_,rfl⟩
  have h0b:(left:Int)-(n.locF.size:Int)=(l0:Int):=by omega
  have h0c:l0≤left:=by omega
  have g0:Hid (n.locF.size≤1048576):=by show _≤_;omega
  clear h0a
  go_enter Tryz.func10,Tryz.ntmps10
  go_wp2_with fail
  rw[← HW.out]
  refine(H1.out W hbW l0 (by omega)).mono ?_
  rintro e w1 ⟨r1,rfl,hr1,hb1⟩
  have q1_2:=(hb1.cell (p:=⟨w.heap.size,2,none⟩) hWs).trans q0_2
  have q1_3:=(hb1.cell (p:=⟨w.heap.size,3,none⟩) hWs).trans q0_3
  have hz1:w.heap.size<w1.heap.size:=Nat.lt_of_lt_of_le hWs hb1.size
  have hbw1:=hbW.trans (hb1.mono (Nat.le_of_lt hWs))
  clear hb1 HW q0_2 q0_3
  rcases hr1.out with rfl|⟨m1,rfl,hm1,hf1⟩
  ·clear hr1
   go_wp2
   go_ret
   exact⟨-1,rfl,.inl rfl,hbw1⟩
  ·replace hf1:=mkHid hf1
   clear hr1
   go_wp2_with fail
   refine(H2.out w1 hbw1 m1 (by omega)).mono ?_
   rintro e w2 ⟨r2,rfl,hr2,hb2⟩
   have q2_3:=(hb2.cell (p:=⟨w.heap.size,3,none⟩) hz1).trans q1_3
   have hz2:w.heap.size<w2.heap.size:=Nat.lt_of_lt_of_le hz1 hb2.size
   have hbw2:=hbw1.trans (hb2.mono (Nat.le_of_lt hz1))
   clear hb2 q1_2 q1_3
   rcases hr2.out with rfl|⟨m2,rfl,hm2,hf2⟩
   ·clear hr2
    go_wp2
    go_ret
    exact⟨-1,rfl,.inl rfl,hbw2⟩
   ·replace hf2:=mkHid hf2
    clear hr2
    go_wp2_with fail
    refine(H3.out w2 hbw2 m2 (by omega)).mono ?_
    rintro e w3 ⟨r3,rfl,hr3,hb3⟩
    have hz3:w.heap.size<w3.heap.size:=Nat.lt_of_lt_of_le hz2 hb3.size
    have hbw3:=hbw2.trans (hb3.mono (Nat.le_of_lt hz2))
    clear hb3 q2_3
    rcases hr3.out with rfl|⟨m3,rfl,hm3,hf3⟩
    ·clear hr3
     go_wp2
     go_ret
     exact⟨-1,rfl,.inl rfl,hbw3⟩
    ·replace hf3:=mkHid hf3
     clear hr3
     go_wp2
     go_ret
     exact⟨_,rfl,.inr ⟨m3,rfl,by omega,g0.out,hf1.out.1,hf1.out.2,hf2.out.1,hf2.out.2,hf3.out⟩,hbw3⟩
theorem lawToXQueueConfig (n:GQueueConfig)(u1:Value)(u2:Value)(u3:Value)(lo:Nat)(w:World)(hI:GQueueConfigIn lo w.heap.size w n u1 u2 u3)(hf:n.fits 1048576) :
  Calls Tryz.prog 21 #[GQueueConfigV n u1 u2 u3] w fun e w'=>∃ v1 v2 v3:Value,e=.returned (GQueueConfigV n v1 v2 v3)∧Hid (GQueueConfigIn w.heap.size w'.heap.size w' n v1 v2 v3)∧Below w.heap.size w w'∧Hid (Soft w.heap.size w'):=by
 obtain⟨⟨a1,c1,rfl,t1⟩,⟨a2,c2,rfl,t2⟩,⟨a3,c3,rfl,t3⟩⟩:=hI
 obtain⟨f0_0,f1_0,f1_1,f2_0,f2_1,f3_0⟩:=hf
 have H1:=mkHid fun (w':World) (hb:Below w.heap.size w w')=>lawToSXAlias a1 n.aliases c1 lo w' ((t1.below hb (Nat.le_refl _)).mono (Nat.le_refl _) hb.size) f1_0 f1_1
 have H2:=mkHid fun (w':World) (hb:Below w.heap.size w w')=>lawToSXMx a2 n.mx c2 lo w' ((t2.below hb (Nat.le_refl _)).mono (Nat.le_refl _) hb.size) f2_0 f2_1
 have H3:=mkHid fun (w':World) (hb:Below w.heap.size w w')=>lawToSXInt a3 n.delays c3 lo w' ((t3.below hb (Nat.le_refl _)).mono (Nat.le_refl _) hb.size) f3_0
 clear f0_0 f1_0 f1_1 f2_0 f2_1 f3_0 t1 t2 t3
 obtain⟨G,hG⟩:∃G,w.heap.size=G:=⟨_,rfl⟩
 obtain⟨V0,hV0⟩:∃W,W=((w.alloc (.cells #[.string n.locF,.slice a1 n.aliases.length c1,.slice a2 n.mx.length c2,.slice a3 n.delays.length c3,.int .i64 n.maxAge] 29)).alloc (.cells #[.string ⟨#[]⟩,.slice none 0 0,.slice none 0 0,.slice none 0 0,.int .i64 0] 44)).alloc (.cells #[.string n.locF,.slice none 0 0,.slice none 0 0,.slice none 0 0,.int .i64 0] 44):=⟨_,rfl⟩
 obtain⟨hb0,hs0,hP0,hR0,hO0⟩:=three_blocks hG hV0
 have hSf:=mkHid (show Soft G V0 by rw[hV0,← hG];exact(((Soft.refl _).alloc _ _).alloc _ _).alloc _ _)
 have HV0:=mkHid hV0
 clear hV0
 have hG':=mkHid hG
 unfold GQueueConfigV
 go_enter Tryz.func21,Tryz.ntmps21
 go_wp2_with fail
 rw[← HV0.out]
 refine(H1.out V0 (by rw[hG];exact hb0)).mono ?_
 rintro e w1 ⟨rfl,hT1,hw1,hsf1⟩
 replace hSf:=mkHid (hSf.out.call hw1 hsf1.out)
 obtain⟨g1,hg1⟩:∃g,V0.heap.size=g:=⟨_,rfl⟩
 rw[hg1] at hT1 hw1 hs0 ⊢
 have hw1s:=hw1.size
 rw[hg1] at hw1s
 have hP1a:=(hw1.block G (by omega)).trans hP0
 have hR1a:=(hw1.block (G+1) (by omega)).trans hR0
 have hO1a:=(hw1.block (G+1+1) (by omega)).trans hO0
 have p1_2:w1.cell? ⟨G,2,none⟩=some (.slice a2 n.mx.length c2):=by simp[World.cell?,hP1a]
 have x1_1:w1.cell? ⟨G+1+1,1,none⟩=some (.slice none 0 0):=by simp[World.cell?,hO1a]
 have z1_1:w1.frozen? ⟨G+1+1,1,none⟩=false:=by simp[World.frozen?,hO1a]
 obtain⟨V1,hV1⟩:∃V,V=w1.setCell ⟨G+1+1,1,none⟩ (.slice (some ⟨g1,0,none⟩) n.aliases.length n.aliases.length):=⟨_,rfl⟩
 replace hSf:=mkHid (show Soft G V1 by rw[hV1];exact(hSf.out.set _ _ _))
 have hgr1:w1.grownBy V1 (some (G+1+1)):=by rw[hV1];exact grG_set _ _ _ _
 have hP1:=(hgr1.block G (by omega) (by simp;omega)).trans hP1a
 have hR1:=(hgr1.block (G+1) (by omega) (by simp)).trans hR1a
 have hO1:V1.heap[G+1+1]?=some (.cells #[.string n.locF,.slice (some ⟨g1,0,none⟩) n.aliases.length n.aliases.length,.slice none 0 0,.slice none 0 0,.int .i64 0] 44 (0,0)):=by rw[hV1];simp[World.setCell,Array.getElem?_modify,hO1a]
 have hs1:G+3≤V1.heap.size:=Nat.le_trans (Nat.le_trans hs0 hw1s) hgr1.size
 have hb1:Below G w V1:=(hb0.trans (hw1.mono (by omega))).grown hgr1 (by omega) (fun k hk=>by cases hk;omega)
 replace hT1:=mkHid ((hT1.out.same (Same.gr hgr1 (by omega) (Nat.le_refl _))).mono (show G+3≤_ by omega) hgr1.size)
 replace hV1:=mkHid hV1
 have HV1:=hV1
 clear hP1a hR1a hO1a hP0 hR0 hO0 hw1 HV0 hgr1 hb0
 clear hs0 hg1 hw1s
 go_wp2_with fail
 rw[← HV1.out]
 refine(H2.out V1 (by rw[hG];exact hb1)).mono ?_
 rintro e w2 ⟨rfl,hT2,hw2,hsf2⟩
 clear x1_1 z1_1 p1_2
 replace hSf:=mkHid (hSf.out.call hw2 hsf2.out)
 obtain⟨g2,hg2⟩:∃g,V1.heap.size=g:=⟨_,rfl⟩
 rw[hg2] at hT2 hw2 hs1 ⊢
 rw[hg2] at hT1
 have hw2s:=hw2.size
 rw[hg2] at hw2s
 have hP2a:=(hw2.block G (by omega)).trans hP1
 have hR2a:=(hw2.block (G+1) (by omega)).trans hR1
 have hO2a:=(hw2.block (G+1+1) (by omega)).trans hO1
 have p2_3:w2.cell? ⟨G,3,none⟩=some (.slice a3 n.delays.length c3):=by simp[World.cell?,hP2a]
 have x2_2:w2.cell? ⟨G+1+1,2,none⟩=some (.slice none 0 0):=by simp[World.cell?,hO2a]
 have z2_2:w2.frozen? ⟨G+1+1,2,none⟩=false:=by simp[World.frozen?,hO2a]
 obtain⟨V2,hV2⟩:∃V,V=w2.setCell ⟨G+1+1,2,none⟩ (.slice (some ⟨g2,0,none⟩) n.mx.length n.mx.length):=⟨_,rfl⟩
 replace hSf:=mkHid (show Soft G V2 by rw[hV2];exact(hSf.out.set _ _ _))
 have hgr2:w2.grownBy V2 (some (G+1+1)):=by rw[hV2];exact grG_set _ _ _ _
 have hP2:=(hgr2.block G (by omega) (by simp;omega)).trans hP2a
 have hR2:=(hgr2.block (G+1) (by omega) (by simp)).trans hR2a
 have hO2:V2.heap[G+1+1]?=some (.cells #[.string n.locF,.slice (some ⟨g1,0,none⟩) n.aliases.length n.aliases.length,.slice (some ⟨g2,0,none⟩) n.mx.length n.mx.length,.slice none 0 0,.int .i64 0] 44 (0,0)):=by rw[hV2];simp[World.setCell,Array.getElem?_modify,hO2a]
 have hs2:G+3≤V2.heap.size:=Nat.le_trans (Nat.le_trans hs1 hw2s) hgr2.size
 have hb2:Below G w V2:=(hb1.trans (hw2.mono (by omega))).grown hgr2 (by omega) (fun k hk=>by cases hk;omega)
 have hT1:=mkHid (((hT1.out.below hw2 (Nat.le_refl _)).mono (Nat.le_refl _) hw2s |>.same (Same.gr hgr2 (by omega) (Nat.le_refl _))).mono (Nat.le_refl _) hgr2.size)
 replace hT2:=mkHid ((hT2.out.same (Same.gr hgr2 (by omega) (Nat.le_refl _))).mono (show G+3≤_ by omega) hgr2.size)
 replace hV2:=mkHid hV2
 have HV2:=hV2
 clear hP2a hR2a hO2a hP1 hR1 hO1 hw2 HV1 hgr2 hb1
 clear hs1 hg2 hw2s
 go_wp2_with fail
 rw[← HV2.out]
 refine(H3.out V2 (by rw[hG];exact hb2)).mono ?_
 rintro e w3 ⟨rfl,hT3,hw3,hsf3⟩
 clear x2_2 z2_2 p2_3
 replace hSf:=mkHid (hSf.out.call hw3 hsf3.out)
 obtain⟨g3,hg3⟩:∃g,V2.heap.size=g:=⟨_,rfl⟩
 rw[hg3] at hT3 hw3 hs2 ⊢
 rw[hg3] at hT1
 rw[hg3] at hT2
 have hw3s:=hw3.size
 rw[hg3] at hw3s
 have hP3a:=(hw3.block G (by omega)).trans hP2
 have hR3a:=(hw3.block (G+1) (by omega)).trans hR2
 have hO3a:=(hw3.block (G+1+1) (by omega)).trans hO2
 have p3_4:w3.cell? ⟨G,4,none⟩=some (.int .i64 n.maxAge):=by simp[World.cell?,hP3a]
 have x3_3:w3.cell? ⟨G+1+1,3,none⟩=some (.slice none 0 0):=by simp[World.cell?,hO3a]
 have z3_3:w3.frozen? ⟨G+1+1,3,none⟩=false:=by simp[World.frozen?,hO3a]
 have x3_4:w3.cell? ⟨G+1+1,4,none⟩=some (.int .i64 0):=by simp[World.cell?,hO3a]
 have z3_4:w3.frozen? ⟨G+1+1,4,none⟩=false:=by simp[World.frozen?,hO3a]
 obtain⟨V3,hV3⟩:∃V,V=(w3.setCell ⟨G+1+1,3,none⟩ (.slice (some ⟨g3,0,none⟩) n.delays.length n.delays.length)).setCell ⟨G+1+1,4,none⟩ (.int .i64 n.maxAge):=⟨_,rfl⟩
 replace hSf:=mkHid (show Soft G V3 by rw[hV3];exact((hSf.out.set _ _ _).set _ _ _))
 have hgr3:w3.grownBy V3 (some (G+1+1)):=by rw[hV3];exact grG_trans (grG_set _ _ _ _) (grG_set _ _ _ _)
 have hP3:=(hgr3.block G (by omega) (by simp;omega)).trans hP3a
 have hR3:=(hgr3.block (G+1) (by omega) (by simp)).trans hR3a
 have hO3:V3.heap[G+1+1]?=some (.cells #[.string n.locF,.slice (some ⟨g1,0,none⟩) n.aliases.length n.aliases.length,.slice (some ⟨g2,0,none⟩) n.mx.length n.mx.length,.slice (some ⟨g3,0,none⟩) n.delays.length n.delays.length,.int .i64 n.maxAge] 44 (0,0)):=by rw[hV3];simp[World.setCell,Array.getElem?_modify,hO3a]
 have hs3:G+3≤V3.heap.size:=Nat.le_trans (Nat.le_trans hs2 hw3s) hgr3.size
 have hb3:Below G w V3:=(hb2.trans (hw3.mono (by omega))).grown hgr3 (by omega) (fun k hk=>by cases hk;omega)
 have hT1:=mkHid (((hT1.out.below hw3 (Nat.le_refl _)).mono (Nat.le_refl _) hw3s |>.same (Same.gr hgr3 (by omega) (Nat.le_refl _))).mono (Nat.le_refl _) hgr3.size)
 have hT2:=mkHid (((hT2.out.below hw3 (Nat.le_refl _)).mono (Nat.le_refl _) hw3s |>.same (Same.gr hgr3 (by omega) (Nat.le_refl _))).mono (Nat.le_refl _) hgr3.size)
 replace hT3:=mkHid ((hT3.out.same (Same.gr hgr3 (by omega) (Nat.le_refl _))).mono (show G+3≤_ by omega) hgr3.size)
 replace hV3:=mkHid hV3
 have HV3:=hV3
 clear hP3a hR3a hO3a hP2 hR2 hO2 hw3 HV2 hgr3 hb2
 clear hs2 hg3 hw3s
 have hgz:=grown_setRow V3 (G+1) #[.string n.locF,.slice (some ⟨g1,0,none⟩) n.aliases.length n.aliases.length,.slice (some ⟨g2,0,none⟩) n.mx.length n.mx.length,.slice (some ⟨g3,0,none⟩) n.delays.length n.delays.length,.int .i64 n.maxAge]
 have hSz:=mkHid (hSf.out.setRow (G+1) #[.string n.locF,.slice (some ⟨g1,0,none⟩) n.aliases.length n.aliases.length,.slice (some ⟨g2,0,none⟩) n.mx.length n.mx.length,.slice (some ⟨g3,0,none⟩) n.delays.length n.delays.length,.int .i64 n.maxAge])
 clear hSf
 have hbz:=mkHid (hb3.grown hgz (by omega) (fun k hk=>by cases hk;omega))
 replace hT1:=mkHid ((hT1.out.same (Same.gr hgz (by omega) (Nat.le_refl _))).mono (show G≤_ by omega) hgz.size)
 replace hT2:=mkHid ((hT2.out.same (Same.gr hgz (by omega) (Nat.le_refl _))).mono (show G≤_ by omega) hgz.size)
 replace hT3:=mkHid ((hT3.out.same (Same.gr hgz (by omega) (Nat.le_refl _))).mono (show G≤_ by omega) hgz.size)
 rw[HV3.out] at hT1 hT2 hT3 hbz hSz hO3 hR3
 clear hgz HV3 hV3 hb3 hP3 hs3
 go_wp2_with (first|(refine wpL_load_row rfl 44 _ rfl (G+1+1) _ 44 (0,0) _ rfl hO3 Tryz.underlying44 rfl (by kernel_rfl) ?_)|(refine wpL_store_row rfl 44 _ _ rfl (G+1) _ rfl rfl 44 _ hR3 (by kernel_rfl) rfl (by simp[Value.oneCell']) ?_)|go_in)
 refine bodyPost_ret (v:=.agg #[.string n.locF,.slice (some ⟨g1,0,none⟩) n.aliases.length n.aliases.length,.slice (some ⟨g2,0,none⟩) n.mx.length n.mx.length,.slice (some ⟨g3,0,none⟩) n.delays.length n.delays.length,.int .i64 n.maxAge]) (results_cell_row Tryz.results21 _ _ (G+1) 44 _ (0,0) _ rfl (setRow_heap _ _ _ _ _ _ hR3) Tryz.underlying44 rfl (by kernel_rfl)) rfl ?_
 rw[hG]
 exact⟨_,_,_,rfl,⟨⟨_,_,rfl,hT1.out⟩,⟨_,_,rfl,hT2.out⟩,⟨_,_,rfl,hT3.out⟩⟩,hbz.out,hSz⟩
theorem lawEqQueueConfig (n:GQueueConfig)(v1 v2 v3:Value)(u1 u2 u3:Value)(lo lo':Nat)(w:World)(hI:GQueueConfigIn lo w.heap.size w n v1 v2 v3)(hJ:GQueueConfigIn lo' w.heap.size w n u1 u2 u3)(hf:n.fits 1048576) :
  Calls Tryz.prog 31 #[GQueueConfigV n v1 v2 v3,GQueueConfigV n u1 u2 u3] w fun e w'=>e=.returned (.bool true)∧Below w.heap.size w w':=by
 obtain⟨⟨a1,c1,rfl,t1⟩,⟨a2,c2,rfl,t2⟩,⟨a3,c3,rfl,t3⟩⟩:=hI
 obtain⟨⟨b1,d1,rfl,s1⟩,⟨b2,d2,rfl,s2⟩,⟨b3,d3,rfl,s3⟩⟩:=hJ
 obtain⟨f0_0,f1_0,f1_1,f2_0,f2_1,f3_0⟩:=hf
 have H1:=mkHid fun (w':World) (hb:Below w.heap.size w w')=>lawEqSAlias a1 b1 n.aliases c1 d1 lo lo' w' ((t1.below hb (Nat.le_refl _)).mono (Nat.le_refl _) hb.size) ((s1.below hb (Nat.le_refl _)).mono (Nat.le_refl _) hb.size) f1_0 f1_1
 have H2:=mkHid fun (w':World) (hb:Below w.heap.size w w')=>lawEqSMx a2 b2 n.mx c2 d2 lo lo' w' ((t2.below hb (Nat.le_refl _)).mono (Nat.le_refl _) hb.size) ((s2.below hb (Nat.le_refl _)).mono (Nat.le_refl _) hb.size) f2_0 f2_1
 have H3:=mkHid fun (w':World) (hb:Below w.heap.size w w')=>lawEqSInt a3 b3 n.delays c3 d3 lo lo' w' ((t3.below hb (Nat.le_refl _)).mono (Nat.le_refl _) hb.size) ((s3.below hb (Nat.le_refl _)).mono (Nat.le_refl _) hb.size) f3_0
 clear f0_0 f1_0 f1_1 f2_0 f2_1 f3_0 t1 s1 t2 s2 t3 s3
 unfold GQueueConfigV
 obtain⟨W0,hW⟩:∃W,W=(w.alloc (.cells #[.string n.locF,.slice a1 n.aliases.length c1,.slice a2 n.mx.length c2,.slice a3 n.delays.length c3,.int .i64 n.maxAge] 44)).alloc (.cells #[.string n.locF,.slice b1 n.aliases.length d1,.slice b2 n.mx.length d2,.slice b3 n.delays.length d3,.int .i64 n.maxAge] 44):=⟨_,rfl⟩
 obtain⟨hb0,hs0,hA0,hB0⟩:=two_blocks hW
 have HW:=mkHid hW
 clear hW
 go_enter Tryz.func31,Tryz.ntmps31
 go_wp2_with fail
 rw[← HW.out]
 refine(H1.out W0 hb0).mono ?_
 rintro e W1 ⟨rfl,hw1⟩
 have hw1s:=hw1.size
 have hA1:=(hw1.block w.heap.size (by omega)).trans hA0
 have hB1:=(hw1.block (w.heap.size+1) (by omega)).trans hB0
 have hb1:=hb0.trans (hw1.mono (by omega))
 have hs1:w.heap.size+2≤W1.heap.size:=Nat.le_trans hs0 hw1s
 have p1_2:W1.cell? ⟨w.heap.size,2,none⟩=some (.slice a2 n.mx.length c2):=by simp[World.cell?,hA1]
 have q1_2:W1.cell? ⟨w.heap.size+1,2,none⟩=some (.slice b2 n.mx.length d2):=by simp[World.cell?,hB1]
 clear hA0 hB0 hw1 hs0 hb0 hw1s HW
 go_wp2_with fail
 refine(H2.out W1 hb1).mono ?_
 rintro e W2 ⟨rfl,hw2⟩
 have hw2s:=hw2.size
 have hA2:=(hw2.block w.heap.size (by omega)).trans hA1
 have hB2:=(hw2.block (w.heap.size+1) (by omega)).trans hB1
 have hb2:=hb1.trans (hw2.mono (by omega))
 have hs2:w.heap.size+2≤W2.heap.size:=Nat.le_trans hs1 hw2s
 have p2_3:W2.cell? ⟨w.heap.size,3,none⟩=some (.slice a3 n.delays.length c3):=by simp[World.cell?,hA2]
 have q2_3:W2.cell? ⟨w.heap.size+1,3,none⟩=some (.slice b3 n.delays.length d3):=by simp[World.cell?,hB2]
 clear hA1 hB1 hw2 hs1 hb1 hw2s
 clear p1_2 q1_2
 go_wp2_with fail
 refine(H3.out W2 hb2).mono ?_
 rintro e W3 ⟨rfl,hw3⟩
 have hw3s:=hw3.size
 have hA3:=(hw3.block w.heap.size (by omega)).trans hA2
 have hB3:=(hw3.block (w.heap.size+1) (by omega)).trans hB2
 have hb3:=hb2.trans (hw3.mono (by omega))
 have hs3:w.heap.size+2≤W3.heap.size:=Nat.le_trans hs2 hw3s
 have p3_4:W3.cell? ⟨w.heap.size,4,none⟩=some (.int .i64 n.maxAge):=by simp[World.cell?,hA3]
 have q3_4:W3.cell? ⟨w.heap.size+1,4,none⟩=some (.int .i64 n.maxAge):=by simp[World.cell?,hB3]
 clear hA2 hB2 hw3 hs2 hb2 hw3s
 clear hA3 hB3 hs3
 clear p2_3 q2_3
 go_wp2
 go_ret
 exact⟨rfl,hb3⟩
end Go.Proofs.YtkcajnjledldnaaGreatDoor
