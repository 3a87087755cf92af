import Derived.Test.YtkcajnjledldnaaGreatDoorGenSignKey
import Derived.Test.YtkcajnjledldnaaGreatDoorGenBase
import Derived.OrdersHeld
import Derived.RegionTactic
set_option maxRecDepth 20000
set_option maxHeartbeats 4000000
namespace Go.Proofs.YtkcajnjledldnaaGreatDoor
open Go.RowKit Go.Lib Go.Maps
structure GTransferConfig where
 locF:ByteArray
 relay:Bool
 maxBytes:Int
 users:List GSignKey
 seed:Int
def GTransferConfigV (n:GTransferConfig)(v3:Value):Value:=.agg #[.string n.locF,.bool n.relay,.int .i64 n.maxBytes,v3,.int .i64 n.seed]
def GTransferConfig.fits (n:GTransferConfig)(m:Nat):Prop:=n.locF.size≤m∧n.users.length≤m∧(∀x ∈ n.users,x.fits m)
structure GTransferConfigIn (lo hi:Nat)(w:World)(n:GTransferConfig)(v3:Value):Prop where
 s3:∃a c,v3=.slice a n.users.length c∧GSignKeysL lo hi w a n.users
theorem lawSzTransferConfig (n:GTransferConfig)(v3:Value)(left lo:Nat)(w:World)(hI:GTransferConfigIn lo w.heap.size w n v3)(hf:n.fits maxLen)(hl:left≤1048576) :
  Calls Tryz.prog 9 #[GTransferConfigV n v3,.int .i64 left] w fun e w'=>∃ r:Int,e=.returned (.int .i64 r)∧Hid (r = -1∨∃ m:Nat,r=m∧m≤left∧n.fits 1048576)∧Below w.heap.size w w':=by
 obtain⟨⟨a3,c3,rfl,t3⟩⟩:=hI
 obtain⟨f0_0,f3_0,f3_1⟩:=hf
 have H3:=mkHid fun (w':World) (hb:Below w.heap.size w w') (m:Nat) (hm:m≤1048576)=>lawSzSSignKey a3 n.users c3 m lo w' ((t3.below hb (Nat.le_refl _)).mono (Nat.le_refl _) hb.size) f3_0 f3_1 hm
 unfold GTransferConfigV
 unfold maxLen at f0_0
 clear f3_0 f3_1 t3
 obtain⟨W,hW⟩:∃W,W=w.alloc (.cells #[.string n.locF,.bool n.relay,.int .i64 n.maxBytes,.slice a3 n.users.length c3,.int .i64 n.seed] 24):=⟨_,rfl⟩
 have hbW:Below w.heap.size w W:=by rw[hW];exact(Below.refl _ _).alloc (Nat.le_refl _) _
 have hWs:w.heap.size<W.heap.size:=by rw[hW];simp
 have HW:=mkHid hW
 clear hW
 by_cases h0:left<n.locF.size
 ·go_enter Tryz.func9,Tryz.ntmps9
  go_wp2
  go_ret
  first|rw[← HW.out]|skip
  exact⟨-1,rfl,.inl rfl,hbW⟩
 ·obtain⟨l0,h0a⟩:∃l:Nat,left-n.locF.size=l:=⟨_,rfl⟩
  have h0b:(left:Int)-(n.locF.size:Int)=(l0:Int):=by omega
  have h0c:l0≤left:=by omega
  have g0:Hid (n.locF.size≤1048576):=by show _≤_;omega
  clear h0a
  go_enter Tryz.func9,Tryz.ntmps9
  go_wp2_with fail
  rw[← HW.out]
  refine(H3.out W hbW l0 (by omega)).mono ?_
  rintro e w1 ⟨r1,rfl,hr1,hb1⟩
  have hz1:w.heap.size<w1.heap.size:=Nat.lt_of_lt_of_le hWs hb1.size
  have hbw1:=hbW.trans (hb1.mono (Nat.le_of_lt hWs))
  clear hb1 HW
  rcases hr1.out with rfl|⟨m1,rfl,hm1,hf1⟩
  ·clear hr1
   go_wp2
   go_ret
   exact⟨-1,rfl,.inl rfl,hbw1⟩
  ·replace hf1:=mkHid hf1
   clear hr1
   go_wp2
   go_ret
   exact⟨_,rfl,.inr ⟨m1,rfl,by omega,g0.out,hf1.out.1,hf1.out.2⟩,hbw1⟩
theorem lawToXTransferConfig (n:GTransferConfig)(u3:Value)(lo:Nat)(w:World)(hI:GTransferConfigIn lo w.heap.size w n u3)(hf:n.fits 1048576) :
  Calls Tryz.prog 20 #[GTransferConfigV n u3] w fun e w'=>∃ v3:Value,e=.returned (GTransferConfigV n v3)∧Hid (GTransferConfigIn w.heap.size w'.heap.size w' n v3)∧Below w.heap.size w w'∧Hid (Soft w.heap.size w'):=by
 obtain⟨⟨a3,c3,rfl,t3⟩⟩:=hI
 obtain⟨f0_0,f3_0,f3_1⟩:=hf
 have H3:=mkHid fun (w':World) (hb:Below w.heap.size w w')=>lawToSXSignKey a3 n.users c3 lo w' ((t3.below hb (Nat.le_refl _)).mono (Nat.le_refl _) hb.size) f3_0 f3_1
 clear f0_0 f3_0 f3_1 t3
 obtain⟨G,hG⟩:∃G,w.heap.size=G:=⟨_,rfl⟩
 obtain⟨V0,hV0⟩:∃W,W=((w.alloc (.cells #[.string n.locF,.bool n.relay,.int .i64 n.maxBytes,.slice a3 n.users.length c3,.int .i64 n.seed] 24)).alloc (.cells #[.string ⟨#[]⟩,.bool false,.int .i64 0,.slice none 0 0,.int .i64 0] 40)).alloc (.cells #[.string n.locF,.bool n.relay,.int .i64 n.maxBytes,.slice none 0 0,.int .i64 0] 40):=⟨_,rfl⟩
 obtain⟨hb0,hs0,hP0,hR0,hO0⟩:=three_blocks hG hV0
 have hSf:=mkHid (show Soft G V0 by rw[hV0,← hG];exact(((Soft.refl _).alloc _ _).alloc _ _).alloc _ _)
 have HV0:=mkHid hV0
 clear hV0
 have hG':=mkHid hG
 unfold GTransferConfigV
 go_enter Tryz.func20,Tryz.ntmps20
 go_wp2_with fail
 rw[← HV0.out]
 refine(H3.out V0 (by rw[hG];exact hb0)).mono ?_
 rintro e w1 ⟨rfl,hT3,hw1,hsf1⟩
 replace hSf:=mkHid (hSf.out.call hw1 hsf1.out)
 obtain⟨g3,hg3⟩:∃g,V0.heap.size=g:=⟨_,rfl⟩
 rw[hg3] at hT3 hw1 hs0 ⊢
 have hw1s:=hw1.size
 rw[hg3] at hw1s
 have hP1a:=(hw1.block G (by omega)).trans hP0
 have hR1a:=(hw1.block (G+1) (by omega)).trans hR0
 have hO1a:=(hw1.block (G+1+1) (by omega)).trans hO0
 have p1_4:w1.cell? ⟨G,4,none⟩=some (.int .i64 n.seed):=by simp[World.cell?,hP1a]
 have x1_3:w1.cell? ⟨G+1+1,3,none⟩=some (.slice none 0 0):=by simp[World.cell?,hO1a]
 have z1_3:w1.frozen? ⟨G+1+1,3,none⟩=false:=by simp[World.frozen?,hO1a]
 have x1_4:w1.cell? ⟨G+1+1,4,none⟩=some (.int .i64 0):=by simp[World.cell?,hO1a]
 have z1_4:w1.frozen? ⟨G+1+1,4,none⟩=false:=by simp[World.frozen?,hO1a]
 obtain⟨V1,hV1⟩:∃V,V=(w1.setCell ⟨G+1+1,3,none⟩ (.slice (some ⟨g3,0,none⟩) n.users.length n.users.length)).setCell ⟨G+1+1,4,none⟩ (.int .i64 n.seed):=⟨_,rfl⟩
 replace hSf:=mkHid (show Soft G V1 by rw[hV1];exact((hSf.out.set _ _ _).set _ _ _))
 have hgr1:w1.grownBy V1 (some (G+1+1)):=by rw[hV1];exact grG_trans (grG_set _ _ _ _) (grG_set _ _ _ _)
 have hP1:=(hgr1.block G (by omega) (by simp;omega)).trans hP1a
 have hR1:=(hgr1.block (G+1) (by omega) (by simp)).trans hR1a
 have hO1:V1.heap[G+1+1]?=some (.cells #[.string n.locF,.bool n.relay,.int .i64 n.maxBytes,.slice (some ⟨g3,0,none⟩) n.users.length n.users.length,.int .i64 n.seed] 40 (0,0)):=by rw[hV1];simp[World.setCell,Array.getElem?_modify,hO1a]
 have hs1:G+3≤V1.heap.size:=Nat.le_trans (Nat.le_trans hs0 hw1s) hgr1.size
 have hb1:Below G w V1:=(hb0.trans (hw1.mono (by omega))).grown hgr1 (by omega) (fun k hk=>by cases hk;omega)
 replace hT3:=mkHid ((hT3.out.same (Same.gr hgr1 (by omega) (Nat.le_refl _))).mono (show G+3≤_ by omega) hgr1.size)
 replace hV1:=mkHid hV1
 have HV1:=hV1
 clear hP1a hR1a hO1a hP0 hR0 hO0 hw1 HV0 hgr1 hb0
 clear hs0 hg3 hw1s
 have hgz:=grown_setRow V1 (G+1) #[.string n.locF,.bool n.relay,.int .i64 n.maxBytes,.slice (some ⟨g3,0,none⟩) n.users.length n.users.length,.int .i64 n.seed]
 have hSz:=mkHid (hSf.out.setRow (G+1) #[.string n.locF,.bool n.relay,.int .i64 n.maxBytes,.slice (some ⟨g3,0,none⟩) n.users.length n.users.length,.int .i64 n.seed])
 clear hSf
 have hbz:=mkHid (hb1.grown hgz (by omega) (fun k hk=>by cases hk;omega))
 replace hT3:=mkHid ((hT3.out.same (Same.gr hgz (by omega) (Nat.le_refl _))).mono (show G≤_ by omega) hgz.size)
 rw[HV1.out] at hT3 hbz hSz hO1 hR1
 clear hgz HV1 hV1 hb1 hP1 hs1
 go_wp2_with (first|(refine wpL_load_row rfl 40 _ rfl (G+1+1) _ 40 (0,0) _ rfl hO1 Tryz.underlying40 rfl (by kernel_rfl) ?_)|(refine wpL_store_row rfl 40 _ _ rfl (G+1) _ rfl rfl 40 _ hR1 (by kernel_rfl) rfl (by simp[Value.oneCell']) ?_)|go_in)
 refine bodyPost_ret (v:=.agg #[.string n.locF,.bool n.relay,.int .i64 n.maxBytes,.slice (some ⟨g3,0,none⟩) n.users.length n.users.length,.int .i64 n.seed]) (results_cell_row Tryz.results20 _ _ (G+1) 40 _ (0,0) _ rfl (setRow_heap _ _ _ _ _ _ hR1) Tryz.underlying40 rfl (by kernel_rfl)) rfl ?_
 rw[hG]
 exact⟨_,rfl,⟨⟨_,_,rfl,hT3.out⟩⟩,hbz.out,hSz⟩
theorem lawEqTransferConfig (n:GTransferConfig)(v3:Value)(u3:Value)(lo lo':Nat)(w:World)(hI:GTransferConfigIn lo w.heap.size w n v3)(hJ:GTransferConfigIn lo' w.heap.size w n u3)(hf:n.fits 1048576) :
  Calls Tryz.prog 30 #[GTransferConfigV n v3,GTransferConfigV n u3] w fun e w'=>e=.returned (.bool true)∧Below w.heap.size w w':=by
 obtain⟨⟨a3,c3,rfl,t3⟩⟩:=hI
 obtain⟨⟨b3,d3,rfl,s3⟩⟩:=hJ
 obtain⟨f0_0,f3_0,f3_1⟩:=hf
 have H3:=mkHid fun (w':World) (hb:Below w.heap.size w w')=>lawEqSSignKey a3 b3 n.users c3 d3 lo lo' w' ((t3.below hb (Nat.le_refl _)).mono (Nat.le_refl _) hb.size) ((s3.below hb (Nat.le_refl _)).mono (Nat.le_refl _) hb.size) f3_0 f3_1
 clear f0_0 f3_0 f3_1 t3 s3
 unfold GTransferConfigV
 obtain⟨W0,hW⟩:∃W,W=(w.alloc (.cells #[.string n.locF,.bool n.relay,.int .i64 n.maxBytes,.slice a3 n.users.length c3,.int .i64 n.seed] 40)).alloc (.cells #[.string n.locF,.bool n.relay,.int .i64 n.maxBytes,.slice b3 n.users.length d3,.int .i64 n.seed] 40):=⟨_,rfl⟩
 obtain⟨hb0,hs0,hA0,hB0⟩:=two_blocks hW
 have HW:=mkHid hW
 clear hW
 go_enter Tryz.func30,Tryz.ntmps30
 go_wp2_with fail
 rw[← HW.out]
 refine(H3.out W0 hb0).mono ?_
 rintro e W1 ⟨rfl,hw1⟩
 have hw1s:=hw1.size
 have hA1:=(hw1.block w.heap.size (by omega)).trans hA0
 have hB1:=(hw1.block (w.heap.size+1) (by omega)).trans hB0
 have hb1:=hb0.trans (hw1.mono (by omega))
 have hs1:w.heap.size+2≤W1.heap.size:=Nat.le_trans hs0 hw1s
 have p1_4:W1.cell? ⟨w.heap.size,4,none⟩=some (.int .i64 n.seed):=by simp[World.cell?,hA1]
 have q1_4:W1.cell? ⟨w.heap.size+1,4,none⟩=some (.int .i64 n.seed):=by simp[World.cell?,hB1]
 clear hA0 hB0 hw1 hs0 hb0 hw1s HW
 clear hA1 hB1 hs1
 go_wp2
 go_ret
 exact⟨rfl,hb1⟩
structure GWorldConfig where
 transfer:GTransferConfig
 queue:GQueueConfig
 users:List GWorldUser
 table:GScoreTable
 percent:Int
def GWorldConfigV (n:GWorldConfig)(v3 v6 v7 v8 v10 v13:Value):Value:=.agg #[.string n.transfer.locF,.bool n.transfer.relay,.int .i64 n.transfer.maxBytes,v3,.int .i64 n.transfer.seed,.string n.queue.locF,v6,v7,v8,.int .i64 n.queue.maxAge,v10,.int .i64 n.table.good,.int .i64 n.table.bad,v13,.int .i64 n.percent]
def GWorldConfig.fits (n:GWorldConfig)(m:Nat):Prop:=n.transfer.locF.size≤m∧n.transfer.users.length≤m∧(∀x ∈ n.transfer.users,x.fits m)∧n.queue.locF.size≤m∧n.queue.aliases.length≤m∧(∀x ∈ n.queue.aliases,x.fits m)∧n.queue.mx.length≤m∧(∀x ∈ n.queue.mx,x.fits m)∧n.queue.delays.length≤m∧n.users.length≤m∧(∀x ∈ n.users,x.fits m)∧n.table.words.length≤m∧(∀x ∈ n.table.words,x.fits m)
structure GWorldConfigIn (lo hi:Nat)(w:World)(n:GWorldConfig)(v3 v6 v7 v8 v10 v13:Value):Prop where
 s3:∃a c,v3=.slice a n.transfer.users.length c∧GSignKeysL lo hi w a n.transfer.users
 s6:∃a c,v6=.slice a n.queue.aliases.length c∧GAliassL lo hi w a n.queue.aliases
 s7:∃a c,v7=.slice a n.queue.mx.length c∧GMxsL lo hi w a n.queue.mx
 s8:∃a c,v8=.slice a n.queue.delays.length c∧InL lo hi w a n.queue.delays
 s10:∃a c,v10=.slice a n.users.length c∧GWorldUsersL lo hi w a n.users
 s13:∃a c,v13=.slice a n.table.words.length c∧GWordCountsL lo hi w a n.table.words
theorem GWorldConfigIn.same {lo hi:Nat} {w w':World} {n:GWorldConfig} {v3 v6 v7 v8 v10 v13:Value} (h:GWorldConfigIn lo hi w n v3 v6 v7 v8 v10 v13)(hs:Same lo hi w w'):GWorldConfigIn lo hi w' n v3 v6 v7 v8 v10 v13:=by
 obtain⟨⟨a3,c3,e3,t3⟩,⟨a6,c6,e6,t6⟩,⟨a7,c7,e7,t7⟩,⟨a8,c8,e8,t8⟩,⟨a10,c10,e10,t10⟩,⟨a13,c13,e13,t13⟩⟩:=h
 exact⟨⟨a3,c3,e3,t3.same hs⟩,⟨a6,c6,e6,t6.same hs⟩,⟨a7,c7,e7,t7.same hs⟩,⟨a8,c8,e8,t8.same hs⟩,⟨a10,c10,e10,t10.same hs⟩,⟨a13,c13,e13,t13.same hs⟩⟩
theorem GWorldConfigIn.mono {lo lo' hi hi':Nat} {w:World} {n:GWorldConfig} {v3 v6 v7 v8 v10 v13:Value} (h:GWorldConfigIn lo hi w n v3 v6 v7 v8 v10 v13)(hl:lo'≤lo)(hh:hi≤hi'):GWorldConfigIn lo' hi' w n v3 v6 v7 v8 v10 v13:=by
 obtain⟨⟨a3,c3,e3,t3⟩,⟨a6,c6,e6,t6⟩,⟨a7,c7,e7,t7⟩,⟨a8,c8,e8,t8⟩,⟨a10,c10,e10,t10⟩,⟨a13,c13,e13,t13⟩⟩:=h
 exact⟨⟨a3,c3,e3,t3.mono hl hh⟩,⟨a6,c6,e6,t6.mono hl hh⟩,⟨a7,c7,e7,t7.mono hl hh⟩,⟨a8,c8,e8,t8.mono hl hh⟩,⟨a10,c10,e10,t10.mono hl hh⟩,⟨a13,c13,e13,t13.mono hl hh⟩⟩
theorem lawSzWorldConfig (n:GWorldConfig)(v3 v6 v7 v8 v10 v13:Value)(left lo:Nat)(w:World)(hI:GWorldConfigIn lo w.heap.size w n v3 v6 v7 v8 v10 v13)(hf:n.fits maxLen)(hl:left≤1048576) :
  Calls Tryz.prog 4 #[GWorldConfigV n v3 v6 v7 v8 v10 v13,.int .i64 left] w fun e w'=>∃ r:Int,e=.returned (.int .i64 r)∧Hid (r = -1∨∃ m:Nat,r=m∧m≤left∧n.fits 1048576)∧Below w.heap.size w w':=by
 obtain⟨⟨a3,c3,rfl,t3⟩,⟨a6,c6,rfl,t6⟩,⟨a7,c7,rfl,t7⟩,⟨a8,c8,rfl,t8⟩,⟨a10,c10,rfl,t10⟩,⟨a13,c13,rfl,t13⟩⟩:=hI
 obtain⟨f0_0,f3_0,f3_1,f5_0,f6_0,f6_1,f7_0,f7_1,f8_0,f10_0,f10_1,f13_0,f13_1⟩:=hf
 have H0:=mkHid fun (w':World) (hb:Below w.heap.size w w') (m:Nat) (hm:m≤1048576)=>lawSzTransferConfig n.transfer (.slice a3 n.transfer.users.length c3) m lo w' ⟨⟨_,_,rfl,(t3.below hb (Nat.le_refl _)).mono (Nat.le_refl _) hb.size⟩⟩ ⟨f0_0,f3_0,f3_1⟩ hm
 have H5:=mkHid fun (w':World) (hb:Below w.heap.size w w') (m:Nat) (hm:m≤1048576)=>lawSzQueueConfig n.queue (.slice a6 n.queue.aliases.length c6) (.slice a7 n.queue.mx.length c7) (.slice a8 n.queue.delays.length c8) m lo w' ⟨⟨_,_,rfl,(t6.below hb (Nat.le_refl _)).mono (Nat.le_refl _) hb.size⟩,⟨_,_,rfl,(t7.below hb (Nat.le_refl _)).mono (Nat.le_refl _) hb.size⟩,⟨_,_,rfl,(t8.below hb (Nat.le_refl _)).mono (Nat.le_refl _) hb.size⟩⟩ ⟨f5_0,f6_0,f6_1,f7_0,f7_1,f8_0⟩ hm
 have H10:=mkHid fun (w':World) (hb:Below w.heap.size w w') (m:Nat) (hm:m≤1048576)=>lawSzSWorldUser a10 n.users c10 m lo w' ((t10.below hb (Nat.le_refl _)).mono (Nat.le_refl _) hb.size) f10_0 f10_1 hm
 have H11:=mkHid fun (w':World) (hb:Below w.heap.size w w') (m:Nat) (hm:m≤1048576)=>lawSzScoreTable n.table (.slice a13 n.table.words.length c13) m lo w' ⟨⟨_,_,rfl,(t13.below hb (Nat.le_refl _)).mono (Nat.le_refl _) hb.size⟩⟩ ⟨f13_0,f13_1⟩ hm
 unfold GWorldConfigV
 clear f3_0 f3_1 t3 f6_0 f6_1 t6 f7_0 f7_1 t7 f8_0 t8 f10_0 f10_1 t10 f13_0 f13_1 t13 f0_0 f5_0
 obtain⟨W,hW⟩:∃W,W=w.alloc (.cells #[.string n.transfer.locF,.bool n.transfer.relay,.int .i64 n.transfer.maxBytes,.slice a3 n.transfer.users.length c3,.int .i64 n.transfer.seed,.string n.queue.locF,.slice a6 n.queue.aliases.length c6,.slice a7 n.queue.mx.length c7,.slice a8 n.queue.delays.length c8,.int .i64 n.queue.maxAge,.slice a10 n.users.length c10,.int .i64 n.table.good,.int .i64 n.table.bad,.slice a13 n.table.words.length c13,.int .i64 n.percent] 35):=⟨_,rfl⟩
 have hbW:Below w.heap.size w W:=by rw[hW];exact(Below.refl _ _).alloc (Nat.le_refl _) _
 have hWs:w.heap.size<W.heap.size:=by rw[hW];simp
 have q0_5:W.cell? ⟨w.heap.size,5,none⟩=some (.string n.queue.locF):=by rw[hW];simp
 have q0_6:W.cell? ⟨w.heap.size,6,none⟩=some (.slice a6 n.queue.aliases.length c6):=by rw[hW];simp
 have q0_7:W.cell? ⟨w.heap.size,7,none⟩=some (.slice a7 n.queue.mx.length c7):=by rw[hW];simp
 have q0_8:W.cell? ⟨w.heap.size,8,none⟩=some (.slice a8 n.queue.delays.length c8):=by rw[hW];simp
 have q0_9:W.cell? ⟨w.heap.size,9,none⟩=some (.int .i64 n.queue.maxAge):=by rw[hW];simp
 have q0_10:W.cell? ⟨w.heap.size,10,none⟩=some (.slice a10 n.users.length c10):=by rw[hW];simp
 have q0_11:W.cell? ⟨w.heap.size,11,none⟩=some (.int .i64 n.table.good):=by rw[hW];simp
 have q0_12:W.cell? ⟨w.heap.size,12,none⟩=some (.int .i64 n.table.bad):=by rw[hW];simp
 have q0_13:W.cell? ⟨w.heap.size,13,none⟩=some (.slice a13 n.table.words.length c13):=by rw[hW];simp
 have HW:=mkHid hW
 clear hW
 go_enter Tryz.func4,Tryz.ntmps4
 go_wp2_with fail
 rw[← HW.out]
 refine(H0.out W hbW left (by omega)).mono ?_
 rintro e w1 ⟨r1,rfl,hr1,hb1⟩
 have q1_5:=(hb1.cell (p:=⟨w.heap.size,5,none⟩) hWs).trans q0_5
 have q1_6:=(hb1.cell (p:=⟨w.heap.size,6,none⟩) hWs).trans q0_6
 have q1_7:=(hb1.cell (p:=⟨w.heap.size,7,none⟩) hWs).trans q0_7
 have q1_8:=(hb1.cell (p:=⟨w.heap.size,8,none⟩) hWs).trans q0_8
 have q1_9:=(hb1.cell (p:=⟨w.heap.size,9,none⟩) hWs).trans q0_9
 have q1_10:=(hb1.cell (p:=⟨w.heap.size,10,none⟩) hWs).trans q0_10
 have q1_11:=(hb1.cell (p:=⟨w.heap.size,11,none⟩) hWs).trans q0_11
 have q1_12:=(hb1.cell (p:=⟨w.heap.size,12,none⟩) hWs).trans q0_12
 have q1_13:=(hb1.cell (p:=⟨w.heap.size,13,none⟩) hWs).trans q0_13
 have hz1:w.heap.size<w1.heap.size:=Nat.lt_of_lt_of_le hWs hb1.size
 have hbw1:=hbW.trans (hb1.mono (Nat.le_of_lt hWs))
 clear hb1 HW q0_5 q0_6 q0_7 q0_8 q0_9 q0_10 q0_11 q0_12 q0_13
 rcases hr1.out with rfl|⟨m1,rfl,hm1,hf1⟩
 ·clear hr1
  go_wp2
  go_ret
  exact⟨-1,rfl,.inl rfl,hbw1⟩
 ·replace hf1:=mkHid hf1
  clear hr1
  go_wp2_with fail
  refine(H5.out w1 hbw1 m1 (by omega)).mono ?_
  rintro e w2 ⟨r2,rfl,hr2,hb2⟩
  have q2_10:=(hb2.cell (p:=⟨w.heap.size,10,none⟩) hz1).trans q1_10
  have q2_11:=(hb2.cell (p:=⟨w.heap.size,11,none⟩) hz1).trans q1_11
  have q2_12:=(hb2.cell (p:=⟨w.heap.size,12,none⟩) hz1).trans q1_12
  have q2_13:=(hb2.cell (p:=⟨w.heap.size,13,none⟩) hz1).trans q1_13
  have hz2:w.heap.size<w2.heap.size:=Nat.lt_of_lt_of_le hz1 hb2.size
  have hbw2:=hbw1.trans (hb2.mono (Nat.le_of_lt hz1))
  clear hb2 q1_5 q1_6 q1_7 q1_8 q1_9 q1_10 q1_11 q1_12 q1_13
  rcases hr2.out with rfl|⟨m2,rfl,hm2,hf2⟩
  ·clear hr2
   go_wp2
   go_ret
   exact⟨-1,rfl,.inl rfl,hbw2⟩
  ·replace hf2:=mkHid hf2
   clear hr2
   go_wp2_with fail
   refine(H10.out w2 hbw2 m2 (by omega)).mono ?_
   rintro e w3 ⟨r3,rfl,hr3,hb3⟩
   have q3_11:=(hb3.cell (p:=⟨w.heap.size,11,none⟩) hz2).trans q2_11
   have q3_12:=(hb3.cell (p:=⟨w.heap.size,12,none⟩) hz2).trans q2_12
   have q3_13:=(hb3.cell (p:=⟨w.heap.size,13,none⟩) hz2).trans q2_13
   have hz3:w.heap.size<w3.heap.size:=Nat.lt_of_lt_of_le hz2 hb3.size
   have hbw3:=hbw2.trans (hb3.mono (Nat.le_of_lt hz2))
   clear hb3 q2_10 q2_11 q2_12 q2_13
   rcases hr3.out with rfl|⟨m3,rfl,hm3,hf3⟩
   ·clear hr3
    go_wp2
    go_ret
    exact⟨-1,rfl,.inl rfl,hbw3⟩
   ·replace hf3:=mkHid hf3
    clear hr3
    go_wp2_with fail
    refine(H11.out w3 hbw3 m3 (by omega)).mono ?_
    rintro e w4 ⟨r4,rfl,hr4,hb4⟩
    have hz4:w.heap.size<w4.heap.size:=Nat.lt_of_lt_of_le hz3 hb4.size
    have hbw4:=hbw3.trans (hb4.mono (Nat.le_of_lt hz3))
    clear hb4 q3_11 q3_12 q3_13
    rcases hr4.out with rfl|⟨m4,rfl,hm4,hf4⟩
    ·clear hr4
     go_wp2
     go_ret
     exact⟨-1,rfl,.inl rfl,hbw4⟩
    ·replace hf4:=mkHid hf4
     clear hr4
     go_wp2
     go_ret
     exact⟨_,rfl,.inr ⟨m4,rfl,by omega,hf1.out.1,hf1.out.2.1,hf1.out.2.2,hf2.out.1,hf2.out.2.1,hf2.out.2.2.1,hf2.out.2.2.2.1,hf2.out.2.2.2.2.1,hf2.out.2.2.2.2.2,hf3.out.1,hf3.out.2,hf4.out.1,hf4.out.2⟩,hbw4⟩
theorem lawToXWorldConfig (n:GWorldConfig)(u3:Value)(u6:Value)(u7:Value)(u8:Value)(u10:Value)(u13:Value)(lo:Nat)(w:World)(hI:GWorldConfigIn lo w.heap.size w n u3 u6 u7 u8 u10 u13)(hf:n.fits 1048576) :
  Calls Tryz.prog 6 #[GWorldConfigV n u3 u6 u7 u8 u10 u13] w fun e w'=>∃ v3 v6 v7 v8 v10 v13:Value,e=.returned (GWorldConfigV n v3 v6 v7 v8 v10 v13)∧Hid (GWorldConfigIn w.heap.size w'.heap.size w' n v3 v6 v7 v8 v10 v13)∧Below w.heap.size w w'∧Hid (Soft w.heap.size w'):=by
 obtain⟨⟨a3,c3,rfl,t3⟩,⟨a6,c6,rfl,t6⟩,⟨a7,c7,rfl,t7⟩,⟨a8,c8,rfl,t8⟩,⟨a10,c10,rfl,t10⟩,⟨a13,c13,rfl,t13⟩⟩:=hI
 obtain⟨f0_0,f3_0,f3_1,f5_0,f6_0,f6_1,f7_0,f7_1,f8_0,f10_0,f10_1,f13_0,f13_1⟩:=hf
 have H0:=mkHid fun (w':World) (hb:Below w.heap.size w w')=>lawToXTransferConfig n.transfer (.slice a3 n.transfer.users.length c3) lo w' ⟨⟨_,_,rfl,(t3.below hb (Nat.le_refl _)).mono (Nat.le_refl _) hb.size⟩⟩ ⟨f0_0,f3_0,f3_1⟩
 have H5:=mkHid fun (w':World) (hb:Below w.heap.size w w')=>lawToXQueueConfig n.queue (.slice a6 n.queue.aliases.length c6) (.slice a7 n.queue.mx.length c7) (.slice a8 n.queue.delays.length c8) lo w' ⟨⟨_,_,rfl,(t6.below hb (Nat.le_refl _)).mono (Nat.le_refl _) hb.size⟩,⟨_,_,rfl,(t7.below hb (Nat.le_refl _)).mono (Nat.le_refl _) hb.size⟩,⟨_,_,rfl,(t8.below hb (Nat.le_refl _)).mono (Nat.le_refl _) hb.size⟩⟩ ⟨f5_0,f6_0,f6_1,f7_0,f7_1,f8_0⟩
 have H10:=mkHid fun (w':World) (hb:Below w.heap.size w w')=>lawToSXWorldUser a10 n.users c10 lo w' ((t10.below hb (Nat.le_refl _)).mono (Nat.le_refl _) hb.size) f10_0 f10_1
 have H11:=mkHid fun (w':World) (hb:Below w.heap.size w w')=>lawToXScoreTable n.table (.slice a13 n.table.words.length c13) lo w' ⟨⟨_,_,rfl,(t13.below hb (Nat.le_refl _)).mono (Nat.le_refl _) hb.size⟩⟩ ⟨f13_0,f13_1⟩
 clear f0_0 f3_0 f3_1 f5_0 f6_0 f6_1 f7_0 f7_1 f8_0 f10_0 f10_1 f13_0 f13_1 t3 t6 t7 t8 t10 t13
 obtain⟨G,hG⟩:∃G,w.heap.size=G:=⟨_,rfl⟩
 obtain⟨V0,hV0⟩:∃W,W=((w.alloc (.cells #[.string n.transfer.locF,.bool n.transfer.relay,.int .i64 n.transfer.maxBytes,.slice a3 n.transfer.users.length c3,.int .i64 n.transfer.seed,.string n.queue.locF,.slice a6 n.queue.aliases.length c6,.slice a7 n.queue.mx.length c7,.slice a8 n.queue.delays.length c8,.int .i64 n.queue.maxAge,.slice a10 n.users.length c10,.int .i64 n.table.good,.int .i64 n.table.bad,.slice a13 n.table.words.length c13,.int .i64 n.percent] 35)).alloc (.cells #[.string ⟨#[]⟩,.bool false,.int .i64 0,.slice none 0 0,.int .i64 0,.string ⟨#[]⟩,.slice none 0 0,.slice none 0 0,.slice none 0 0,.int .i64 0,.slice none 0 0,.int .i64 0,.int .i64 0,.slice none 0 0,.int .i64 0] 50)).alloc (.cells #[.string ⟨#[]⟩,.bool false,.int .i64 0,.slice none 0 0,.int .i64 0,.string ⟨#[]⟩,.slice none 0 0,.slice none 0 0,.slice none 0 0,.int .i64 0,.slice none 0 0,.int .i64 0,.int .i64 0,.slice none 0 0,.int .i64 0] 50):=⟨_,rfl⟩
 obtain⟨hb0,hs0,hP0,hR0,hO0⟩:=three_blocks hG hV0
 have hSf:=mkHid (show Soft G V0 by rw[hV0,← hG];exact(((Soft.refl _).alloc _ _).alloc _ _).alloc _ _)
 have HV0:=mkHid hV0
 clear hV0
 have hG':=mkHid hG
 unfold GWorldConfigV
 go_enter Tryz.func6,Tryz.ntmps6
 go_wp2_with fail
 rw[← HV0.out]
 refine(H0.out V0 (by rw[hG];exact hb0)).mono ?_
 rintro e w1 ⟨y3,rfl,hTT0,hw1,hsf1⟩
 replace hSf:=mkHid (hSf.out.call hw1 hsf1.out)
 obtain⟨⟨b3,k3,hy3,hT3⟩⟩:=hTT0.out
 subst hy3
 replace hT3:=mkHid hT3
 clear hTT0
 obtain⟨g0,hg0⟩:∃g,V0.heap.size=g:=⟨_,rfl⟩
 rw[hg0] at hT3 hw1 hs0
 unfold GTransferConfigV
 have hw1s:=hw1.size
 rw[hg0] at hw1s
 have hP1a:=(hw1.block G (by omega)).trans hP0
 have hR1a:=(hw1.block (G+1) (by omega)).trans hR0
 have hO1a:=(hw1.block (G+1+1) (by omega)).trans hO0
 have p1_5:w1.cell? ⟨G,5,none⟩=some (.string n.queue.locF):=by simp[World.cell?,hP1a]
 have p1_6:w1.cell? ⟨G,6,none⟩=some (.slice a6 n.queue.aliases.length c6):=by simp[World.cell?,hP1a]
 have p1_7:w1.cell? ⟨G,7,none⟩=some (.slice a7 n.queue.mx.length c7):=by simp[World.cell?,hP1a]
 have p1_8:w1.cell? ⟨G,8,none⟩=some (.slice a8 n.queue.delays.length c8):=by simp[World.cell?,hP1a]
 have p1_9:w1.cell? ⟨G,9,none⟩=some (.int .i64 n.queue.maxAge):=by simp[World.cell?,hP1a]
 have x1_0:w1.cell? ⟨G+1+1,0,none⟩=some (.string ⟨#[]⟩):=by simp[World.cell?,hO1a]
 have z1_0:w1.frozen? ⟨G+1+1,0,none⟩=false:=by simp[World.frozen?,hO1a]
 have x1_1:w1.cell? ⟨G+1+1,1,none⟩=some (.bool false):=by simp[World.cell?,hO1a]
 have z1_1:w1.frozen? ⟨G+1+1,1,none⟩=false:=by simp[World.frozen?,hO1a]
 have x1_2:w1.cell? ⟨G+1+1,2,none⟩=some (.int .i64 0):=by simp[World.cell?,hO1a]
 have z1_2:w1.frozen? ⟨G+1+1,2,none⟩=false:=by simp[World.frozen?,hO1a]
 have x1_3:w1.cell? ⟨G+1+1,3,none⟩=some (.slice none 0 0):=by simp[World.cell?,hO1a]
 have z1_3:w1.frozen? ⟨G+1+1,3,none⟩=false:=by simp[World.frozen?,hO1a]
 have x1_4:w1.cell? ⟨G+1+1,4,none⟩=some (.int .i64 0):=by simp[World.cell?,hO1a]
 have z1_4:w1.frozen? ⟨G+1+1,4,none⟩=false:=by simp[World.frozen?,hO1a]
 obtain⟨V1,hV1⟩:∃V,V=((((w1.setCell ⟨G+1+1,0,none⟩ (.string n.transfer.locF)).setCell ⟨G+1+1,1,none⟩ (.bool n.transfer.relay)).setCell ⟨G+1+1,2,none⟩ (.int .i64 n.transfer.maxBytes)).setCell ⟨G+1+1,3,none⟩ (.slice b3 n.transfer.users.length k3)).setCell ⟨G+1+1,4,none⟩ (.int .i64 n.transfer.seed):=⟨_,rfl⟩
 replace hSf:=mkHid (show Soft G V1 by rw[hV1];exact(((((hSf.out.set _ _ _).set _ _ _).set _ _ _).set _ _ _).set _ _ _))
 have hgr1:w1.grownBy V1 (some (G+1+1)):=by rw[hV1];exact grG_trans (grG_trans (grG_trans (grG_trans (grG_set _ _ _ _) (grG_set _ _ _ _)) (grG_set _ _ _ _)) (grG_set _ _ _ _)) (grG_set _ _ _ _)
 have hP1:=(hgr1.block G (by omega) (by simp;omega)).trans hP1a
 have hR1:=(hgr1.block (G+1) (by omega) (by simp)).trans hR1a
 have hO1:V1.heap[G+1+1]?=some (.cells #[.string n.transfer.locF,.bool n.transfer.relay,.int .i64 n.transfer.maxBytes,.slice b3 n.transfer.users.length k3,.int .i64 n.transfer.seed,.string ⟨#[]⟩,.slice none 0 0,.slice none 0 0,.slice none 0 0,.int .i64 0,.slice none 0 0,.int .i64 0,.int .i64 0,.slice none 0 0,.int .i64 0] 50 (0,0)):=by rw[hV1];simp[World.setCell,Array.getElem?_modify,hO1a]
 have hs1:G+3≤V1.heap.size:=Nat.le_trans (Nat.le_trans hs0 hw1s) hgr1.size
 have hb1:Below G w V1:=(hb0.trans (hw1.mono (by omega))).grown hgr1 (by omega) (fun k hk=>by cases hk;omega)
 replace hT3:=mkHid ((hT3.out.same (Same.gr hgr1 (by omega) (Nat.le_refl _))).mono (show G+3≤_ by omega) hgr1.size)
 replace hV1:=mkHid hV1
 have HV1:=hV1
 clear hP1a hR1a hO1a hP0 hR0 hO0 hw1 HV0 hgr1 hb0
 clear hs0 hg0 hw1s
 go_wp2_with fail
 rw[← HV1.out]
 refine(H5.out V1 (by rw[hG];exact hb1)).mono ?_
 rintro e w2 ⟨y6,y7,y8,rfl,hTT5,hw2,hsf2⟩
 clear x1_0 x1_1 x1_2 x1_3 x1_4 z1_0 z1_1 z1_2 z1_3 z1_4 p1_5 p1_6 p1_7 p1_8 p1_9
 replace hSf:=mkHid (hSf.out.call hw2 hsf2.out)
 obtain⟨⟨b6,k6,hy6,hT6⟩,⟨b7,k7,hy7,hT7⟩,⟨b8,k8,hy8,hT8⟩⟩:=hTT5.out
 subst hy6 hy7 hy8
 replace hT6:=mkHid hT6
 replace hT7:=mkHid hT7
 replace hT8:=mkHid hT8
 clear hTT5
 obtain⟨g5,hg5⟩:∃g,V1.heap.size=g:=⟨_,rfl⟩
 rw[hg5] at hT6 hT7 hT8 hw2 hs1
 unfold GQueueConfigV
 rw[hg5] at hT3
 have hw2s:=hw2.size
 rw[hg5] at hw2s
 have hP2a:=(hw2.block G (by omega)).trans hP1
 have hR2a:=(hw2.block (G+1) (by omega)).trans hR1
 have hO2a:=(hw2.block (G+1+1) (by omega)).trans hO1
 have p2_10:w2.cell? ⟨G,10,none⟩=some (.slice a10 n.users.length c10):=by simp[World.cell?,hP2a]
 have x2_5:w2.cell? ⟨G+1+1,5,none⟩=some (.string ⟨#[]⟩):=by simp[World.cell?,hO2a]
 have z2_5:w2.frozen? ⟨G+1+1,5,none⟩=false:=by simp[World.frozen?,hO2a]
 have x2_6:w2.cell? ⟨G+1+1,6,none⟩=some (.slice none 0 0):=by simp[World.cell?,hO2a]
 have z2_6:w2.frozen? ⟨G+1+1,6,none⟩=false:=by simp[World.frozen?,hO2a]
 have x2_7:w2.cell? ⟨G+1+1,7,none⟩=some (.slice none 0 0):=by simp[World.cell?,hO2a]
 have z2_7:w2.frozen? ⟨G+1+1,7,none⟩=false:=by simp[World.frozen?,hO2a]
 have x2_8:w2.cell? ⟨G+1+1,8,none⟩=some (.slice none 0 0):=by simp[World.cell?,hO2a]
 have z2_8:w2.frozen? ⟨G+1+1,8,none⟩=false:=by simp[World.frozen?,hO2a]
 have x2_9:w2.cell? ⟨G+1+1,9,none⟩=some (.int .i64 0):=by simp[World.cell?,hO2a]
 have z2_9:w2.frozen? ⟨G+1+1,9,none⟩=false:=by simp[World.frozen?,hO2a]
 obtain⟨V2,hV2⟩:∃V,V=((((w2.setCell ⟨G+1+1,5,none⟩ (.string n.queue.locF)).setCell ⟨G+1+1,6,none⟩ (.slice b6 n.queue.aliases.length k6)).setCell ⟨G+1+1,7,none⟩ (.slice b7 n.queue.mx.length k7)).setCell ⟨G+1+1,8,none⟩ (.slice b8 n.queue.delays.length k8)).setCell ⟨G+1+1,9,none⟩ (.int .i64 n.queue.maxAge):=⟨_,rfl⟩
 replace hSf:=mkHid (show Soft G V2 by rw[hV2];exact(((((hSf.out.set _ _ _).set _ _ _).set _ _ _).set _ _ _).set _ _ _))
 have hgr2:w2.grownBy V2 (some (G+1+1)):=by rw[hV2];exact grG_trans (grG_trans (grG_trans (grG_trans (grG_set _ _ _ _) (grG_set _ _ _ _)) (grG_set _ _ _ _)) (grG_set _ _ _ _)) (grG_set _ _ _ _)
 have hP2:=(hgr2.block G (by omega) (by simp;omega)).trans hP2a
 have hR2:=(hgr2.block (G+1) (by omega) (by simp)).trans hR2a
 have hO2:V2.heap[G+1+1]?=some (.cells #[.string n.transfer.locF,.bool n.transfer.relay,.int .i64 n.transfer.maxBytes,.slice b3 n.transfer.users.length k3,.int .i64 n.transfer.seed,.string n.queue.locF,.slice b6 n.queue.aliases.length k6,.slice b7 n.queue.mx.length k7,.slice b8 n.queue.delays.length k8,.int .i64 n.queue.maxAge,.slice none 0 0,.int .i64 0,.int .i64 0,.slice none 0 0,.int .i64 0] 50 (0,0)):=by rw[hV2];simp[World.setCell,Array.getElem?_modify,hO2a]
 have hs2:G+3≤V2.heap.size:=Nat.le_trans (Nat.le_trans hs1 hw2s) hgr2.size
 have hb2:Below G w V2:=(hb1.trans (hw2.mono (by omega))).grown hgr2 (by omega) (fun k hk=>by cases hk;omega)
 have hT3:=mkHid (((hT3.out.below hw2 (Nat.le_refl _)).mono (Nat.le_refl _) hw2s |>.same (Same.gr hgr2 (by omega) (Nat.le_refl _))).mono (Nat.le_refl _) hgr2.size)
 replace hT6:=mkHid ((hT6.out.same (Same.gr hgr2 (by omega) (Nat.le_refl _))).mono (show G+3≤_ by omega) hgr2.size)
 replace hT7:=mkHid ((hT7.out.same (Same.gr hgr2 (by omega) (Nat.le_refl _))).mono (show G+3≤_ by omega) hgr2.size)
 replace hT8:=mkHid ((hT8.out.same (Same.gr hgr2 (by omega) (Nat.le_refl _))).mono (show G+3≤_ by omega) hgr2.size)
 replace hV2:=mkHid hV2
 have HV2:=hV2
 clear hP2a hR2a hO2a hP1 hR1 hO1 hw2 HV1 hgr2 hb1
 clear hs1 hg5 hw2s
 go_wp2_with fail
 rw[← HV2.out]
 refine(H10.out V2 (by rw[hG];exact hb2)).mono ?_
 rintro e w3 ⟨rfl,hT10,hw3,hsf3⟩
 clear x2_5 x2_6 x2_7 x2_8 x2_9 z2_5 z2_6 z2_7 z2_8 z2_9 p2_10
 replace hSf:=mkHid (hSf.out.call hw3 hsf3.out)
 obtain⟨g10,hg10⟩:∃g,V2.heap.size=g:=⟨_,rfl⟩
 rw[hg10] at hT10 hw3 hs2 ⊢
 rw[hg10] at hT3
 rw[hg10] at hT6
 rw[hg10] at hT7
 rw[hg10] at hT8
 have hw3s:=hw3.size
 rw[hg10] at hw3s
 have hP3a:=(hw3.block G (by omega)).trans hP2
 have hR3a:=(hw3.block (G+1) (by omega)).trans hR2
 have hO3a:=(hw3.block (G+1+1) (by omega)).trans hO2
 have p3_11:w3.cell? ⟨G,11,none⟩=some (.int .i64 n.table.good):=by simp[World.cell?,hP3a]
 have p3_12:w3.cell? ⟨G,12,none⟩=some (.int .i64 n.table.bad):=by simp[World.cell?,hP3a]
 have p3_13:w3.cell? ⟨G,13,none⟩=some (.slice a13 n.table.words.length c13):=by simp[World.cell?,hP3a]
 have x3_10:w3.cell? ⟨G+1+1,10,none⟩=some (.slice none 0 0):=by simp[World.cell?,hO3a]
 have z3_10:w3.frozen? ⟨G+1+1,10,none⟩=false:=by simp[World.frozen?,hO3a]
 obtain⟨V3,hV3⟩:∃V,V=w3.setCell ⟨G+1+1,10,none⟩ (.slice (some ⟨g10,0,none⟩) n.users.length n.users.length):=⟨_,rfl⟩
 replace hSf:=mkHid (show Soft G V3 by rw[hV3];exact(hSf.out.set _ _ _))
 have hgr3:w3.grownBy V3 (some (G+1+1)):=by rw[hV3];exact grG_set _ _ _ _
 have hP3:=(hgr3.block G (by omega) (by simp;omega)).trans hP3a
 have hR3:=(hgr3.block (G+1) (by omega) (by simp)).trans hR3a
 have hO3:V3.heap[G+1+1]?=some (.cells #[.string n.transfer.locF,.bool n.transfer.relay,.int .i64 n.transfer.maxBytes,.slice b3 n.transfer.users.length k3,.int .i64 n.transfer.seed,.string n.queue.locF,.slice b6 n.queue.aliases.length k6,.slice b7 n.queue.mx.length k7,.slice b8 n.queue.delays.length k8,.int .i64 n.queue.maxAge,.slice (some ⟨g10,0,none⟩) n.users.length n.users.length,.int .i64 0,.int .i64 0,.slice none 0 0,.int .i64 0] 50 (0,0)):=by rw[hV3];simp[World.setCell,Array.getElem?_modify,hO3a]
 have hs3:G+3≤V3.heap.size:=Nat.le_trans (Nat.le_trans hs2 hw3s) hgr3.size
 have hb3:Below G w V3:=(hb2.trans (hw3.mono (by omega))).grown hgr3 (by omega) (fun k hk=>by cases hk;omega)
 have hT3:=mkHid (((hT3.out.below hw3 (Nat.le_refl _)).mono (Nat.le_refl _) hw3s |>.same (Same.gr hgr3 (by omega) (Nat.le_refl _))).mono (Nat.le_refl _) hgr3.size)
 have hT6:=mkHid (((hT6.out.below hw3 (Nat.le_refl _)).mono (Nat.le_refl _) hw3s |>.same (Same.gr hgr3 (by omega) (Nat.le_refl _))).mono (Nat.le_refl _) hgr3.size)
 have hT7:=mkHid (((hT7.out.below hw3 (Nat.le_refl _)).mono (Nat.le_refl _) hw3s |>.same (Same.gr hgr3 (by omega) (Nat.le_refl _))).mono (Nat.le_refl _) hgr3.size)
 have hT8:=mkHid (((hT8.out.below hw3 (Nat.le_refl _)).mono (Nat.le_refl _) hw3s |>.same (Same.gr hgr3 (by omega) (Nat.le_refl _))).mono (Nat.le_refl _) hgr3.size)
 replace hT10:=mkHid ((hT10.out.same (Same.gr hgr3 (by omega) (Nat.le_refl _))).mono (show G+3≤_ by omega) hgr3.size)
 replace hV3:=mkHid hV3
 have HV3:=hV3
 clear hP3a hR3a hO3a hP2 hR2 hO2 hw3 HV2 hgr3 hb2
 clear hs2 hg10 hw3s
 go_wp2_with fail
 rw[← HV3.out]
 refine(H11.out V3 (by rw[hG];exact hb3)).mono ?_
 rintro e w4 ⟨y13,rfl,hTT11,hw4,hsf4⟩
 clear x3_10 z3_10 p3_11 p3_12 p3_13
 replace hSf:=mkHid (hSf.out.call hw4 hsf4.out)
 obtain⟨⟨b13,k13,hy13,hT13⟩⟩:=hTT11.out
 subst hy13
 replace hT13:=mkHid hT13
 clear hTT11
 obtain⟨g11,hg11⟩:∃g,V3.heap.size=g:=⟨_,rfl⟩
 rw[hg11] at hT13 hw4 hs3
 unfold GScoreTableV
 rw[hg11] at hT3
 rw[hg11] at hT6
 rw[hg11] at hT7
 rw[hg11] at hT8
 rw[hg11] at hT10
 have hw4s:=hw4.size
 rw[hg11] at hw4s
 have hP4a:=(hw4.block G (by omega)).trans hP3
 have hR4a:=(hw4.block (G+1) (by omega)).trans hR3
 have hO4a:=(hw4.block (G+1+1) (by omega)).trans hO3
 have p4_14:w4.cell? ⟨G,14,none⟩=some (.int .i64 n.percent):=by simp[World.cell?,hP4a]
 have x4_11:w4.cell? ⟨G+1+1,11,none⟩=some (.int .i64 0):=by simp[World.cell?,hO4a]
 have z4_11:w4.frozen? ⟨G+1+1,11,none⟩=false:=by simp[World.frozen?,hO4a]
 have x4_12:w4.cell? ⟨G+1+1,12,none⟩=some (.int .i64 0):=by simp[World.cell?,hO4a]
 have z4_12:w4.frozen? ⟨G+1+1,12,none⟩=false:=by simp[World.frozen?,hO4a]
 have x4_13:w4.cell? ⟨G+1+1,13,none⟩=some (.slice none 0 0):=by simp[World.cell?,hO4a]
 have z4_13:w4.frozen? ⟨G+1+1,13,none⟩=false:=by simp[World.frozen?,hO4a]
 have x4_14:w4.cell? ⟨G+1+1,14,none⟩=some (.int .i64 0):=by simp[World.cell?,hO4a]
 have z4_14:w4.frozen? ⟨G+1+1,14,none⟩=false:=by simp[World.frozen?,hO4a]
 obtain⟨V4,hV4⟩:∃V,V=(((w4.setCell ⟨G+1+1,11,none⟩ (.int .i64 n.table.good)).setCell ⟨G+1+1,12,none⟩ (.int .i64 n.table.bad)).setCell ⟨G+1+1,13,none⟩ (.slice b13 n.table.words.length k13)).setCell ⟨G+1+1,14,none⟩ (.int .i64 n.percent):=⟨_,rfl⟩
 replace hSf:=mkHid (show Soft G V4 by rw[hV4];exact((((hSf.out.set _ _ _).set _ _ _).set _ _ _).set _ _ _))
 have hgr4:w4.grownBy V4 (some (G+1+1)):=by rw[hV4];exact grG_trans (grG_trans (grG_trans (grG_set _ _ _ _) (grG_set _ _ _ _)) (grG_set _ _ _ _)) (grG_set _ _ _ _)
 have hP4:=(hgr4.block G (by omega) (by simp;omega)).trans hP4a
 have hR4:=(hgr4.block (G+1) (by omega) (by simp)).trans hR4a
 have hO4:V4.heap[G+1+1]?=some (.cells #[.string n.transfer.locF,.bool n.transfer.relay,.int .i64 n.transfer.maxBytes,.slice b3 n.transfer.users.length k3,.int .i64 n.transfer.seed,.string n.queue.locF,.slice b6 n.queue.aliases.length k6,.slice b7 n.queue.mx.length k7,.slice b8 n.queue.delays.length k8,.int .i64 n.queue.maxAge,.slice (some ⟨g10,0,none⟩) n.users.length n.users.length,.int .i64 n.table.good,.int .i64 n.table.bad,.slice b13 n.table.words.length k13,.int .i64 n.percent] 50 (0,0)):=by rw[hV4];simp[World.setCell,Array.getElem?_modify,hO4a]
 have hs4:G+3≤V4.heap.size:=Nat.le_trans (Nat.le_trans hs3 hw4s) hgr4.size
 have hb4:Below G w V4:=(hb3.trans (hw4.mono (by omega))).grown hgr4 (by omega) (fun k hk=>by cases hk;omega)
 have hT3:=mkHid (((hT3.out.below hw4 (Nat.le_refl _)).mono (Nat.le_refl _) hw4s |>.same (Same.gr hgr4 (by omega) (Nat.le_refl _))).mono (Nat.le_refl _) hgr4.size)
 have hT6:=mkHid (((hT6.out.below hw4 (Nat.le_refl _)).mono (Nat.le_refl _) hw4s |>.same (Same.gr hgr4 (by omega) (Nat.le_refl _))).mono (Nat.le_refl _) hgr4.size)
 have hT7:=mkHid (((hT7.out.below hw4 (Nat.le_refl _)).mono (Nat.le_refl _) hw4s |>.same (Same.gr hgr4 (by omega) (Nat.le_refl _))).mono (Nat.le_refl _) hgr4.size)
 have hT8:=mkHid (((hT8.out.below hw4 (Nat.le_refl _)).mono (Nat.le_refl _) hw4s |>.same (Same.gr hgr4 (by omega) (Nat.le_refl _))).mono (Nat.le_refl _) hgr4.size)
 have hT10:=mkHid (((hT10.out.below hw4 (Nat.le_refl _)).mono (Nat.le_refl _) hw4s |>.same (Same.gr hgr4 (by omega) (Nat.le_refl _))).mono (Nat.le_refl _) hgr4.size)
 replace hT13:=mkHid ((hT13.out.same (Same.gr hgr4 (by omega) (Nat.le_refl _))).mono (show G+3≤_ by omega) hgr4.size)
 replace hV4:=mkHid hV4
 have HV4:=hV4
 clear hP4a hR4a hO4a hP3 hR3 hO3 hw4 HV3 hgr4 hb3
 clear hs3 hg11 hw4s
 have hgz:=grown_setRow V4 (G+1) #[.string n.transfer.locF,.bool n.transfer.relay,.int .i64 n.transfer.maxBytes,.slice b3 n.transfer.users.length k3,.int .i64 n.transfer.seed,.string n.queue.locF,.slice b6 n.queue.aliases.length k6,.slice b7 n.queue.mx.length k7,.slice b8 n.queue.delays.length k8,.int .i64 n.queue.maxAge,.slice (some ⟨g10,0,none⟩) n.users.length n.users.length,.int .i64 n.table.good,.int .i64 n.table.bad,.slice b13 n.table.words.length k13,.int .i64 n.percent]
 have hSz:=mkHid (hSf.out.setRow (G+1) #[.string n.transfer.locF,.bool n.transfer.relay,.int .i64 n.transfer.maxBytes,.slice b3 n.transfer.users.length k3,.int .i64 n.transfer.seed,.string n.queue.locF,.slice b6 n.queue.aliases.length k6,.slice b7 n.queue.mx.length k7,.slice b8 n.queue.delays.length k8,.int .i64 n.queue.maxAge,.slice (some ⟨g10,0,none⟩) n.users.length n.users.length,.int .i64 n.table.good,.int .i64 n.table.bad,.slice b13 n.table.words.length k13,.int .i64 n.percent])
 clear hSf
 have hbz:=mkHid (hb4.grown hgz (by omega) (fun k hk=>by cases hk;omega))
 replace hT3:=mkHid ((hT3.out.same (Same.gr hgz (by omega) (Nat.le_refl _))).mono (show G≤_ by omega) hgz.size)
 replace hT6:=mkHid ((hT6.out.same (Same.gr hgz (by omega) (Nat.le_refl _))).mono (show G≤_ by omega) hgz.size)
 replace hT7:=mkHid ((hT7.out.same (Same.gr hgz (by omega) (Nat.le_refl _))).mono (show G≤_ by omega) hgz.size)
 replace hT8:=mkHid ((hT8.out.same (Same.gr hgz (by omega) (Nat.le_refl _))).mono (show G≤_ by omega) hgz.size)
 replace hT10:=mkHid ((hT10.out.same (Same.gr hgz (by omega) (Nat.le_refl _))).mono (show G≤_ by omega) hgz.size)
 replace hT13:=mkHid ((hT13.out.same (Same.gr hgz (by omega) (Nat.le_refl _))).mono (show G≤_ by omega) hgz.size)
 rw[HV4.out] at hT3 hT6 hT7 hT8 hT10 hT13 hbz hSz hO4 hR4
 clear hgz HV4 hV4 hb4 hP4 hs4
 go_upto_region 7 with fail
 go_wp2_with (first|(refine wpL_load_row rfl 50 _ rfl (G+1+1) _ 50 (0,0) _ rfl hO4 Tryz.underlying50 rfl (by kernel_rfl) ?_)|(refine wpL_store_row rfl 50 _ _ rfl (G+1) _ rfl rfl 50 _ hR4 (by kernel_rfl) rfl (by simp[Value.oneCell']) ?_)|go_in)
 refine bodyPost_ret (v:=.agg #[.string n.transfer.locF,.bool n.transfer.relay,.int .i64 n.transfer.maxBytes,.slice b3 n.transfer.users.length k3,.int .i64 n.transfer.seed,.string n.queue.locF,.slice b6 n.queue.aliases.length k6,.slice b7 n.queue.mx.length k7,.slice b8 n.queue.delays.length k8,.int .i64 n.queue.maxAge,.slice (some ⟨g10,0,none⟩) n.users.length n.users.length,.int .i64 n.table.good,.int .i64 n.table.bad,.slice b13 n.table.words.length k13,.int .i64 n.percent]) (results_cell_row Tryz.results6 _ _ (G+1) 50 _ (0,0) _ rfl (setRow_heap _ _ _ _ _ _ hR4) Tryz.underlying50 rfl (by kernel_rfl)) rfl ?_
 rw[hG]
 exact⟨_,_,_,_,_,_,rfl,⟨⟨_,_,rfl,hT3.out⟩,⟨_,_,rfl,hT6.out⟩,⟨_,_,rfl,hT7.out⟩,⟨_,_,rfl,hT8.out⟩,⟨_,_,rfl,hT10.out⟩,⟨_,_,rfl,hT13.out⟩⟩,hbz.out,hSz⟩
theorem lawToWorldConfig (n:GWorldConfig)(u3:Value)(u6:Value)(u7:Value)(u8:Value)(u10:Value)(u13:Value)(lo:Nat)(w:World)(hI:GWorldConfigIn lo w.heap.size w n u3 u6 u7 u8 u10 u13)(hf:n.fits 1048576) :
  Calls Tryz.prog 6 #[GWorldConfigV n u3 u6 u7 u8 u10 u13] w fun e w'=>∃ v3 v6 v7 v8 v10 v13:Value,e=.returned (GWorldConfigV n v3 v6 v7 v8 v10 v13)∧Hid (GWorldConfigIn w.heap.size w'.heap.size w' n v3 v6 v7 v8 v10 v13)∧Below w.heap.size w w':=
 (lawToXWorldConfig n u3 u6 u7 u8 u10 u13 lo w hI hf).mono fun _ _ ⟨v3,v6,v7,v8,v10,v13,h1,h2,h3,_⟩=>⟨v3,v6,v7,v8,v10,v13,h1,h2,h3⟩
theorem lawEqWorldConfig (n:GWorldConfig)(v3 v6 v7 v8 v10 v13:Value)(u3 u6 u7 u8 u10 u13:Value)(lo lo':Nat)(w:World)(hI:GWorldConfigIn lo w.heap.size w n v3 v6 v7 v8 v10 v13)(hJ:GWorldConfigIn lo' w.heap.size w n u3 u6 u7 u8 u10 u13)(hf:n.fits 1048576) :
  Calls Tryz.prog 8 #[GWorldConfigV n v3 v6 v7 v8 v10 v13,GWorldConfigV n u3 u6 u7 u8 u10 u13] w fun e w'=>e=.returned (.bool true)∧Below w.heap.size w w':=by
 obtain⟨⟨a3,c3,rfl,t3⟩,⟨a6,c6,rfl,t6⟩,⟨a7,c7,rfl,t7⟩,⟨a8,c8,rfl,t8⟩,⟨a10,c10,rfl,t10⟩,⟨a13,c13,rfl,t13⟩⟩:=hI
 obtain⟨⟨b3,d3,rfl,s3⟩,⟨b6,d6,rfl,s6⟩,⟨b7,d7,rfl,s7⟩,⟨b8,d8,rfl,s8⟩,⟨b10,d10,rfl,s10⟩,⟨b13,d13,rfl,s13⟩⟩:=hJ
 obtain⟨f0_0,f3_0,f3_1,f5_0,f6_0,f6_1,f7_0,f7_1,f8_0,f10_0,f10_1,f13_0,f13_1⟩:=hf
 have H0:=mkHid fun (w':World) (hb:Below w.heap.size w w')=>lawEqTransferConfig n.transfer (.slice a3 n.transfer.users.length c3) (.slice b3 n.transfer.users.length d3) lo lo' w' ⟨⟨_,_,rfl,(t3.below hb (Nat.le_refl _)).mono (Nat.le_refl _) hb.size⟩⟩ ⟨⟨_,_,rfl,(s3.below hb (Nat.le_refl _)).mono (Nat.le_refl _) hb.size⟩⟩ ⟨f0_0,f3_0,f3_1⟩
 have H5:=mkHid fun (w':World) (hb:Below w.heap.size w w')=>lawEqQueueConfig n.queue (.slice a6 n.queue.aliases.length c6) (.slice a7 n.queue.mx.length c7) (.slice a8 n.queue.delays.length c8) (.slice b6 n.queue.aliases.length d6) (.slice b7 n.queue.mx.length d7) (.slice b8 n.queue.delays.length d8) lo lo' w' ⟨⟨_,_,rfl,(t6.below hb (Nat.le_refl _)).mono (Nat.le_refl _) hb.size⟩,⟨_,_,rfl,(t7.below hb (Nat.le_refl _)).mono (Nat.le_refl _) hb.size⟩,⟨_,_,rfl,(t8.below hb (Nat.le_refl _)).mono (Nat.le_refl _) hb.size⟩⟩ ⟨⟨_,_,rfl,(s6.below hb (Nat.le_refl _)).mono (Nat.le_refl _) hb.size⟩,⟨_,_,rfl,(s7.below hb (Nat.le_refl _)).mono (Nat.le_refl _) hb.size⟩,⟨_,_,rfl,(s8.below hb (Nat.le_refl _)).mono (Nat.le_refl _) hb.size⟩⟩ ⟨f5_0,f6_0,f6_1,f7_0,f7_1,f8_0⟩
 have H10:=mkHid fun (w':World) (hb:Below w.heap.size w w')=>lawEqSWorldUser a10 b10 n.users c10 d10 lo lo' w' ((t10.below hb (Nat.le_refl _)).mono (Nat.le_refl _) hb.size) ((s10.below hb (Nat.le_refl _)).mono (Nat.le_refl _) hb.size) f10_0 f10_1
 have H11:=mkHid fun (w':World) (hb:Below w.heap.size w w')=>lawEqScoreTable n.table (.slice a13 n.table.words.length c13) (.slice b13 n.table.words.length d13) lo lo' w' ⟨⟨_,_,rfl,(t13.below hb (Nat.le_refl _)).mono (Nat.le_refl _) hb.size⟩⟩ ⟨⟨_,_,rfl,(s13.below hb (Nat.le_refl _)).mono (Nat.le_refl _) hb.size⟩⟩ ⟨f13_0,f13_1⟩
 clear f0_0 f3_0 f3_1 f5_0 f6_0 f6_1 f7_0 f7_1 f8_0 f10_0 f10_1 f13_0 f13_1 t3 s3 t6 s6 t7 s7 t8 s8 t10 s10 t13 s13
 unfold GWorldConfigV
 obtain⟨W0,hW⟩:∃W,W=(w.alloc (.cells #[.string n.transfer.locF,.bool n.transfer.relay,.int .i64 n.transfer.maxBytes,.slice a3 n.transfer.users.length c3,.int .i64 n.transfer.seed,.string n.queue.locF,.slice a6 n.queue.aliases.length c6,.slice a7 n.queue.mx.length c7,.slice a8 n.queue.delays.length c8,.int .i64 n.queue.maxAge,.slice a10 n.users.length c10,.int .i64 n.table.good,.int .i64 n.table.bad,.slice a13 n.table.words.length c13,.int .i64 n.percent] 50)).alloc (.cells #[.string n.transfer.locF,.bool n.transfer.relay,.int .i64 n.transfer.maxBytes,.slice b3 n.transfer.users.length d3,.int .i64 n.transfer.seed,.string n.queue.locF,.slice b6 n.queue.aliases.length d6,.slice b7 n.queue.mx.length d7,.slice b8 n.queue.delays.length d8,.int .i64 n.queue.maxAge,.slice b10 n.users.length d10,.int .i64 n.table.good,.int .i64 n.table.bad,.slice b13 n.table.words.length d13,.int .i64 n.percent] 50):=⟨_,rfl⟩
 obtain⟨hb0,hs0,hA0,hB0⟩:=two_blocks hW
 have HW:=mkHid hW
 clear hW
 go_enter Tryz.func8,Tryz.ntmps8
 go_wp2_with fail
 rw[← HW.out]
 refine(H0.out W0 hb0).mono ?_
 rintro e W1 ⟨rfl,hw1⟩
 have hw1s:=hw1.size
 have hA1:=(hw1.block w.heap.size (by omega)).trans hA0
 have hB1:=(hw1.block (w.heap.size+1) (by omega)).trans hB0
 have hb1:=hb0.trans (hw1.mono (by omega))
 have hs1:w.heap.size+2≤W1.heap.size:=Nat.le_trans hs0 hw1s
 have p1_5:W1.cell? ⟨w.heap.size,5,none⟩=some (.string n.queue.locF):=by simp[World.cell?,hA1]
 have q1_5:W1.cell? ⟨w.heap.size+1,5,none⟩=some (.string n.queue.locF):=by simp[World.cell?,hB1]
 have p1_6:W1.cell? ⟨w.heap.size,6,none⟩=some (.slice a6 n.queue.aliases.length c6):=by simp[World.cell?,hA1]
 have q1_6:W1.cell? ⟨w.heap.size+1,6,none⟩=some (.slice b6 n.queue.aliases.length d6):=by simp[World.cell?,hB1]
 have p1_7:W1.cell? ⟨w.heap.size,7,none⟩=some (.slice a7 n.queue.mx.length c7):=by simp[World.cell?,hA1]
 have q1_7:W1.cell? ⟨w.heap.size+1,7,none⟩=some (.slice b7 n.queue.mx.length d7):=by simp[World.cell?,hB1]
 have p1_8:W1.cell? ⟨w.heap.size,8,none⟩=some (.slice a8 n.queue.delays.length c8):=by simp[World.cell?,hA1]
 have q1_8:W1.cell? ⟨w.heap.size+1,8,none⟩=some (.slice b8 n.queue.delays.length d8):=by simp[World.cell?,hB1]
 have p1_9:W1.cell? ⟨w.heap.size,9,none⟩=some (.int .i64 n.queue.maxAge):=by simp[World.cell?,hA1]
 have q1_9:W1.cell? ⟨w.heap.size+1,9,none⟩=some (.int .i64 n.queue.maxAge):=by simp[World.cell?,hB1]
 clear hA0 hB0 hw1 hs0 hb0 hw1s HW
 go_wp2_with fail
 refine(H5.out W1 hb1).mono ?_
 rintro e W2 ⟨rfl,hw2⟩
 have hw2s:=hw2.size
 have hA2:=(hw2.block w.heap.size (by omega)).trans hA1
 have hB2:=(hw2.block (w.heap.size+1) (by omega)).trans hB1
 have hb2:=hb1.trans (hw2.mono (by omega))
 have hs2:w.heap.size+2≤W2.heap.size:=Nat.le_trans hs1 hw2s
 have p2_10:W2.cell? ⟨w.heap.size,10,none⟩=some (.slice a10 n.users.length c10):=by simp[World.cell?,hA2]
 have q2_10:W2.cell? ⟨w.heap.size+1,10,none⟩=some (.slice b10 n.users.length d10):=by simp[World.cell?,hB2]
 clear hA1 hB1 hw2 hs1 hb1 hw2s
 clear p1_5 q1_5 p1_6 q1_6 p1_7 q1_7 p1_8 q1_8 p1_9 q1_9
 go_wp2_with fail
 refine(H10.out W2 hb2).mono ?_
 rintro e W3 ⟨rfl,hw3⟩
 have hw3s:=hw3.size
 have hA3:=(hw3.block w.heap.size (by omega)).trans hA2
 have hB3:=(hw3.block (w.heap.size+1) (by omega)).trans hB2
 have hb3:=hb2.trans (hw3.mono (by omega))
 have hs3:w.heap.size+2≤W3.heap.size:=Nat.le_trans hs2 hw3s
 have p3_11:W3.cell? ⟨w.heap.size,11,none⟩=some (.int .i64 n.table.good):=by simp[World.cell?,hA3]
 have q3_11:W3.cell? ⟨w.heap.size+1,11,none⟩=some (.int .i64 n.table.good):=by simp[World.cell?,hB3]
 have p3_12:W3.cell? ⟨w.heap.size,12,none⟩=some (.int .i64 n.table.bad):=by simp[World.cell?,hA3]
 have q3_12:W3.cell? ⟨w.heap.size+1,12,none⟩=some (.int .i64 n.table.bad):=by simp[World.cell?,hB3]
 have p3_13:W3.cell? ⟨w.heap.size,13,none⟩=some (.slice a13 n.table.words.length c13):=by simp[World.cell?,hA3]
 have q3_13:W3.cell? ⟨w.heap.size+1,13,none⟩=some (.slice b13 n.table.words.length d13):=by simp[World.cell?,hB3]
 clear hA2 hB2 hw3 hs2 hb2 hw3s
 clear p2_10 q2_10
 go_wp2_with fail
 refine(H11.out W3 hb3).mono ?_
 rintro e W4 ⟨rfl,hw4⟩
 have hw4s:=hw4.size
 have hA4:=(hw4.block w.heap.size (by omega)).trans hA3
 have hB4:=(hw4.block (w.heap.size+1) (by omega)).trans hB3
 have hb4:=hb3.trans (hw4.mono (by omega))
 have hs4:w.heap.size+2≤W4.heap.size:=Nat.le_trans hs3 hw4s
 have p4_14:W4.cell? ⟨w.heap.size,14,none⟩=some (.int .i64 n.percent):=by simp[World.cell?,hA4]
 have q4_14:W4.cell? ⟨w.heap.size+1,14,none⟩=some (.int .i64 n.percent):=by simp[World.cell?,hB4]
 clear hA3 hB3 hw4 hs3 hb3 hw4s
 clear hA4 hB4 hs4
 clear p3_11 q3_11 p3_12 q3_12 p3_13 q3_13
 go_wp2
 go_ret
 exact⟨rfl,hb4⟩
structure GAccessUser where
 name:ByteArray
 password:ByteArray
 readOnly:Bool
def GAccessUserV (n:GAccessUser):Value:=.agg #[.string n.name,.string n.password,.bool n.readOnly]
def GAccessUser.fits (n:GAccessUser)(m:Nat):Prop:=n.name.size≤m∧n.password.size≤m
structure GAccessUserAt (w:World)(A:Addr)(n:GAccessUser):Prop where
 c0:w.cell? A=some (.string n.name)
 c1:w.cell? ⟨A.block,A.off+1,none⟩=some (.string n.password)
 c2:w.cell? ⟨A.block,A.off+2,none⟩=some (.bool n.readOnly)
theorem GAccessUserAt.same {lo hi:Nat} {w w':World} {A:Addr} {n:GAccessUser} (h:GAccessUserAt w A n)(hs:Same lo hi w w')(h1:lo≤A.block)(h2:A.block<hi):GAccessUserAt w' A n:=
 ⟨(hs.cell h1 h2).trans h.c0,(hs.cell (p:=⟨A.block,A.off+1,none⟩) h1 h2).trans h.c1,(hs.cell (p:=⟨A.block,A.off+2,none⟩) h1 h2).trans h.c2⟩
def GAccessUsersL (lo hi:Nat)(w:World)(o:Option Addr)(F:List GAccessUser):Prop:=∀i (h:i<F.length),∃ a,o=some a∧lo≤a.block∧a.block<hi∧GAccessUserAt w (a.add (i*3)) F[i]
theorem GAccessUsersL.same {lo hi:Nat} {w w':World} {o:Option Addr} {F:List GAccessUser} (h:GAccessUsersL lo hi w o F)(hs:Same lo hi w w'):GAccessUsersL lo hi w' o F:=by
 intro i hi
 obtain⟨a,ho,h1,h2,h3⟩:=h i hi
 exact⟨a,ho,h1,h2,h3.same hs (by rw[add_blockG];exact h1) (by rw[add_blockG];exact h2)⟩
theorem GAccessUsersL.mono {lo lo' hi hi':Nat} {w:World} {o:Option Addr} {F:List GAccessUser} (h:GAccessUsersL lo hi w o F)(hl:lo'≤lo)(hh:hi≤hi'):GAccessUsersL lo' hi' w o F:=by
 intro i hi
 obtain⟨a,ho,h1,h2,h3⟩:=h i hi
 exact⟨a,ho,Nat.le_trans hl h1,Nat.lt_of_lt_of_le h2 hh,h3⟩
theorem GAccessUsersL.below {lo hi B:Nat} {w w':World} {o:Option Addr} {F:List GAccessUser} (h:GAccessUsersL lo hi w o F)(hb:Below B w w')(hB:hi≤B):GAccessUsersL lo hi w' o F:=h.same (Same.of_below hb hB)
open Go.RowKit Go.Lib
theorem tk {P:Program} {ops:Array Oper} {Q:Exit→Act→World→Prop} {md:Region.Mode} {S:World→Prop} {oi:Oper} {fuel:Nat} {listed:Array Bool} {a:Act} {w:World} (i:Nat)(v:Value)(hS:S w)(hy:∀w,S w→(execOp a.eval oi).run P w=.ok (.value v) w)
  (h:wpAnyH P md ops Q S fuel (listed.setIfInBounds i true) (a.put oi.dst v) w) (hi:ops[i]?=some oi:=by rfl) (hw:Region.wanted oi (yielded ops a.tmps)=true:=by rfl) (hs:Region.noSelect ops=true:=by kernel_rfl) (hf:Region.free md ops listed i=true:=by kernel_rfl) (hr:(Region.ready md ops listed).contains i=true:=by kernel_rfl)
  (hQ:∀c a w,Q (.panic c) (a.put oi.dst v) w→Q (.panic c) a w:=by exact fun _ _ _ h=>h):wpAnyH P md ops Q S (fuel+1) listed a w:=
 wpAnyH_take hi hs hf hr hQ (Or.inl ⟨hw,hy⟩) hS h
theorem tn {P:Program} {ops:Array Oper} {Q:Exit→Act→World→Prop} {md:Region.Mode} {S:World→Prop} {oi:Oper} {fuel:Nat} {listed:Array Bool} {a:Act} {w:World} (i:Nat)(hS:S w)
  (h:wpAnyH P md ops Q S fuel (listed.setIfInBounds i true) (a.put oi.dst undef) w) (hi:ops[i]?=some oi:=by rfl) (hw:Region.wanted oi (yielded ops a.tmps)=false:=by kernel_rfl) (hs:Region.noSelect ops=true:=by kernel_rfl) (hf:Region.free md ops listed i=true:=by kernel_rfl) (hr:(Region.ready md ops listed).contains i=true:=by kernel_rfl)
  (hQ:∀c a w,Q (.panic c) (a.put oi.dst undef) w→Q (.panic c) a w:=by exact fun _ _ _ h=>h):wpAnyH P md ops Q S (fuel+1) listed a w:=
 wpAnyH_take hi hs hf hr hQ (Or.inr ⟨hw,rfl⟩) hS h
theorem ta {P:Program} {ops:Array Oper} {Q:Exit→Act→World→Prop} {md:Region.Mode} {oi:Oper} {fuel:Nat} {listed:Array Bool} {a:Act} {w:World} (i:Nat)(v:Value)(hy:∀w,(execOp a.eval oi).run P w=.ok (.value v) w)
  (h:wpAny P md ops Q fuel (listed.setIfInBounds i true) (a.put oi.dst v) w) (hi:ops[i]?=some oi:=by rfl) (hw:Region.wanted oi (yielded ops a.tmps)=true:=by rfl) (hs:Region.noSelect ops=true:=by kernel_rfl) (hf:Region.free md ops listed i=true:=by kernel_rfl) (hr:(Region.ready md ops listed).contains i=true:=by kernel_rfl)
  (hQ:∀c a w,Q (.panic c) (a.put oi.dst v) w→Q (.panic c) a w:=by exact fun _ _ _ h=>h):wpAny P md ops Q (fuel+1) listed a w:=
 wpAny_take hi hs hf hr hQ (Or.inl ⟨hw,hy⟩) h
theorem tb {P:Program} {ops:Array Oper} {Q:Exit→Act→World→Prop} {md:Region.Mode} {oi:Oper} {fuel:Nat} {listed:Array Bool} {a:Act} {w:World} (i:Nat)
  (h:wpAny P md ops Q fuel (listed.setIfInBounds i true) (a.put oi.dst undef) w) (hi:ops[i]?=some oi:=by rfl) (hw:Region.wanted oi (yielded ops a.tmps)=false:=by kernel_rfl) (hs:Region.noSelect ops=true:=by kernel_rfl) (hf:Region.free md ops listed i=true:=by kernel_rfl) (hr:(Region.ready md ops listed).contains i=true:=by kernel_rfl)
  (hQ:∀c a w,Q (.panic c) (a.put oi.dst undef) w→Q (.panic c) a w:=by exact fun _ _ _ h=>h):wpAny P md ops Q (fuel+1) listed a w:=
 wpAny_take hi hs hf hr hQ (Or.inr ⟨hw,rfl⟩) h
theorem r1 {P:Program} {ops:Array Oper} {Q:Exit→Act→World→Prop} {md:Region.Mode} {o:Oper} {fuel:Nat} {listed:Array Bool} {a:Act} {w:World} (i:Nat)
  (h:∀K':Act→World→Prop,(∀a w,wpAny P md ops Q fuel (listed.setIfInBounds i true) a w→K' a w)→if Region.wanted o (yielded ops a.tmps)=true then Oper.wp P o a w K' Q else K' (a.put o.dst undef) w)
  (hr:Region.ready md ops listed=[i]:=by kernel_rfl) (ho:ops[i]?=some o:=by rfl):wpAny P md ops Q (fuel+1) listed a w:=
 wpAny_ready hr (by simp) (AllReady.cons ho h AllReady.nil)
end Go.Proofs.YtkcajnjledldnaaGreatDoor
