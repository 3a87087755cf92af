import Derived.Test.YtacaoiedcfelcaaGreatDoorBmValB
import Derived.Test.YtacaoiedcfelcaaGreatDoorWriteBox
import Derived.Test.YtacaoiedcfelcaaGreatDoorCells
set_option maxRecDepth 20000
set_option maxHeartbeats 16000000
namespace Go.Proofs.YtacaoiedcfelcaaGreatDoor
open Go.RowKit Go.Lib Go.Maps
theorem own_not_block {w:World} {B Bk:Nat} {v:Value} {p:List UInt8} {cs:Array Value} {t:TypeId} {fz:Nat × Nat} (h:Own B v p w)(hb:w.heap[Bk]?=some (.cells cs t fz))(ht:t≠5):v.ownBlock≠some Bk:=by
 rcases h.2 with ⟨rfl,-⟩|⟨g,cap,cur,rfl,-,hg,-⟩
 ·simp[Value.ownBlock]
 ·intro e
  have e2:g=Bk:=by simpa [Value.ownBlock] using e
  rw[e2,hb] at hg
  simp only[Option.some.injEq,Obj.cells.injEq] at hg
  exact ht hg.2.1
theorem boxT_size {n l d:ByteArray} (h:n.size≤20∧l.size≤20∧d.size≤20):(boxT n l d).size≤120:=by
 have ha:(addrT l d).size≤63:=by
  unfold addrT
  rw[ByteArray.size_append,ByteArray.size_append]
  have h1:(⟨#[64]⟩:ByteArray).size=1:=rfl
  split
  ·omega
  ·have:=quo_size l;omega
 unfold boxT
 split
 ·split
  ·omega
  ·rw[ByteArray.size_append,ByteArray.size_append,ByteArray.size_append]
   have h1:(⟨#[32,60]⟩:ByteArray).size=2:=rfl
   have h2:(⟨#[62]⟩:ByteArray).size=1:=rfl
   have:=phr_size n
   omega
 ·decide
theorem addr_cases (n l d:ByteArray):(dcode (addrOk n l d)=0∧addrOk n l d=true)∨(¬dcode (addrOk n l d)=0∧addrOk n l d=false):=by
 cases addrOk n l d
 ·exact .inr ⟨by decide,rfl⟩
 ·exact .inl ⟨rfl,rfl⟩
theorem specPlain (n l d:ByteArray)(w:World):Calls Tryz.prog 133 #[.agg #[.string n,.string l,.string d]] w fun e w'=>∃ b:Bool,e=.returned (.bool b)∧Below w.heap.size w w':=by
 go_enter Tryz.func133,Tryz.ntmps133
 go_wp2
 all_goals
  go_ret
  exact⟨_,rfl,(Below.refl _ _).alloc (Nat.le_refl _) _⟩
set_option maxRecDepth 40000 in
theorem specAddrsB (o:Option Addr)(E:List EnE)(cap B0:Nat)(w:World)(hE:Ens B0 (.slice o E.length cap) E w)(hl:E.length≤7)(hok:∀e ∈ E,e.1.ok) :
  Calls Tryz.prog 86 #[.slice o E.length cap] w fun e w'=>∃ t:ByteArray,e=.returned (.string t)∧t.size≤2940∧Below w.heap.size w w':=by
 obtain⟨i0,hi0,hy0,hy1,hy2⟩:=info_parts Tryz.info5
 obtain⟨W1,hW1⟩:∃W,w.alloc (.cells #[] 5)=W:=⟨_,rfl⟩
 have HO1:Hid (Own w.heap.size (.slice (some ⟨w.heap.size,0,none⟩) 0 0) [] W1):=by rw[← hW1];exact Own.made w.heap.size w (Nat.le_refl _)
 have Hb1:Hid (Below w.heap.size w W1):=by rw[← hW1];exact(Below.refl _ _).alloc (Nat.le_refl _) _
 have HW1:=mkHid hW1
 have HE:=mkHid hE
 have Hok:=mkHid hok
 have e1:¬(500:Int)<(E.length:Int):=by omega
 clear hW1 hE hok
 go_enter Tryz.func86,Tryz.ntmps86
 go_wp2
 rw[HW1.out]
 go_loopw [3,4,5] (fun nv ov iv wr=>∃ (i nn:Nat) (p:List UInt8),i≤E.length∧iv=.int .i64 i∧nv=.int .i64 nn∧nn≤4*i∧p.length≤420*i∧Hid (Own w.heap.size ov p wr)∧Hid (Below w.heap.size w wr)) (fun _ _ iv _=>E.length-(Lib.intOf iv).toNat)
 case atStart=>exact⟨0,0,[],Nat.zero_le _,rfl,rfl,by omega,by simp,HO1,Hb1⟩
 case round=>
  clear HO1 Hb1 HW1
  obtain⟨i,nn,p,hi,rfl,rfl,hnn,hpi,HO,Hb⟩:=hrel
  by_cases hlt:i<E.length
  ·obtain⟨gL,hgL,hoo,hcl⟩:=HE.out.cellsAt (by omega)
   obtain⟨c0,c1,c2,c3,c4,c5⟩:=hcl i hlt
   have hokE:=Hok.out E[i] (List.getElem_mem hlt)
   have hownE:=HE.out.own E[i] (List.getElem_mem hlt)
   subst hoo
   generalize E[i]=q at c0 c1 c2 c3 c4 c5 hokE hownE
   obtain⟨⟨grp,nm,bn,bl,bd,L⟩,mv⟩:=q
   obtain⟨om,cm,hmv⟩:=hownE.shape
   have hmv2:mv=.slice om L.length cm:=hmv
   subst hmv2
   obtain⟨hz1,⟨hz2,hz3,hz4⟩,hz5,hmok0⟩:=hokE
   have hz1:nm.size≤20:=hz1
   have hz2:bn.size≤20:=hz2
   have hz3:bl.size≤20:=hz3
   have hz4:bd.size≤20:=hz4
   have hz5:L.length≤3:=hz5
   have hmok:Hid (∀b ∈ L,b.ok):=hmok0
   have hmem:Hid (OwnB B0 (.slice om L.length cm) L w):=hownE
   have d0:wr.cell? ⟨gL,i*6,none⟩=some (.bool grp):=(Hb.out.cell (p:=⟨gL,i*6,none⟩) hgL).trans c0
   have d1:wr.cell? ⟨gL,i*6+1,none⟩=some (.string nm):=(Hb.out.cell (p:=⟨gL,i*6+1,none⟩) hgL).trans c1
   have d2:wr.cell? ⟨gL,i*6+2,none⟩=some (.string bn):=(Hb.out.cell (p:=⟨gL,i*6+2,none⟩) hgL).trans c2
   have d3:wr.cell? ⟨gL,i*6+3,none⟩=some (.string bl):=(Hb.out.cell (p:=⟨gL,i*6+3,none⟩) hgL).trans c3
   have d4:wr.cell? ⟨gL,i*6+4,none⟩=some (.string bd):=(Hb.out.cell (p:=⟨gL,i*6+4,none⟩) hgL).trans c4
   have d5:wr.cell? ⟨gL,i*6+5,none⟩=some (.slice om L.length cm):=(Hb.out.cell (p:=⟨gL,i*6+5,none⟩) hgL).trans c5
   have hR2:=hp_alloc wr (.cells #[.bool false,.string ⟨#[]⟩,.string ⟨#[]⟩,.string ⟨#[]⟩,.string ⟨#[]⟩,.slice none 0 0] 154)
   clear hcl c0 c1 c2 c3 c4 c5 hownE hmok0 hmv
   go_wp2_with (refine wpL_store_row rfl 154 _ _ rfl wr.heap.size _ rfl rfl 154 _ hR2 (by kernel_rfl) rfl (by simp[Value.oneCell']) ?_;refine Hid.out ?_)
   obtain⟨V5,hV5⟩:∃V,(wr.alloc (.cells #[.bool false,.string ⟨#[]⟩,.string ⟨#[]⟩,.string ⟨#[]⟩,.string ⟨#[]⟩,.slice none 0 0] 154)).setRow wr.heap.size #[.bool grp,.string nm,.string bn,.string bl,.string bd,.slice om L.length cm]=V:=⟨_,rfl⟩
   have hb5:=below_row hV5
   have HB5:Hid (V5.heap[wr.heap.size]?=some (.cells #[.bool grp,.string nm,.string bn,.string bl,.string bd,.slice om L.length cm] 154 (0,0))):=by rw[← hV5];exact setRow_heap _ _ _ _ _ _ hR2
   rw[hV5]
   obtain⟨Bk,hBk⟩:∃Bk,Bk=wr.heap.size:=⟨_,rfl⟩
   rw[← hBk] at HB5 ⊢
   have HO5:=mkHid (Own.belowG HO.out hb5)
   have Hb5:=mkHid (Hb.out.trans (hb5.mono Hb.out.size))
   clear hR2 hV5 hBk hb5 HO Hb d0 d1 d2 d3 d4 d5
   refine mkHid ?_
   by_cases hip:0<i
   ·have hi0i:(0:Int)<(i:Int):=by omega
    go_wp2_with (at_builtin;go_must (refine wp_appG (w:=V5) rfl _ _ 22 rfl i0 Tryz.underlying22 hi0 hy0 hy1 hy2 w.heap.size u4 p rfl HO5.out _ [44,32] rfl 2 2 rfl rfl (by simp;omega) Hb5.out.size ?_;intro v102 w101 hO109 hG108;refine Hid.out ?_))
    have hbA:Below V5.heap.size V5 (V5.alloc (.cells #[.int .u8 44,.int .u8 32] 5)):=(Below.refl _ _).alloc (Nat.le_refl _) _
    have hA1:(V5.alloc (.cells #[.int .u8 44,.int .u8 32] 5)).heap[Bk]?=some (.cells #[.bool grp,.string nm,.string bn,.string bl,.string bd,.slice om L.length cm] 154 (0,0)):=(hbA.block Bk (hp_lt HB5.out)).trans HB5.out
    have hA2:Own w.heap.size u4 p (V5.alloc (.cells #[.int .u8 44,.int .u8 32] 5)):=World.ownsRow.alloc HO5.out _
    have HB105:Hid (w101.heap[Bk]?=some (.cells #[.bool grp,.string nm,.string bn,.string bl,.string bd,.slice om L.length cm] 154 (0,0))):=(hG108.block Bk (hp_lt hA1) (fun e=>own_not_block hA2 hA1 (by decide) e.symm)).trans hA1
    have Hb106:Hid (Below w.heap.size w w101):=((Hb5.out.alloc Hb5.out.size _)).grown hG108 (by have:=Hb5.out.size;simp;omega) (fun k hk=>(World.ownsRow.lt hA2 k hk).1)
    have HO104:=mkHid hO109
    have hp107:(p ++ [44,32]).length≤p.length+2:=by simp
    clear hbA hA1 hA2 hO109 hG108 HO5 HB5 Hb5
    obtain⟨p103,hpe⟩:∃q:List UInt8,p ++ [44,32]=q:=⟨_,rfl⟩
    rw[hpe] at hp107 HO104
    clear hpe
    refine mkHid ?_
    have hq500:¬(500:Int)<(nn:Int)+(L.length:Int):=by omega
    have hq501:¬(500:Int)<(nn:Int)+(L.length:Int)+1:=by omega
    cases grp with
    | false=>
     have x0:w101.cell? ⟨Bk,0,none⟩=some (.bool false):=by simp[World.cell?,HB105.out]
     have x1:w101.cell? ⟨Bk,1,none⟩=some (.string nm):=by simp[World.cell?,HB105.out]
     have x2:w101.cell? ⟨Bk,2,none⟩=some (.string bn):=by simp[World.cell?,HB105.out]
     have x3:w101.cell? ⟨Bk,3,none⟩=some (.string bl):=by simp[World.cell?,HB105.out]
     have x4:w101.cell? ⟨Bk,4,none⟩=some (.string bd):=by simp[World.cell?,HB105.out]
     have x5:w101.cell? ⟨Bk,5,none⟩=some (.slice om L.length cm):=by simp[World.cell?,HB105.out]
     have hN115:=specAddress bn bl bd w101 (by omega) (by omega) (by omega)
     go_wp2_with fail
     refine hN115.mono ?_
     rintro e w110 ⟨rfl,hb114⟩
     have HB111:Hid (w110.heap[Bk]?=some (.cells #[.bool false,.string nm,.string bn,.string bl,.string bd,.slice om L.length cm] 154 (0,0))):=(hb114.block Bk (hp_lt HB105.out)).trans HB105.out
     have Hb112:Hid (Below w.heap.size w w110):=Hb106.out.trans (hb114.mono Hb106.out.size)
     have HO113:=mkHid (Own.belowG HO104.out hb114)
     clear hN115 hb114 HO104 HB105 Hb106
     clear x0 x1 x2 x3 x4 x5
     have x0:w110.cell? ⟨Bk,0,none⟩=some (.bool false):=by simp[World.cell?,HB111.out]
     have x1:w110.cell? ⟨Bk,1,none⟩=some (.string nm):=by simp[World.cell?,HB111.out]
     have x2:w110.cell? ⟨Bk,2,none⟩=some (.string bn):=by simp[World.cell?,HB111.out]
     have x3:w110.cell? ⟨Bk,3,none⟩=some (.string bl):=by simp[World.cell?,HB111.out]
     have x4:w110.cell? ⟨Bk,4,none⟩=some (.string bd):=by simp[World.cell?,HB111.out]
     have x5:w110.cell? ⟨Bk,5,none⟩=some (.slice om L.length cm):=by simp[World.cell?,HB111.out]
     have hdc:=addr_cases bn bl bd
     generalize hdcv:dcode (addrOk bn bl bd)=dc at hdc
     clear hdcv
     rcases hdc with ⟨hdc,-⟩|⟨hdc,-⟩
     ·subst hdc
      by_cases hnm:nm.toList=[]
      ·by_cases hL0:0<L.length
       ·have hL0i:(0:Int)<(L.length:Int):=by omega
        go_wp2
        go_ret
        exact⟨_,rfl,by decide,Hb112.out⟩
       ·have hL0i:¬(0:Int)<(L.length:Int):=by omega
        have hN121:=specBox bn bl bd w110 (by omega) (by omega) (by omega)
        go_wp2_with fail
        refine hN121.mono ?_
        rintro e w116 ⟨rfl,hb120⟩
        have HB117:Hid (w116.heap[Bk]?=some (.cells #[.bool false,.string nm,.string bn,.string bl,.string bd,.slice om L.length cm] 154 (0,0))):=(hb120.block Bk (hp_lt HB111.out)).trans HB111.out
        have Hb118:Hid (Below w.heap.size w w116):=Hb112.out.trans (hb120.mono Hb112.out.size)
        have HO119:=mkHid (Own.belowG HO113.out hb120)
        clear hN121 hb120 HO113 HB111 Hb112
        clear x0 x1 x2 x3 x4 x5
        have htz:=boxT_size (show bn.size≤20∧bl.size≤20∧bd.size≤20 from ⟨by omega,by omega,by omega⟩)
        generalize boxT bn bl bd=tb at htz ⊢
        go_wp2_with (at_builtin;go_must (refine wp_appsG (w:=w116) rfl _ _ 22 9 rfl i0 Tryz.underlying22 Tryz.underlying9 hi0 hy0 hy1 hy2 w.heap.size v102 p103 rfl HO119.out tb rfl (by omega) Hb118.out.size ?_;intro v123 w122 hO130 hG129;refine Hid.out ?_))
        have HB126:Hid (w122.heap[Bk]?=some (.cells #[.bool false,.string nm,.string bn,.string bl,.string bd,.slice om L.length cm] 154 (0,0))):=(hG129.block Bk (hp_lt HB117.out) (fun e=>own_not_block HO119.out HB117.out (by decide) e.symm)).trans HB117.out
        have Hb127:Hid (Below w.heap.size w w122):=Hb118.out.grown hG129 Hb118.out.size (fun k hk=>(World.ownsRow.lt HO119.out k hk).1)
        have HO125:=mkHid hO130
        have hp128:(p103++tb.data.toList).length≤p103.length+tb.size:=by simp
        clear hO130 hG129 HO119 HB117 Hb118
        obtain⟨p124,hpe⟩:∃q:List UInt8,p103++tb.data.toList=q:=⟨_,rfl⟩
        rw[hpe] at hp128 HO125
        clear hpe
        refine mkHid ?_
        go_wp2
        refine⟨⟨i+1,nn+L.length+1,p124,by omega,by go_num,by go_num,by omega,by omega,HO125,Hb127⟩,by simp[Lib.intOf];omega⟩
      ·skip
       go_wp2
       go_ret
       exact⟨_,rfl,by decide,Hb112.out⟩
     ·have hdb:(dc==0)=false:=beq_eq_false_iff_ne.2 hdc
      go_wp2
      go_ret
      exact⟨_,rfl,by decide,Hb112.out⟩
    | true=>
     have x0:w101.cell? ⟨Bk,0,none⟩=some (.bool true):=by simp[World.cell?,HB105.out]
     have x1:w101.cell? ⟨Bk,1,none⟩=some (.string nm):=by simp[World.cell?,HB105.out]
     have x2:w101.cell? ⟨Bk,2,none⟩=some (.string bn):=by simp[World.cell?,HB105.out]
     have x3:w101.cell? ⟨Bk,3,none⟩=some (.string bl):=by simp[World.cell?,HB105.out]
     have x4:w101.cell? ⟨Bk,4,none⟩=some (.string bd):=by simp[World.cell?,HB105.out]
     have x5:w101.cell? ⟨Bk,5,none⟩=some (.slice om L.length cm):=by simp[World.cell?,HB105.out]
     have hN115:=specPlain bn bl bd w101
     go_wp2_with fail
     refine hN115.mono ?_
     rintro e w110 ⟨b1,rfl,hb114⟩
     have HB111:Hid (w110.heap[Bk]?=some (.cells #[.bool true,.string nm,.string bn,.string bl,.string bd,.slice om L.length cm] 154 (0,0))):=(hb114.block Bk (hp_lt HB105.out)).trans HB105.out
     have Hb112:Hid (Below w.heap.size w w110):=Hb106.out.trans (hb114.mono Hb106.out.size)
     have HO113:=mkHid (Own.belowG HO104.out hb114)
     clear hN115 hb114 HO104 HB105 Hb106
     clear x0 x1 x2 x3 x4 x5
     have x0:w110.cell? ⟨Bk,0,none⟩=some (.bool true):=by simp[World.cell?,HB111.out]
     have x1:w110.cell? ⟨Bk,1,none⟩=some (.string nm):=by simp[World.cell?,HB111.out]
     have x2:w110.cell? ⟨Bk,2,none⟩=some (.string bn):=by simp[World.cell?,HB111.out]
     have x3:w110.cell? ⟨Bk,3,none⟩=some (.string bl):=by simp[World.cell?,HB111.out]
     have x4:w110.cell? ⟨Bk,4,none⟩=some (.string bd):=by simp[World.cell?,HB111.out]
     have x5:w110.cell? ⟨Bk,5,none⟩=some (.slice om L.length cm):=by simp[World.cell?,HB111.out]
     cases b1 with
     | false=>
      go_wp2
      go_ret
      exact⟨_,rfl,by decide,Hb112.out⟩
     | true=>
      by_cases hnm:nm.toList=[]
      ·skip
       go_wp2
       go_ret
       exact⟨_,rfl,by decide,Hb112.out⟩
      ·have hnme:nm.toList.isEmpty=false:=by simpa using hnm
       have hN9:=specIsName nm w110 (by omega)
       obtain⟨b2,hb2⟩:∃b,(decide (nm.size≤200) && nm.data.toList.all Pl.tb)=b:=⟨_,rfl⟩
       rw[hb2] at hN9
       clear hb2
       go_wp2_with fail
       refine hN9.mono ?_
       rintro e w9 ⟨rfl,rfl⟩
       clear hN9
       cases b2 with
       | false=>
        go_wp2
        go_ret
        exact⟨_,rfl,by decide,Hb112.out⟩
       | true=>
        have hN121:=specPhrase nm w110 (by omega)
        go_wp2_with fail
        refine hN121.mono ?_
        rintro e w116 ⟨rfl,hb120⟩
        have HB117:Hid (w116.heap[Bk]?=some (.cells #[.bool true,.string nm,.string bn,.string bl,.string bd,.slice om L.length cm] 154 (0,0))):=(hb120.block Bk (hp_lt HB111.out)).trans HB111.out
        have Hb118:Hid (Below w.heap.size w w116):=Hb112.out.trans (hb120.mono Hb112.out.size)
        have HO119:=mkHid (Own.belowG HO113.out hb120)
        clear hN121 hb120 HO113 HB111 Hb112
        clear x0 x1 x2 x3 x4 x5 hnm
        obtain⟨tp,htp⟩:∃t:ByteArray,⟨(Pl.phrase nm.data.toList).toArray⟩=t:=⟨_,rfl⟩
        have htpz:tp.size≤42:=by rw[← htp];have:=phr_size nm;unfold phr at this;omega
        rw[htp]
        clear htp
        go_wp2_with (at_builtin;go_must (refine wp_appsG (w:=w116) rfl _ _ 22 9 rfl i0 Tryz.underlying22 Tryz.underlying9 hi0 hy0 hy1 hy2 w.heap.size v102 p103 rfl HO119.out tp rfl (by omega) Hb118.out.size ?_;intro v123 w122 hO130 hG129;refine Hid.out ?_))
        have HB126:Hid (w122.heap[Bk]?=some (.cells #[.bool true,.string nm,.string bn,.string bl,.string bd,.slice om L.length cm] 154 (0,0))):=(hG129.block Bk (hp_lt HB117.out) (fun e=>own_not_block HO119.out HB117.out (by decide) e.symm)).trans HB117.out
        have Hb127:Hid (Below w.heap.size w w122):=Hb118.out.grown hG129 Hb118.out.size (fun k hk=>(World.ownsRow.lt HO119.out k hk).1)
        have HO125:=mkHid hO130
        have hp128:(p103++tp.data.toList).length≤p103.length+tp.size:=by simp
        clear hO130 hG129 HO119 HB117 Hb118
        obtain⟨p124,hpe⟩:∃q:List UInt8,p103++tp.data.toList=q:=⟨_,rfl⟩
        rw[hpe] at hp128 HO125
        clear hpe
        refine mkHid ?_
        go_wp2_with (at_builtin;go_must (refine wp_appG (w:=w122) rfl _ _ 22 rfl i0 Tryz.underlying22 hi0 hy0 hy1 hy2 w.heap.size v123 p124 rfl HO125.out _ [58] rfl 1 1 rfl rfl (by simp;omega) Hb127.out.size ?_;intro v132 w131 hO139 hG138;refine Hid.out ?_))
        have hbA:Below w122.heap.size w122 (w122.alloc (.cells #[.int .u8 58] 5)):=(Below.refl _ _).alloc (Nat.le_refl _) _
        have hA1:(w122.alloc (.cells #[.int .u8 58] 5)).heap[Bk]?=some (.cells #[.bool true,.string nm,.string bn,.string bl,.string bd,.slice om L.length cm] 154 (0,0)):=(hbA.block Bk (hp_lt HB126.out)).trans HB126.out
        have hA2:Own w.heap.size v123 p124 (w122.alloc (.cells #[.int .u8 58] 5)):=World.ownsRow.alloc HO125.out _
        have HB135:Hid (w131.heap[Bk]?=some (.cells #[.bool true,.string nm,.string bn,.string bl,.string bd,.slice om L.length cm] 154 (0,0))):=(hG138.block Bk (hp_lt hA1) (fun e=>own_not_block hA2 hA1 (by decide) e.symm)).trans hA1
        have Hb136:Hid (Below w.heap.size w w131):=((Hb127.out.alloc Hb127.out.size _)).grown hG138 (by have:=Hb127.out.size;simp;omega) (fun k hk=>(World.ownsRow.lt hA2 k hk).1)
        have HO134:=mkHid hO139
        have hp137:(p124 ++ [58]).length≤p124.length+1:=by simp
        clear hbA hA1 hA2 hO139 hG138 HO125 HB126 Hb127
        obtain⟨p133,hpe⟩:∃q:List UInt8,p124 ++ [58]=q:=⟨_,rfl⟩
        rw[hpe] at hp137 HO134
        clear hpe
        refine mkHid ?_
        go_wp2
        go_loopw [4,7] (fun ov kv wr=>∃ (k2:Nat) (p:List UInt8),k2≤L.length∧kv=.int .i64 k2∧p.length≤420*i+46+122*k2∧Hid (Own w.heap.size ov p wr)∧Hid (wr.heap[Bk]?=some (.cells #[.bool true,.string nm,.string bn,.string bl,.string bd,.slice om L.length cm] 154 (0,0)))∧Hid (Below w.heap.size w wr)) (fun _ kv _=>L.length-(Lib.intOf kv).toNat)
        case atStart=>exact⟨0,p133,Nat.zero_le _,rfl,by omega,HO134,HB135,Hb136⟩
        case round=>
         clear HO134 HB135 Hb136
         obtain⟨k2,p,hk2,rfl,hpk,HO,HB,Hb⟩:=hrel
         by_cases hlk:k2<L.length
         ·obtain⟨gm,hgmB,hgmw,hom,hmc⟩:=hmem.out.cellsAt (by omega)
          obtain⟨m0,m1,m2⟩:=hmc k2 hlk
          have hmk:=hmok.out L[k2] (List.getElem_mem hlk)
          subst hom
          generalize L[k2]=q3 at m0 m1 m2 hmk
          obtain⟨mn,ml,md⟩:=q3
          obtain⟨hmz1,hmz2,hmz3⟩:=hmk
          have hmz1:mn.size≤20:=hmz1
          have hmz2:ml.size≤20:=hmz2
          have hmz3:md.size≤20:=hmz3
          clear hmc
          have x5:wr.cell? ⟨Bk,5,none⟩=some (.slice (some ⟨gm,0,none⟩) L.length cm):=by simp[World.cell?,HB.out]
          have y0:wr.cell? ⟨gm,k2*3,none⟩=some (.string mn):=(Hb.out.cell (p:=⟨gm,k2*3,none⟩) hgmw).trans m0
          have y1:wr.cell? ⟨gm,k2*3+1,none⟩=some (.string ml):=(Hb.out.cell (p:=⟨gm,k2*3+1,none⟩) hgmw).trans m1
          have y2:wr.cell? ⟨gm,k2*3+2,none⟩=some (.string md):=(Hb.out.cell (p:=⟨gm,k2*3+2,none⟩) hgmw).trans m2
          have hN145:=specAddress mn ml md wr (by omega) (by omega) (by omega)
          go_wp2_with fail
          refine hN145.mono ?_
          rintro e w140 ⟨rfl,hb144⟩
          have HB141:Hid (w140.heap[Bk]?=some (.cells #[.bool true,.string nm,.string bn,.string bl,.string bd,.slice (some ⟨gm,0,none⟩) L.length cm] 154 (0,0))):=(hb144.block Bk (hp_lt HB.out)).trans HB.out
          have Hb142:Hid (Below w.heap.size w w140):=Hb.out.trans (hb144.mono Hb.out.size)
          have HO143:=mkHid (Own.belowG HO.out hb144)
          clear hN145 hb144 HO HB Hb
          clear x5 y0 y1 y2
          have hdc:=addr_cases mn ml md
          generalize hdcv:dcode (addrOk mn ml md)=dc at hdc
          clear hdcv
          rcases hdc with ⟨hdc,-⟩|⟨hdc,-⟩
          ·subst hdc
           by_cases hk0:0<k2
           ·have hk0i:(0:Int)<(k2:Int):=by omega
            go_wp2_with (at_builtin;go_must (refine wp_appG (w:=w140) rfl _ _ 22 rfl i0 Tryz.underlying22 hi0 hy0 hy1 hy2 w.heap.size u4 p rfl HO143.out _ [44] rfl 1 1 rfl rfl (by simp;omega) Hb142.out.size ?_;intro v147 w146 hO154 hG153;refine Hid.out ?_))
            have hbA:Below w140.heap.size w140 (w140.alloc (.cells #[.int .u8 44] 5)):=(Below.refl _ _).alloc (Nat.le_refl _) _
            have hA1:(w140.alloc (.cells #[.int .u8 44] 5)).heap[Bk]?=some (.cells #[.bool true,.string nm,.string bn,.string bl,.string bd,.slice (some ⟨gm,0,none⟩) L.length cm] 154 (0,0)):=(hbA.block Bk (hp_lt HB141.out)).trans HB141.out
            have hA2:Own w.heap.size u4 p (w140.alloc (.cells #[.int .u8 44] 5)):=World.ownsRow.alloc HO143.out _
            have HB150:Hid (w146.heap[Bk]?=some (.cells #[.bool true,.string nm,.string bn,.string bl,.string bd,.slice (some ⟨gm,0,none⟩) L.length cm] 154 (0,0))):=(hG153.block Bk (hp_lt hA1) (fun e=>own_not_block hA2 hA1 (by decide) e.symm)).trans hA1
            have Hb151:Hid (Below w.heap.size w w146):=((Hb142.out.alloc Hb142.out.size _)).grown hG153 (by have:=Hb142.out.size;simp;omega) (fun k hk=>(World.ownsRow.lt hA2 k hk).1)
            have HO149:=mkHid hO154
            have hp152:(p ++ [44]).length≤p.length+1:=by simp
            clear hbA hA1 hA2 hO154 hG153 HO143 HB141 Hb142
            obtain⟨p148,hpe⟩:∃q:List UInt8,p ++ [44]=q:=⟨_,rfl⟩
            rw[hpe] at hp152 HO149
            clear hpe
            refine mkHid ?_
            go_wp2_with (at_builtin;go_must (refine wp_appG (w:=w146) rfl _ _ 22 rfl i0 Tryz.underlying22 hi0 hy0 hy1 hy2 w.heap.size v147 p148 rfl HO149.out _ [32] rfl 1 1 rfl rfl (by simp;omega) Hb151.out.size ?_;intro v156 w155 hO163 hG162;refine Hid.out ?_))
            have hbA:Below w146.heap.size w146 (w146.alloc (.cells #[.int .u8 32] 5)):=(Below.refl _ _).alloc (Nat.le_refl _) _
            have hA1:(w146.alloc (.cells #[.int .u8 32] 5)).heap[Bk]?=some (.cells #[.bool true,.string nm,.string bn,.string bl,.string bd,.slice (some ⟨gm,0,none⟩) L.length cm] 154 (0,0)):=(hbA.block Bk (hp_lt HB150.out)).trans HB150.out
            have hA2:Own w.heap.size v147 p148 (w146.alloc (.cells #[.int .u8 32] 5)):=World.ownsRow.alloc HO149.out _
            have HB159:Hid (w155.heap[Bk]?=some (.cells #[.bool true,.string nm,.string bn,.string bl,.string bd,.slice (some ⟨gm,0,none⟩) L.length cm] 154 (0,0))):=(hG162.block Bk (hp_lt hA1) (fun e=>own_not_block hA2 hA1 (by decide) e.symm)).trans hA1
            have Hb160:Hid (Below w.heap.size w w155):=((Hb151.out.alloc Hb151.out.size _)).grown hG162 (by have:=Hb151.out.size;simp;omega) (fun k hk=>(World.ownsRow.lt hA2 k hk).1)
            have HO158:=mkHid hO163
            have hp161:(p148 ++ [32]).length≤p148.length+1:=by simp
            clear hbA hA1 hA2 hO163 hG162 HO149 HB150 Hb151
            obtain⟨p157,hpe⟩:∃q:List UInt8,p148 ++ [32]=q:=⟨_,rfl⟩
            rw[hpe] at hp161 HO158
            clear hpe
            refine mkHid ?_
            have x5:w155.cell? ⟨Bk,5,none⟩=some (.slice (some ⟨gm,0,none⟩) L.length cm):=by simp[World.cell?,HB159.out]
            have y0:w155.cell? ⟨gm,k2*3,none⟩=some (.string mn):=(Hb160.out.cell (p:=⟨gm,k2*3,none⟩) hgmw).trans m0
            have y1:w155.cell? ⟨gm,k2*3+1,none⟩=some (.string ml):=(Hb160.out.cell (p:=⟨gm,k2*3+1,none⟩) hgmw).trans m1
            have y2:w155.cell? ⟨gm,k2*3+2,none⟩=some (.string md):=(Hb160.out.cell (p:=⟨gm,k2*3+2,none⟩) hgmw).trans m2
            have hN169:=specBox mn ml md w155 (by omega) (by omega) (by omega)
            go_wp2_with fail
            refine hN169.mono ?_
            rintro e w164 ⟨rfl,hb168⟩
            have HB165:Hid (w164.heap[Bk]?=some (.cells #[.bool true,.string nm,.string bn,.string bl,.string bd,.slice (some ⟨gm,0,none⟩) L.length cm] 154 (0,0))):=(hb168.block Bk (hp_lt HB159.out)).trans HB159.out
            have Hb166:Hid (Below w.heap.size w w164):=Hb160.out.trans (hb168.mono Hb160.out.size)
            have HO167:=mkHid (Own.belowG HO158.out hb168)
            clear hN169 hb168 HO158 HB159 Hb160
            clear x5 y0 y1 y2
            have htz:=boxT_size (show mn.size≤20∧ml.size≤20∧md.size≤20 from ⟨by omega,by omega,by omega⟩)
            generalize boxT mn ml md=tb at htz ⊢
            go_wp2_with (at_builtin;go_must (refine wp_appsG (w:=w164) rfl _ _ 22 9 rfl i0 Tryz.underlying22 Tryz.underlying9 hi0 hy0 hy1 hy2 w.heap.size v156 p157 rfl HO167.out tb rfl (by omega) Hb166.out.size ?_;intro v171 w170 hO178 hG177;refine Hid.out ?_))
            have HB174:Hid (w170.heap[Bk]?=some (.cells #[.bool true,.string nm,.string bn,.string bl,.string bd,.slice (some ⟨gm,0,none⟩) L.length cm] 154 (0,0))):=(hG177.block Bk (hp_lt HB165.out) (fun e=>own_not_block HO167.out HB165.out (by decide) e.symm)).trans HB165.out
            have Hb175:Hid (Below w.heap.size w w170):=Hb166.out.grown hG177 Hb166.out.size (fun k hk=>(World.ownsRow.lt HO167.out k hk).1)
            have HO173:=mkHid hO178
            have hp176:(p157++tb.data.toList).length≤p157.length+tb.size:=by simp
            clear hO178 hG177 HO167 HB165 Hb166
            obtain⟨p172,hpe⟩:∃q:List UInt8,p157++tb.data.toList=q:=⟨_,rfl⟩
            rw[hpe] at hp176 HO173
            clear hpe
            refine mkHid ?_
            go_wp2
            refine⟨⟨k2+1,p172,by omega,by go_num,by omega,HO173,HB174,Hb175⟩,by simp[Lib.intOf];omega⟩
           ·have hk0i:¬(0:Int)<(k2:Int):=by omega
            go_wp2_with (at_builtin;go_must (refine wp_appG (w:=w140) rfl _ _ 22 rfl i0 Tryz.underlying22 hi0 hy0 hy1 hy2 w.heap.size u4 p rfl HO143.out _ [32] rfl 1 1 rfl rfl (by simp;omega) Hb142.out.size ?_;intro v147 w146 hO154 hG153;refine Hid.out ?_))
            have hbA:Below w140.heap.size w140 (w140.alloc (.cells #[.int .u8 32] 5)):=(Below.refl _ _).alloc (Nat.le_refl _) _
            have hA1:(w140.alloc (.cells #[.int .u8 32] 5)).heap[Bk]?=some (.cells #[.bool true,.string nm,.string bn,.string bl,.string bd,.slice (some ⟨gm,0,none⟩) L.length cm] 154 (0,0)):=(hbA.block Bk (hp_lt HB141.out)).trans HB141.out
            have hA2:Own w.heap.size u4 p (w140.alloc (.cells #[.int .u8 32] 5)):=World.ownsRow.alloc HO143.out _
            have HB150:Hid (w146.heap[Bk]?=some (.cells #[.bool true,.string nm,.string bn,.string bl,.string bd,.slice (some ⟨gm,0,none⟩) L.length cm] 154 (0,0))):=(hG153.block Bk (hp_lt hA1) (fun e=>own_not_block hA2 hA1 (by decide) e.symm)).trans hA1
            have Hb151:Hid (Below w.heap.size w w146):=((Hb142.out.alloc Hb142.out.size _)).grown hG153 (by have:=Hb142.out.size;simp;omega) (fun k hk=>(World.ownsRow.lt hA2 k hk).1)
            have HO149:=mkHid hO154
            have hp152:(p ++ [32]).length≤p.length+1:=by simp
            clear hbA hA1 hA2 hO154 hG153 HO143 HB141 Hb142
            obtain⟨p148,hpe⟩:∃q:List UInt8,p ++ [32]=q:=⟨_,rfl⟩
            rw[hpe] at hp152 HO149
            clear hpe
            refine mkHid ?_
            have x5:w146.cell? ⟨Bk,5,none⟩=some (.slice (some ⟨gm,0,none⟩) L.length cm):=by simp[World.cell?,HB150.out]
            have y0:w146.cell? ⟨gm,k2*3,none⟩=some (.string mn):=(Hb151.out.cell (p:=⟨gm,k2*3,none⟩) hgmw).trans m0
            have y1:w146.cell? ⟨gm,k2*3+1,none⟩=some (.string ml):=(Hb151.out.cell (p:=⟨gm,k2*3+1,none⟩) hgmw).trans m1
            have y2:w146.cell? ⟨gm,k2*3+2,none⟩=some (.string md):=(Hb151.out.cell (p:=⟨gm,k2*3+2,none⟩) hgmw).trans m2
            have hN160:=specBox mn ml md w146 (by omega) (by omega) (by omega)
            go_wp2_with fail
            refine hN160.mono ?_
            rintro e w155 ⟨rfl,hb159⟩
            have HB156:Hid (w155.heap[Bk]?=some (.cells #[.bool true,.string nm,.string bn,.string bl,.string bd,.slice (some ⟨gm,0,none⟩) L.length cm] 154 (0,0))):=(hb159.block Bk (hp_lt HB150.out)).trans HB150.out
            have Hb157:Hid (Below w.heap.size w w155):=Hb151.out.trans (hb159.mono Hb151.out.size)
            have HO158:=mkHid (Own.belowG HO149.out hb159)
            clear hN160 hb159 HO149 HB150 Hb151
            clear x5 y0 y1 y2
            have htz:=boxT_size (show mn.size≤20∧ml.size≤20∧md.size≤20 from ⟨by omega,by omega,by omega⟩)
            generalize boxT mn ml md=tb at htz ⊢
            go_wp2_with (at_builtin;go_must (refine wp_appsG (w:=w155) rfl _ _ 22 9 rfl i0 Tryz.underlying22 Tryz.underlying9 hi0 hy0 hy1 hy2 w.heap.size v147 p148 rfl HO158.out tb rfl (by omega) Hb157.out.size ?_;intro v162 w161 hO169 hG168;refine Hid.out ?_))
            have HB165:Hid (w161.heap[Bk]?=some (.cells #[.bool true,.string nm,.string bn,.string bl,.string bd,.slice (some ⟨gm,0,none⟩) L.length cm] 154 (0,0))):=(hG168.block Bk (hp_lt HB156.out) (fun e=>own_not_block HO158.out HB156.out (by decide) e.symm)).trans HB156.out
            have Hb166:Hid (Below w.heap.size w w161):=Hb157.out.grown hG168 Hb157.out.size (fun k hk=>(World.ownsRow.lt HO158.out k hk).1)
            have HO164:=mkHid hO169
            have hp167:(p148++tb.data.toList).length≤p148.length+tb.size:=by simp
            clear hO169 hG168 HO158 HB156 Hb157
            obtain⟨p163,hpe⟩:∃q:List UInt8,p148++tb.data.toList=q:=⟨_,rfl⟩
            rw[hpe] at hp167 HO164
            clear hpe
            refine mkHid ?_
            go_wp2
            refine⟨⟨k2+1,p163,by omega,by go_num,by omega,HO164,HB165,Hb166⟩,by simp[Lib.intOf];omega⟩
          ·have hdb:(dc==0)=false:=beq_eq_false_iff_ne.2 hdc
           go_wp2
           go_ret
           exact⟨_,rfl,by decide,Hb142.out⟩
         ·skip
          have x5:wr.cell? ⟨Bk,5,none⟩=some (.slice om L.length cm):=by simp[World.cell?,HB.out]
          go_wp2_with (at_builtin;go_must (refine wp_appG (w:=wr) rfl _ _ 22 rfl i0 Tryz.underlying22 hi0 hy0 hy1 hy2 w.heap.size u4 p rfl HO.out _ [59] rfl 1 1 rfl rfl (by simp;omega) Hb.out.size ?_;intro v141 w140 hO148 hG147;refine Hid.out ?_))
          have hbA:Below wr.heap.size wr (wr.alloc (.cells #[.int .u8 59] 5)):=(Below.refl _ _).alloc (Nat.le_refl _) _
          have hA1:(wr.alloc (.cells #[.int .u8 59] 5)).heap[Bk]?=some (.cells #[.bool true,.string nm,.string bn,.string bl,.string bd,.slice om L.length cm] 154 (0,0)):=(hbA.block Bk (hp_lt HB.out)).trans HB.out
          have hA2:Own w.heap.size u4 p (wr.alloc (.cells #[.int .u8 59] 5)):=World.ownsRow.alloc HO.out _
          have HB144:Hid (w140.heap[Bk]?=some (.cells #[.bool true,.string nm,.string bn,.string bl,.string bd,.slice om L.length cm] 154 (0,0))):=(hG147.block Bk (hp_lt hA1) (fun e=>own_not_block hA2 hA1 (by decide) e.symm)).trans hA1
          have Hb145:Hid (Below w.heap.size w w140):=((Hb.out.alloc Hb.out.size _)).grown hG147 (by have:=Hb.out.size;simp;omega) (fun k hk=>(World.ownsRow.lt hA2 k hk).1)
          have HO143:=mkHid hO148
          have hp146:(p ++ [59]).length≤p.length+1:=by simp
          clear hbA hA1 hA2 hO148 hG147 HO HB Hb
          obtain⟨p142,hpe⟩:∃q:List UInt8,p ++ [59]=q:=⟨_,rfl⟩
          rw[hpe] at hp146 HO143
          clear hpe
          refine mkHid ?_
          go_wp2
          refine⟨⟨i+1,nn+L.length,p142,by omega,by go_num,by go_num,by omega,by omega,HO143,Hb145⟩,by simp[Lib.intOf];omega⟩
   ·have hi0i:¬(0:Int)<(i:Int):=by omega
    have hq500:¬(500:Int)<(nn:Int)+(L.length:Int):=by omega
    have hq501:¬(500:Int)<(nn:Int)+(L.length:Int)+1:=by omega
    cases grp with
    | false=>
     have x0:V5.cell? ⟨Bk,0,none⟩=some (.bool false):=by simp[World.cell?,HB5.out]
     have x1:V5.cell? ⟨Bk,1,none⟩=some (.string nm):=by simp[World.cell?,HB5.out]
     have x2:V5.cell? ⟨Bk,2,none⟩=some (.string bn):=by simp[World.cell?,HB5.out]
     have x3:V5.cell? ⟨Bk,3,none⟩=some (.string bl):=by simp[World.cell?,HB5.out]
     have x4:V5.cell? ⟨Bk,4,none⟩=some (.string bd):=by simp[World.cell?,HB5.out]
     have x5:V5.cell? ⟨Bk,5,none⟩=some (.slice om L.length cm):=by simp[World.cell?,HB5.out]
     have hN106:=specAddress bn bl bd V5 (by omega) (by omega) (by omega)
     go_wp2_with fail
     refine hN106.mono ?_
     rintro e w101 ⟨rfl,hb105⟩
     have HB102:Hid (w101.heap[Bk]?=some (.cells #[.bool false,.string nm,.string bn,.string bl,.string bd,.slice om L.length cm] 154 (0,0))):=(hb105.block Bk (hp_lt HB5.out)).trans HB5.out
     have Hb103:Hid (Below w.heap.size w w101):=Hb5.out.trans (hb105.mono Hb5.out.size)
     have HO104:=mkHid (Own.belowG HO5.out hb105)
     clear hN106 hb105 HO5 HB5 Hb5
     clear x0 x1 x2 x3 x4 x5
     have x0:w101.cell? ⟨Bk,0,none⟩=some (.bool false):=by simp[World.cell?,HB102.out]
     have x1:w101.cell? ⟨Bk,1,none⟩=some (.string nm):=by simp[World.cell?,HB102.out]
     have x2:w101.cell? ⟨Bk,2,none⟩=some (.string bn):=by simp[World.cell?,HB102.out]
     have x3:w101.cell? ⟨Bk,3,none⟩=some (.string bl):=by simp[World.cell?,HB102.out]
     have x4:w101.cell? ⟨Bk,4,none⟩=some (.string bd):=by simp[World.cell?,HB102.out]
     have x5:w101.cell? ⟨Bk,5,none⟩=some (.slice om L.length cm):=by simp[World.cell?,HB102.out]
     have hdc:=addr_cases bn bl bd
     generalize hdcv:dcode (addrOk bn bl bd)=dc at hdc
     clear hdcv
     rcases hdc with ⟨hdc,-⟩|⟨hdc,-⟩
     ·subst hdc
      by_cases hnm:nm.toList=[]
      ·by_cases hL0:0<L.length
       ·have hL0i:(0:Int)<(L.length:Int):=by omega
        go_wp2
        go_ret
        exact⟨_,rfl,by decide,Hb103.out⟩
       ·have hL0i:¬(0:Int)<(L.length:Int):=by omega
        have hN112:=specBox bn bl bd w101 (by omega) (by omega) (by omega)
        go_wp2_with fail
        refine hN112.mono ?_
        rintro e w107 ⟨rfl,hb111⟩
        have HB108:Hid (w107.heap[Bk]?=some (.cells #[.bool false,.string nm,.string bn,.string bl,.string bd,.slice om L.length cm] 154 (0,0))):=(hb111.block Bk (hp_lt HB102.out)).trans HB102.out
        have Hb109:Hid (Below w.heap.size w w107):=Hb103.out.trans (hb111.mono Hb103.out.size)
        have HO110:=mkHid (Own.belowG HO104.out hb111)
        clear hN112 hb111 HO104 HB102 Hb103
        clear x0 x1 x2 x3 x4 x5
        have htz:=boxT_size (show bn.size≤20∧bl.size≤20∧bd.size≤20 from ⟨by omega,by omega,by omega⟩)
        generalize boxT bn bl bd=tb at htz ⊢
        go_wp2_with (at_builtin;go_must (refine wp_appsG (w:=w107) rfl _ _ 22 9 rfl i0 Tryz.underlying22 Tryz.underlying9 hi0 hy0 hy1 hy2 w.heap.size u4 p rfl HO110.out tb rfl (by omega) Hb109.out.size ?_;intro v114 w113 hO121 hG120;refine Hid.out ?_))
        have HB117:Hid (w113.heap[Bk]?=some (.cells #[.bool false,.string nm,.string bn,.string bl,.string bd,.slice om L.length cm] 154 (0,0))):=(hG120.block Bk (hp_lt HB108.out) (fun e=>own_not_block HO110.out HB108.out (by decide) e.symm)).trans HB108.out
        have Hb118:Hid (Below w.heap.size w w113):=Hb109.out.grown hG120 Hb109.out.size (fun k hk=>(World.ownsRow.lt HO110.out k hk).1)
        have HO116:=mkHid hO121
        have hp119:(p++tb.data.toList).length≤p.length+tb.size:=by simp
        clear hO121 hG120 HO110 HB108 Hb109
        obtain⟨p115,hpe⟩:∃q:List UInt8,p++tb.data.toList=q:=⟨_,rfl⟩
        rw[hpe] at hp119 HO116
        clear hpe
        refine mkHid ?_
        go_wp2
        refine⟨⟨i+1,nn+L.length+1,p115,by omega,by go_num,by go_num,by omega,by omega,HO116,Hb118⟩,by simp[Lib.intOf];omega⟩
      ·skip
       go_wp2
       go_ret
       exact⟨_,rfl,by decide,Hb103.out⟩
     ·have hdb:(dc==0)=false:=beq_eq_false_iff_ne.2 hdc
      go_wp2
      go_ret
      exact⟨_,rfl,by decide,Hb103.out⟩
    | true=>
     have x0:V5.cell? ⟨Bk,0,none⟩=some (.bool true):=by simp[World.cell?,HB5.out]
     have x1:V5.cell? ⟨Bk,1,none⟩=some (.string nm):=by simp[World.cell?,HB5.out]
     have x2:V5.cell? ⟨Bk,2,none⟩=some (.string bn):=by simp[World.cell?,HB5.out]
     have x3:V5.cell? ⟨Bk,3,none⟩=some (.string bl):=by simp[World.cell?,HB5.out]
     have x4:V5.cell? ⟨Bk,4,none⟩=some (.string bd):=by simp[World.cell?,HB5.out]
     have x5:V5.cell? ⟨Bk,5,none⟩=some (.slice om L.length cm):=by simp[World.cell?,HB5.out]
     have hN106:=specPlain bn bl bd V5
     go_wp2_with fail
     refine hN106.mono ?_
     rintro e w101 ⟨b1,rfl,hb105⟩
     have HB102:Hid (w101.heap[Bk]?=some (.cells #[.bool true,.string nm,.string bn,.string bl,.string bd,.slice om L.length cm] 154 (0,0))):=(hb105.block Bk (hp_lt HB5.out)).trans HB5.out
     have Hb103:Hid (Below w.heap.size w w101):=Hb5.out.trans (hb105.mono Hb5.out.size)
     have HO104:=mkHid (Own.belowG HO5.out hb105)
     clear hN106 hb105 HO5 HB5 Hb5
     clear x0 x1 x2 x3 x4 x5
     have x0:w101.cell? ⟨Bk,0,none⟩=some (.bool true):=by simp[World.cell?,HB102.out]
     have x1:w101.cell? ⟨Bk,1,none⟩=some (.string nm):=by simp[World.cell?,HB102.out]
     have x2:w101.cell? ⟨Bk,2,none⟩=some (.string bn):=by simp[World.cell?,HB102.out]
     have x3:w101.cell? ⟨Bk,3,none⟩=some (.string bl):=by simp[World.cell?,HB102.out]
     have x4:w101.cell? ⟨Bk,4,none⟩=some (.string bd):=by simp[World.cell?,HB102.out]
     have x5:w101.cell? ⟨Bk,5,none⟩=some (.slice om L.length cm):=by simp[World.cell?,HB102.out]
     cases b1 with
     | false=>
      go_wp2
      go_ret
      exact⟨_,rfl,by decide,Hb103.out⟩
     | true=>
      by_cases hnm:nm.toList=[]
      ·skip
       go_wp2
       go_ret
       exact⟨_,rfl,by decide,Hb103.out⟩
      ·have hnme:nm.toList.isEmpty=false:=by simpa using hnm
       have hN9:=specIsName nm w101 (by omega)
       obtain⟨b2,hb2⟩:∃b,(decide (nm.size≤200) && nm.data.toList.all Pl.tb)=b:=⟨_,rfl⟩
       rw[hb2] at hN9
       clear hb2
       go_wp2_with fail
       refine hN9.mono ?_
       rintro e w9 ⟨rfl,rfl⟩
       clear hN9
       cases b2 with
       | false=>
        go_wp2
        go_ret
        exact⟨_,rfl,by decide,Hb103.out⟩
       | true=>
        have hN112:=specPhrase nm w101 (by omega)
        go_wp2_with fail
        refine hN112.mono ?_
        rintro e w107 ⟨rfl,hb111⟩
        have HB108:Hid (w107.heap[Bk]?=some (.cells #[.bool true,.string nm,.string bn,.string bl,.string bd,.slice om L.length cm] 154 (0,0))):=(hb111.block Bk (hp_lt HB102.out)).trans HB102.out
        have Hb109:Hid (Below w.heap.size w w107):=Hb103.out.trans (hb111.mono Hb103.out.size)
        have HO110:=mkHid (Own.belowG HO104.out hb111)
        clear hN112 hb111 HO104 HB102 Hb103
        clear x0 x1 x2 x3 x4 x5 hnm
        obtain⟨tp,htp⟩:∃t:ByteArray,⟨(Pl.phrase nm.data.toList).toArray⟩=t:=⟨_,rfl⟩
        have htpz:tp.size≤42:=by rw[← htp];have:=phr_size nm;unfold phr at this;omega
        rw[htp]
        clear htp
        go_wp2_with (at_builtin;go_must (refine wp_appsG (w:=w107) rfl _ _ 22 9 rfl i0 Tryz.underlying22 Tryz.underlying9 hi0 hy0 hy1 hy2 w.heap.size u4 p rfl HO110.out tp rfl (by omega) Hb109.out.size ?_;intro v114 w113 hO121 hG120;refine Hid.out ?_))
        have HB117:Hid (w113.heap[Bk]?=some (.cells #[.bool true,.string nm,.string bn,.string bl,.string bd,.slice om L.length cm] 154 (0,0))):=(hG120.block Bk (hp_lt HB108.out) (fun e=>own_not_block HO110.out HB108.out (by decide) e.symm)).trans HB108.out
        have Hb118:Hid (Below w.heap.size w w113):=Hb109.out.grown hG120 Hb109.out.size (fun k hk=>(World.ownsRow.lt HO110.out k hk).1)
        have HO116:=mkHid hO121
        have hp119:(p++tp.data.toList).length≤p.length+tp.size:=by simp
        clear hO121 hG120 HO110 HB108 Hb109
        obtain⟨p115,hpe⟩:∃q:List UInt8,p++tp.data.toList=q:=⟨_,rfl⟩
        rw[hpe] at hp119 HO116
        clear hpe
        refine mkHid ?_
        go_wp2_with (at_builtin;go_must (refine wp_appG (w:=w113) rfl _ _ 22 rfl i0 Tryz.underlying22 hi0 hy0 hy1 hy2 w.heap.size v114 p115 rfl HO116.out _ [58] rfl 1 1 rfl rfl (by simp;omega) Hb118.out.size ?_;intro v123 w122 hO130 hG129;refine Hid.out ?_))
        have hbA:Below w113.heap.size w113 (w113.alloc (.cells #[.int .u8 58] 5)):=(Below.refl _ _).alloc (Nat.le_refl _) _
        have hA1:(w113.alloc (.cells #[.int .u8 58] 5)).heap[Bk]?=some (.cells #[.bool true,.string nm,.string bn,.string bl,.string bd,.slice om L.length cm] 154 (0,0)):=(hbA.block Bk (hp_lt HB117.out)).trans HB117.out
        have hA2:Own w.heap.size v114 p115 (w113.alloc (.cells #[.int .u8 58] 5)):=World.ownsRow.alloc HO116.out _
        have HB126:Hid (w122.heap[Bk]?=some (.cells #[.bool true,.string nm,.string bn,.string bl,.string bd,.slice om L.length cm] 154 (0,0))):=(hG129.block Bk (hp_lt hA1) (fun e=>own_not_block hA2 hA1 (by decide) e.symm)).trans hA1
        have Hb127:Hid (Below w.heap.size w w122):=((Hb118.out.alloc Hb118.out.size _)).grown hG129 (by have:=Hb118.out.size;simp;omega) (fun k hk=>(World.ownsRow.lt hA2 k hk).1)
        have HO125:=mkHid hO130
        have hp128:(p115 ++ [58]).length≤p115.length+1:=by simp
        clear hbA hA1 hA2 hO130 hG129 HO116 HB117 Hb118
        obtain⟨p124,hpe⟩:∃q:List UInt8,p115 ++ [58]=q:=⟨_,rfl⟩
        rw[hpe] at hp128 HO125
        clear hpe
        refine mkHid ?_
        go_wp2
        go_loopw [4,7] (fun ov kv wr=>∃ (k2:Nat) (p:List UInt8),k2≤L.length∧kv=.int .i64 k2∧p.length≤420*i+46+122*k2∧Hid (Own w.heap.size ov p wr)∧Hid (wr.heap[Bk]?=some (.cells #[.bool true,.string nm,.string bn,.string bl,.string bd,.slice om L.length cm] 154 (0,0)))∧Hid (Below w.heap.size w wr)) (fun _ kv _=>L.length-(Lib.intOf kv).toNat)
        case atStart=>exact⟨0,p124,Nat.zero_le _,rfl,by omega,HO125,HB126,Hb127⟩
        case round=>
         clear HO125 HB126 Hb127
         obtain⟨k2,p,hk2,rfl,hpk,HO,HB,Hb⟩:=hrel
         by_cases hlk:k2<L.length
         ·obtain⟨gm,hgmB,hgmw,hom,hmc⟩:=hmem.out.cellsAt (by omega)
          obtain⟨m0,m1,m2⟩:=hmc k2 hlk
          have hmk:=hmok.out L[k2] (List.getElem_mem hlk)
          subst hom
          generalize L[k2]=q3 at m0 m1 m2 hmk
          obtain⟨mn,ml,md⟩:=q3
          obtain⟨hmz1,hmz2,hmz3⟩:=hmk
          have hmz1:mn.size≤20:=hmz1
          have hmz2:ml.size≤20:=hmz2
          have hmz3:md.size≤20:=hmz3
          clear hmc
          have x5:wr.cell? ⟨Bk,5,none⟩=some (.slice (some ⟨gm,0,none⟩) L.length cm):=by simp[World.cell?,HB.out]
          have y0:wr.cell? ⟨gm,k2*3,none⟩=some (.string mn):=(Hb.out.cell (p:=⟨gm,k2*3,none⟩) hgmw).trans m0
          have y1:wr.cell? ⟨gm,k2*3+1,none⟩=some (.string ml):=(Hb.out.cell (p:=⟨gm,k2*3+1,none⟩) hgmw).trans m1
          have y2:wr.cell? ⟨gm,k2*3+2,none⟩=some (.string md):=(Hb.out.cell (p:=⟨gm,k2*3+2,none⟩) hgmw).trans m2
          have hN136:=specAddress mn ml md wr (by omega) (by omega) (by omega)
          go_wp2_with fail
          refine hN136.mono ?_
          rintro e w131 ⟨rfl,hb135⟩
          have HB132:Hid (w131.heap[Bk]?=some (.cells #[.bool true,.string nm,.string bn,.string bl,.string bd,.slice (some ⟨gm,0,none⟩) L.length cm] 154 (0,0))):=(hb135.block Bk (hp_lt HB.out)).trans HB.out
          have Hb133:Hid (Below w.heap.size w w131):=Hb.out.trans (hb135.mono Hb.out.size)
          have HO134:=mkHid (Own.belowG HO.out hb135)
          clear hN136 hb135 HO HB Hb
          clear x5 y0 y1 y2
          have hdc:=addr_cases mn ml md
          generalize hdcv:dcode (addrOk mn ml md)=dc at hdc
          clear hdcv
          rcases hdc with ⟨hdc,-⟩|⟨hdc,-⟩
          ·subst hdc
           by_cases hk0:0<k2
           ·have hk0i:(0:Int)<(k2:Int):=by omega
            go_wp2_with (at_builtin;go_must (refine wp_appG (w:=w131) rfl _ _ 22 rfl i0 Tryz.underlying22 hi0 hy0 hy1 hy2 w.heap.size u4 p rfl HO134.out _ [44] rfl 1 1 rfl rfl (by simp;omega) Hb133.out.size ?_;intro v138 w137 hO145 hG144;refine Hid.out ?_))
            have hbA:Below w131.heap.size w131 (w131.alloc (.cells #[.int .u8 44] 5)):=(Below.refl _ _).alloc (Nat.le_refl _) _
            have hA1:(w131.alloc (.cells #[.int .u8 44] 5)).heap[Bk]?=some (.cells #[.bool true,.string nm,.string bn,.string bl,.string bd,.slice (some ⟨gm,0,none⟩) L.length cm] 154 (0,0)):=(hbA.block Bk (hp_lt HB132.out)).trans HB132.out
            have hA2:Own w.heap.size u4 p (w131.alloc (.cells #[.int .u8 44] 5)):=World.ownsRow.alloc HO134.out _
            have HB141:Hid (w137.heap[Bk]?=some (.cells #[.bool true,.string nm,.string bn,.string bl,.string bd,.slice (some ⟨gm,0,none⟩) L.length cm] 154 (0,0))):=(hG144.block Bk (hp_lt hA1) (fun e=>own_not_block hA2 hA1 (by decide) e.symm)).trans hA1
            have Hb142:Hid (Below w.heap.size w w137):=((Hb133.out.alloc Hb133.out.size _)).grown hG144 (by have:=Hb133.out.size;simp;omega) (fun k hk=>(World.ownsRow.lt hA2 k hk).1)
            have HO140:=mkHid hO145
            have hp143:(p ++ [44]).length≤p.length+1:=by simp
            clear hbA hA1 hA2 hO145 hG144 HO134 HB132 Hb133
            obtain⟨p139,hpe⟩:∃q:List UInt8,p ++ [44]=q:=⟨_,rfl⟩
            rw[hpe] at hp143 HO140
            clear hpe
            refine mkHid ?_
            go_wp2_with (at_builtin;go_must (refine wp_appG (w:=w137) rfl _ _ 22 rfl i0 Tryz.underlying22 hi0 hy0 hy1 hy2 w.heap.size v138 p139 rfl HO140.out _ [32] rfl 1 1 rfl rfl (by simp;omega) Hb142.out.size ?_;intro v147 w146 hO154 hG153;refine Hid.out ?_))
            have hbA:Below w137.heap.size w137 (w137.alloc (.cells #[.int .u8 32] 5)):=(Below.refl _ _).alloc (Nat.le_refl _) _
            have hA1:(w137.alloc (.cells #[.int .u8 32] 5)).heap[Bk]?=some (.cells #[.bool true,.string nm,.string bn,.string bl,.string bd,.slice (some ⟨gm,0,none⟩) L.length cm] 154 (0,0)):=(hbA.block Bk (hp_lt HB141.out)).trans HB141.out
            have hA2:Own w.heap.size v138 p139 (w137.alloc (.cells #[.int .u8 32] 5)):=World.ownsRow.alloc HO140.out _
            have HB150:Hid (w146.heap[Bk]?=some (.cells #[.bool true,.string nm,.string bn,.string bl,.string bd,.slice (some ⟨gm,0,none⟩) L.length cm] 154 (0,0))):=(hG153.block Bk (hp_lt hA1) (fun e=>own_not_block hA2 hA1 (by decide) e.symm)).trans hA1
            have Hb151:Hid (Below w.heap.size w w146):=((Hb142.out.alloc Hb142.out.size _)).grown hG153 (by have:=Hb142.out.size;simp;omega) (fun k hk=>(World.ownsRow.lt hA2 k hk).1)
            have HO149:=mkHid hO154
            have hp152:(p139 ++ [32]).length≤p139.length+1:=by simp
            clear hbA hA1 hA2 hO154 hG153 HO140 HB141 Hb142
            obtain⟨p148,hpe⟩:∃q:List UInt8,p139 ++ [32]=q:=⟨_,rfl⟩
            rw[hpe] at hp152 HO149
            clear hpe
            refine mkHid ?_
            have x5:w146.cell? ⟨Bk,5,none⟩=some (.slice (some ⟨gm,0,none⟩) L.length cm):=by simp[World.cell?,HB150.out]
            have y0:w146.cell? ⟨gm,k2*3,none⟩=some (.string mn):=(Hb151.out.cell (p:=⟨gm,k2*3,none⟩) hgmw).trans m0
            have y1:w146.cell? ⟨gm,k2*3+1,none⟩=some (.string ml):=(Hb151.out.cell (p:=⟨gm,k2*3+1,none⟩) hgmw).trans m1
            have y2:w146.cell? ⟨gm,k2*3+2,none⟩=some (.string md):=(Hb151.out.cell (p:=⟨gm,k2*3+2,none⟩) hgmw).trans m2
            have hN160:=specBox mn ml md w146 (by omega) (by omega) (by omega)
            go_wp2_with fail
            refine hN160.mono ?_
            rintro e w155 ⟨rfl,hb159⟩
            have HB156:Hid (w155.heap[Bk]?=some (.cells #[.bool true,.string nm,.string bn,.string bl,.string bd,.slice (some ⟨gm,0,none⟩) L.length cm] 154 (0,0))):=(hb159.block Bk (hp_lt HB150.out)).trans HB150.out
            have Hb157:Hid (Below w.heap.size w w155):=Hb151.out.trans (hb159.mono Hb151.out.size)
            have HO158:=mkHid (Own.belowG HO149.out hb159)
            clear hN160 hb159 HO149 HB150 Hb151
            clear x5 y0 y1 y2
            have htz:=boxT_size (show mn.size≤20∧ml.size≤20∧md.size≤20 from ⟨by omega,by omega,by omega⟩)
            generalize boxT mn ml md=tb at htz ⊢
            go_wp2_with (at_builtin;go_must (refine wp_appsG (w:=w155) rfl _ _ 22 9 rfl i0 Tryz.underlying22 Tryz.underlying9 hi0 hy0 hy1 hy2 w.heap.size v147 p148 rfl HO158.out tb rfl (by omega) Hb157.out.size ?_;intro v162 w161 hO169 hG168;refine Hid.out ?_))
            have HB165:Hid (w161.heap[Bk]?=some (.cells #[.bool true,.string nm,.string bn,.string bl,.string bd,.slice (some ⟨gm,0,none⟩) L.length cm] 154 (0,0))):=(hG168.block Bk (hp_lt HB156.out) (fun e=>own_not_block HO158.out HB156.out (by decide) e.symm)).trans HB156.out
            have Hb166:Hid (Below w.heap.size w w161):=Hb157.out.grown hG168 Hb157.out.size (fun k hk=>(World.ownsRow.lt HO158.out k hk).1)
            have HO164:=mkHid hO169
            have hp167:(p148++tb.data.toList).length≤p148.length+tb.size:=by simp
            clear hO169 hG168 HO158 HB156 Hb157
            obtain⟨p163,hpe⟩:∃q:List UInt8,p148++tb.data.toList=q:=⟨_,rfl⟩
            rw[hpe] at hp167 HO164
            clear hpe
            refine mkHid ?_
            go_wp2
            refine⟨⟨k2+1,p163,by omega,by go_num,by omega,HO164,HB165,Hb166⟩,by simp[Lib.intOf];omega⟩
           ·have hk0i:¬(0:Int)<(k2:Int):=by omega
            go_wp2_with (at_builtin;go_must (refine wp_appG (w:=w131) rfl _ _ 22 rfl i0 Tryz.underlying22 hi0 hy0 hy1 hy2 w.heap.size u4 p rfl HO134.out _ [32] rfl 1 1 rfl rfl (by simp;omega) Hb133.out.size ?_;intro v138 w137 hO145 hG144;refine Hid.out ?_))
            have hbA:Below w131.heap.size w131 (w131.alloc (.cells #[.int .u8 32] 5)):=(Below.refl _ _).alloc (Nat.le_refl _) _
            have hA1:(w131.alloc (.cells #[.int .u8 32] 5)).heap[Bk]?=some (.cells #[.bool true,.string nm,.string bn,.string bl,.string bd,.slice (some ⟨gm,0,none⟩) L.length cm] 154 (0,0)):=(hbA.block Bk (hp_lt HB132.out)).trans HB132.out
            have hA2:Own w.heap.size u4 p (w131.alloc (.cells #[.int .u8 32] 5)):=World.ownsRow.alloc HO134.out _
            have HB141:Hid (w137.heap[Bk]?=some (.cells #[.bool true,.string nm,.string bn,.string bl,.string bd,.slice (some ⟨gm,0,none⟩) L.length cm] 154 (0,0))):=(hG144.block Bk (hp_lt hA1) (fun e=>own_not_block hA2 hA1 (by decide) e.symm)).trans hA1
            have Hb142:Hid (Below w.heap.size w w137):=((Hb133.out.alloc Hb133.out.size _)).grown hG144 (by have:=Hb133.out.size;simp;omega) (fun k hk=>(World.ownsRow.lt hA2 k hk).1)
            have HO140:=mkHid hO145
            have hp143:(p ++ [32]).length≤p.length+1:=by simp
            clear hbA hA1 hA2 hO145 hG144 HO134 HB132 Hb133
            obtain⟨p139,hpe⟩:∃q:List UInt8,p ++ [32]=q:=⟨_,rfl⟩
            rw[hpe] at hp143 HO140
            clear hpe
            refine mkHid ?_
            have x5:w137.cell? ⟨Bk,5,none⟩=some (.slice (some ⟨gm,0,none⟩) L.length cm):=by simp[World.cell?,HB141.out]
            have y0:w137.cell? ⟨gm,k2*3,none⟩=some (.string mn):=(Hb142.out.cell (p:=⟨gm,k2*3,none⟩) hgmw).trans m0
            have y1:w137.cell? ⟨gm,k2*3+1,none⟩=some (.string ml):=(Hb142.out.cell (p:=⟨gm,k2*3+1,none⟩) hgmw).trans m1
            have y2:w137.cell? ⟨gm,k2*3+2,none⟩=some (.string md):=(Hb142.out.cell (p:=⟨gm,k2*3+2,none⟩) hgmw).trans m2
            have hN151:=specBox mn ml md w137 (by omega) (by omega) (by omega)
            go_wp2_with fail
            refine hN151.mono ?_
            rintro e w146 ⟨rfl,hb150⟩
            have HB147:Hid (w146.heap[Bk]?=some (.cells #[.bool true,.string nm,.string bn,.string bl,.string bd,.slice (some ⟨gm,0,none⟩) L.length cm] 154 (0,0))):=(hb150.block Bk (hp_lt HB141.out)).trans HB141.out
            have Hb148:Hid (Below w.heap.size w w146):=Hb142.out.trans (hb150.mono Hb142.out.size)
            have HO149:=mkHid (Own.belowG HO140.out hb150)
            clear hN151 hb150 HO140 HB141 Hb142
            clear x5 y0 y1 y2
            have htz:=boxT_size (show mn.size≤20∧ml.size≤20∧md.size≤20 from ⟨by omega,by omega,by omega⟩)
            generalize boxT mn ml md=tb at htz ⊢
            go_wp2_with (at_builtin;go_must (refine wp_appsG (w:=w146) rfl _ _ 22 9 rfl i0 Tryz.underlying22 Tryz.underlying9 hi0 hy0 hy1 hy2 w.heap.size v138 p139 rfl HO149.out tb rfl (by omega) Hb148.out.size ?_;intro v153 w152 hO160 hG159;refine Hid.out ?_))
            have HB156:Hid (w152.heap[Bk]?=some (.cells #[.bool true,.string nm,.string bn,.string bl,.string bd,.slice (some ⟨gm,0,none⟩) L.length cm] 154 (0,0))):=(hG159.block Bk (hp_lt HB147.out) (fun e=>own_not_block HO149.out HB147.out (by decide) e.symm)).trans HB147.out
            have Hb157:Hid (Below w.heap.size w w152):=Hb148.out.grown hG159 Hb148.out.size (fun k hk=>(World.ownsRow.lt HO149.out k hk).1)
            have HO155:=mkHid hO160
            have hp158:(p139++tb.data.toList).length≤p139.length+tb.size:=by simp
            clear hO160 hG159 HO149 HB147 Hb148
            obtain⟨p154,hpe⟩:∃q:List UInt8,p139++tb.data.toList=q:=⟨_,rfl⟩
            rw[hpe] at hp158 HO155
            clear hpe
            refine mkHid ?_
            go_wp2
            refine⟨⟨k2+1,p154,by omega,by go_num,by omega,HO155,HB156,Hb157⟩,by simp[Lib.intOf];omega⟩
          ·have hdb:(dc==0)=false:=beq_eq_false_iff_ne.2 hdc
           go_wp2
           go_ret
           exact⟨_,rfl,by decide,Hb133.out⟩
         ·skip
          have x5:wr.cell? ⟨Bk,5,none⟩=some (.slice om L.length cm):=by simp[World.cell?,HB.out]
          go_wp2_with (at_builtin;go_must (refine wp_appG (w:=wr) rfl _ _ 22 rfl i0 Tryz.underlying22 hi0 hy0 hy1 hy2 w.heap.size u4 p rfl HO.out _ [59] rfl 1 1 rfl rfl (by simp;omega) Hb.out.size ?_;intro v132 w131 hO139 hG138;refine Hid.out ?_))
          have hbA:Below wr.heap.size wr (wr.alloc (.cells #[.int .u8 59] 5)):=(Below.refl _ _).alloc (Nat.le_refl _) _
          have hA1:(wr.alloc (.cells #[.int .u8 59] 5)).heap[Bk]?=some (.cells #[.bool true,.string nm,.string bn,.string bl,.string bd,.slice om L.length cm] 154 (0,0)):=(hbA.block Bk (hp_lt HB.out)).trans HB.out
          have hA2:Own w.heap.size u4 p (wr.alloc (.cells #[.int .u8 59] 5)):=World.ownsRow.alloc HO.out _
          have HB135:Hid (w131.heap[Bk]?=some (.cells #[.bool true,.string nm,.string bn,.string bl,.string bd,.slice om L.length cm] 154 (0,0))):=(hG138.block Bk (hp_lt hA1) (fun e=>own_not_block hA2 hA1 (by decide) e.symm)).trans hA1
          have Hb136:Hid (Below w.heap.size w w131):=((Hb.out.alloc Hb.out.size _)).grown hG138 (by have:=Hb.out.size;simp;omega) (fun k hk=>(World.ownsRow.lt hA2 k hk).1)
          have HO134:=mkHid hO139
          have hp137:(p ++ [59]).length≤p.length+1:=by simp
          clear hbA hA1 hA2 hO139 hG138 HO HB Hb
          obtain⟨p133,hpe⟩:∃q:List UInt8,p ++ [59]=q:=⟨_,rfl⟩
          rw[hpe] at hp137 HO134
          clear hpe
          refine mkHid ?_
          go_wp2
          refine⟨⟨i+1,nn+L.length,p133,by omega,by go_num,by go_num,by omega,by omega,HO134,Hb136⟩,by simp[Lib.intOf];omega⟩
  ·have hbk:=HO.out.back (P:=Tryz.prog) 22 9 Tryz.underlying22 Tryz.underlying5 Tryz.underlying9
   have hps:(⟨p.toArray⟩:ByteArray).size≤2940:=by show p.toArray.size≤_;rw[List.size_toArray];omega
   go_wp2
   go_ret
   exact⟨_,rfl,hps,Hb.out⟩
theorem specAddrs (o:Option Addr)(E:List EnE)(cap B0:Nat)(w:World)(hE:Ens B0 (.slice o E.length cap) E w)(hl:E.length≤7)(hok:∀e ∈ E,e.1.ok) :
  Calls Tryz.prog 86 #[.slice o E.length cap] w fun e w'=>∃ t:ByteArray,e=.returned (.string t)∧t.size≤6000∧Below w.heap.size w w':=by
 refine(specAddrsB o E cap B0 w hE hl hok).mono ?_
 rintro e w' ⟨t,h1,h2,h3⟩
 exact⟨t,h1,by omega,h3⟩
end Go.Proofs.YtacaoiedcfelcaaGreatDoor
