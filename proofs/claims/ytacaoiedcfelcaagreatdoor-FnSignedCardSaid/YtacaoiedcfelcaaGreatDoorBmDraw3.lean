import Derived.Test.YtacaoiedcfelcaaGreatDoorDrawOpA
import Derived.Test.YtacaoiedcfelcaaGreatDoorBmDraw2
set_option maxRecDepth 20000
set_option maxHeartbeats 16000000
namespace Go.Proofs.YtacaoiedcfelcaaGreatDoor
open Go.RowKit
section
variable {P:Program} {ops:Array Oper} {Q:Exit→Act→World→Prop} {md:Region.Mode}
def waitsAllD (md:Region.Mode)(ops:Array Oper)(l d0:Nat):Bool:=(List.range ops.size).all fun i=>decide (i<l) || (List.range l).all fun j=>j==d0 || (closeDown md ops i [i]).contains j
theorem waits_doneD {L:Array Bool} {i l d0:Nat} (hw:waitsAllD md ops l d0=true)(hc:ClosedL md ops L)(hi:i ∈ Region.ready md ops L)(hl:l≤i)(j:Nat)(hj:j<l)(hjd:j≠d0):L.getD j false=true:=by
 have h1:=List.all_eq_true.1 hw i (List.mem_range.2 (mem_ready hi).1)
 rw[Bool.or_eq_true,decide_eq_true_eq] at h1
 rcases h1 with h1|h1
 ·omega
 ·have h2:=List.all_eq_true.1 h1 j (List.mem_range.2 hj)
  rw[Bool.or_eq_true,beq_iff_eq] at h2
  rcases h2 with h2|h2
  ·exact absurd h2 hjd
  ·have h3:=closeDown_done hc hi i [i] (fun k hk=>.inl (by simpa using hk)) j (by simpa using h2)
   rcases h3 with h3|h3
   ·omega
   ·exact h3
theorem set_keeps {L:Array Bool} {i d0:Nat} (h:i ∈ Region.ready md ops L)(hd:L.getD d0 false=true):(L.setIfInBounds i true).getD d0 false=true:=by
 by_cases h9:d0=i
 ·subst h9
  have h8:=(mem_ready h).2
  have hi:d0<L.size:=by
   by_cases hi:d0<L.size
   ·exact hi
   ·simp[Array.getD,hi] at hd
  simp[Array.getD,hi]
 ·rw[done_set h9]
  exact hd
theorem wpAny_phaseD (d0 l m:Nat)(Lf:Array Bool)(dst:Nat→Nat)(A:(Nat→Value)→Act)(F:Nat→Value→World→Prop)(G:Nat→World→Prop)(R:World→World→Prop)
  (hm:ops.size=l+m) (hLs:Lf.size=ops.size) (hLf:∀j,j<Lf.size→Lf.getD j false=decide (j<l)) (hln:left Lf=m)
  (hlow:afterLowM md ops=true) (hwait:waitsAllD md ops l d0=true) (hdst:∀i j,i<l→j<l→j≠i→dst j≠dst i) (hF:∀j v w w',F j v w→R w w'→F j v w')
  (hend:∀x w,G l w→(∀i,i<l→F i (x (dst i)) w)→wpAny P md ops Q m Lf (A x) w)
  (hstep:∀k x L w i,i<l→k<l→G k w→i ∈ Region.ready md ops L→(∀j,j<l→L.getD j false=true→F j (x (dst j)) w)→wpOp P ops Q i (fun a' w'=>∃ v,a'=A (put x (dst i) v)∧F i v w'∧R w w'∧G (k+1) w') (A x) w) :
  ∀(n:Nat) (L:Array Bool) (k:Nat) (x:Nat→Value) (w:World),L.size=ops.size→left L=n→k+n=ops.size→(∀j,l≤j→L.getD j false=false)→ClosedL md ops L→L.getD d0 false=true→G k w→(∀j,j<l→L.getD j false=true→F j (x (dst j)) w)→wpAny P md ops Q n L (A x) w:=by
 intro n
 induction n with
 | zero=>
  intro L k x w hs hl hk hno hc hd0 hG hx
  have hall:∀j,j<l→L.getD j false=true:=by
   intro j hj
   cases h:L.getD j false with
   | true=>rfl
   | false=>
    have:=left_pos (by omega) h
    omega
  have e:=fin_eq (by omega) hLf hall hno
  have hm0:m=0:=by rw[← hln,← e];exact hl
  have hkl:k=l:=by omega
  subst hkl
  rw[e]
  have:=hend x w hG (fun i hi=>hx i hi (hall i hi))
  rw[hm0] at this
  exact this
 | succ n ih=>
  intro L k x w hs hl hk hno hc hd0 hG hx
  by_cases hall:∀j,j<l→L.getD j false=true
  ·have e:=fin_eq (by omega) hLf hall hno
   have hm0:m=n+1:=by rw[← hln,← e];exact hl
   have hkl:k=l:=by omega
   subst hkl
   rw[e]
   have:=hend x w hG (fun i hi=>hx i hi (hall i hi))
   rw[hm0] at this
   exact this
  ·refine⟨fun hr=>?_,fun i hi=>?_⟩
   ·exact absurd (fun j hj=>all_doneM hs hlow hr _ j (Nat.lt_succ_self j) (by omega)) hall
   ·have hil:i<l:=by
     rcases Nat.lt_or_ge i l with h|h
     ·exact h
     ·exact absurd (fun j hj=>if hjd:j=d0 then by rw[hjd];exact hd0 else waits_doneD hwait hc hi h j hj hjd) hall
    have hr:=mem_ready hi
    have hkl:k<l:=by
     rcases Nat.lt_or_ge k l with h|h
     ·exact h
     ·exfalso
      have hn:n+1≤m:=by omega
      refine hall fun j hj=>?_
      cases hd:L.getD j false with
      | true=>rfl
      | false=>
       exfalso
       have h1:left (L.setIfInBounds j true)=n:=left_set (by rw[getD_false (by omega)];exact hd) hl
       have h2:m≤left (L.setIfInBounds j true):=by
        rw[← hln]
        unfold left
        have key:∀(a b:List Bool),a.length=b.length→(∀i:Nat,a[i]?=some false→b[i]?=some false)→a.count false≤b.count false:=by
         intro a
         induction a with
         | nil=>intro b _ _;simp
         | cons p t iht=>
          intro b hlen hab
          cases b with
          | nil=>simp at hlen
          | cons q s=>
           have h3:=iht s (by simpa using hlen) (fun i hi=>by have:=hab (i+1);simpa using this (by simpa using hi))
           have h4:=hab 0
           cases p<;>cases q<;>simp at h4 ⊢<;>omega
        refine key _ _ (by simp;omega) fun i hi=>?_
        have hil:i<Lf.size:=by
         have:=(List.getElem?_eq_some_iff.1 hi).1
         simpa using this
        have e2:Lf.getD i false=false:=by
         have:=(List.getElem?_eq_some_iff.1 hi).2
         simpa [Array.getD,hil] using this
        rw[hLf i hil,decide_eq_false_iff_not] at e2
        have e3:=hno i (by omega)
        have hij:i≠j:=by omega
        rw[← done_set (i:=j) hij] at e3
        have hil2:i<(L.setIfInBounds j true).size:=by simp;omega
        generalize L.setIfInBounds j true=M at *
        have e4:M[i]=false:=by simpa [Array.getD,hil2] using e3
        rw[List.getElem?_eq_getElem (by simpa using hil2),Array.getElem_toList,e4]
       omega
    refine wpOp_mono ?_ (hstep k x L w i hil hkl hG hi hx)
    rintro a' w' ⟨v,rfl,hv,hw,hG'⟩
    refine ih _ (k+1) (put x (dst i) v) w' (by simpa using hs) (left_set hr.2 hl) (by omega) ?_ (hc.set hi) (set_keeps hi hd0) hG' ?_
    ·intro j hj
     rw[done_set (by omega)]
     exact hno j hj
    ·intro j hj hd
     by_cases hji:j=i
     ·subst hji
      unfold put
      rw[if_pos rfl]
      exact hv
     ·rw[done_set hji] at hd
      unfold put
      rw[if_neg (hdst i j hil hj hji)]
      exact hF j _ _ _ (hx j hj hd) hw
theorem closed_first {n:Nat} (h:(Region.ready md ops (Array.replicate n false)).contains 0=true):ClosedL md ops ((Array.replicate n false).setIfInBounds 0 true):=by
 refine ClosedL.set (fun k j hk=>?_) (by simpa using h)
 exfalso
 simp[Array.getD] at hk
end
open Go.RowKit Go.Lib Go.Maps
namespace Bm
theorem md_one (m:MdE)(h:∃oo cc,m.2=.slice oo m.1.P.length cc):∀u ∈ mdCells [m],u.oneCell'=true:=by
 intro u hu
 obtain⟨oo,cc,hv⟩:=h
 simp[mdCells,mdC] at hu
 rcases hu with rfl|rfl|rfl|rfl|rfl|rfl
 ·rfl
 ·rfl
 ·rfl
 ·rw[hv];rfl
 ·rfl
 ·rfl
theorem opAppMd {w:World} {o:Oper} {a:Act} {K:Act→World→Prop} {Q:Exit→Act→World→Prop} (s x:Operand)
  (ho:o.op=.call { callee:=.builtin .append,args:=#[s,x],argTypes:=#[78,78] })
  (B:Nat) (v:Value) (C:List MdE) (hs:a.eval s=v) (hown:Mds B v C w) (m:MdE) (b c:Nat) (hx:a.eval x=.slice (some ⟨b,0,none⟩) 1 c) (hb:w.heap[b]?=some (.cells #[.int .i64 m.1.dep,.string m.1.ty,.string m.1.su,m.2,.int .i64 m.1.cd,.string m.1.da] 143 (0,0))) (hRo:OwnQ B m.2 m.1.P w) (hlen:C.length≤1000) (hB:B≤w.heap.size)
  (h:∀v' w',Mds B v' (C ++ [m]) w'→w.grownBy w' v.ownBlock→K (a.put o.dst v') w'):o.wp Tryz.prog a w K Q:=by
 obtain⟨i0,hi0,hz0,hz1,hz2⟩:=info_parts Tryz.infoMd
 obtain⟨v',w',hr,h2,h3,h4,h5⟩:=run_append_own_at (P:=Tryz.prog) w B 78 o.type 143 i0 _ 6 88 Tryz.underlying78 hi0 hz0 hz1 hz2 rfl (by decide) v C.length (mdCells C) hown.row ⟨b,0,none⟩ 1 c (mdCells [m]) rfl (by
  intro j u hj
  rw[Addr.add_lit,Nat.zero_add]
  match j,hj with
  | 0,hj=>cases hj;simp[World.cell?,hb]
  | 1,hj=>cases hj;simp[World.cell?,hb]
  | 2,hj=>cases hj;simp[World.cell?,hb]
  | 3,hj=>cases hj;simp[World.cell?,hb]
  | 4,hj=>cases hj;simp[World.cell?,hb]
  | 5,hj=>cases hj;simp[World.cell?,hb]) (md_one m hRo.shape) (by unfold maxLen;omega) (by omega) hB
 unfold Oper.wp execOp
 simp only[ho,resolve,invoke,builtin,Sem.run_bind,Sem.run_pure,Result.andThen_ok,List.map_toArray,List.map_cons,List.map_nil,hs,hx,hr]
 refine h v' w' ⟨?_,?_⟩ h3
 ·rw[mdCells_join,List.length_append]
  exact h2
 ·intro e he
  have hx0:OwnQ B e.2 e.1.P w:=by
   rcases List.mem_append.1 he with he|he
   ·exact hown.own e he
   ·obtain rfl:=List.mem_singleton.1 he
    exact hRo
  exact World.ownsRow.kept hx0 h3 (own_apartA (show w.ownsRow B 180 2 _ _ _ from hx0) hown.row (by decide))
structure MaIn (w0:World)(g:Nat)(o:Option Addr)(cl cp z Bo a:Nat)(v:Value)(E:List MdE)(wx:World):Prop where
 lo:w0.heap.size≤Bo
 blk:wx.heap[Bo]?=some (.cells #[v] 78 (0,0))
 own:Mds w0.heap.size v E wx
 src:Src wx g o cl cp a z
 gr:w0.grownBy wx (some g)
def MaAt (w0:World)(g:Nat)(o:Option Addr)(cl cp z Bo A n:Nat)(wx:World):Prop:=∃v E a',MaIn w0 g o cl cp z Bo a' v E wx∧a'≤A∧E.length≤n∧∀e ∈ E,e.1.ok
theorem MaIn.gone {w0 wx wq:World} {g cl cp z Bo a q A:Nat} {o:Option Addr} {v:Value} {E:List MdE} (h:MaIn w0 g o cl cp z Bo a v E wx)(hgl:g<w0.heap.size)(hG:GoneBy wx g o cl cp A z q wq):∃a',a'≤A+q∧MaIn w0 g o cl cp z Bo a' v E wq:=by
 obtain⟨hgr,a2,ha2,hs2⟩:=hG
 have:=h.lo
 exact⟨a2,ha2,h.lo,(hgr.block Bo (hp_lt h.blk) (by intro e;have:=Option.some.inj e;omega)).trans h.blk,h.own.gr hgr hgl,hs2,gr_trans h.gr hgr⟩
theorem MaIn.below {w0 wx wq:World} {g cl cp z Bo a:Nat} {o:Option Addr} {v:Value} {E:List MdE} (h:MaIn w0 g o cl cp z Bo a v E wx)(hb:Below wx.heap.size wx wq):MaIn w0 g o cl cp z Bo a v E wq:=
 ⟨h.lo,(hb.block Bo (hp_lt h.blk)).trans h.blk,h.own.below hb,h.src.below hb,gr_trans h.gr (gr_below hb)⟩
theorem mdStay {B:Nat} {v:Value} {E:List MdE} {w w':World} (h:Mds B v E w) {Bk:Nat} {cs:Array Value} {t:TypeId} {fz:Nat × Nat} (hb:w.heap[Bk]?=some (.cells cs t fz))(ht:t≠180)(hv:∀k,v.ownBlock=some k→k≠Bk)(hk:∀k,k≠Bk→w'.heap[k]?=w.heap[k]?):Mds B v E w':=
 ⟨row_stay h.row fun k hq=>hk k (hv k hq),fun e he=>row_stay (h.own e he) fun k hq=>hk k (rnb (h.own e he) hb ht k hq)⟩
theorem MaIn.push {w0 wx w':World} {g cl cp z Bo a:Nat} {o:Option Addr} {v v':Value} {E E':List MdE} (h:MaIn w0 g o cl cp z Bo a v E wx)(hgl:g<w0.heap.size)(hO:Mds w0.heap.size v' E' w')(hG:wx.grownBy w' v.ownBlock) :
  w'.cell? ⟨Bo,0,none⟩=some v∧w'.frozen? ⟨Bo,0,none⟩=false∧MaIn w0 g o cl cp z Bo a v' E' (w'.setCell ⟨Bo,0,none⟩ v'):=by
 have hb:=rnb h.own.row h.blk (by decide)
 have h3':=(hG.block Bo (hp_lt h.blk) (fun e=>hb Bo e.symm rfl)).trans h.blk
 have hlow:∀k,v.ownBlock=some k→w0.heap.size≤k:=fun k hk=>(World.ownsRow.lt h.own.row k hk).1
 have hl:=h.lo
 exact⟨by simp[World.cell?,h3'],by simp[World.frozen?,h3'],hl,by simp[World.setCell,Array.getElem?_modify,h3'],mdStay hO h3' (by decide) (rnb hO.row h3' (by decide)) (fun k hk=>setOther hk),(h.src.row hG (fun k hk=>by have:=hlow k hk;omega)).setC (by omega),gr_setC (gr_row h.gr hG hlow) (by omega)⟩
def MaOut (w0:World)(g:Nat)(o:Option Addr)(cl cp z Bo A n:Nat)(e:Ending)(w':World):Prop:=e=.returned (.tuple #[])∧MaAt w0 g o cl cp z Bo A n w'
structure LfIn (w0:World)(g:Nat)(o:Option Addr)(cl cp z Bo a:Nat)(vv:Value)(E:List MdE)(bm depth:Nat)(T S:ByteArray)(v:Value)(F:List Fd)(cd:Nat)(da:ByteArray)(wx:World):Prop where
 ma:MaIn w0 g o cl cp z Bo a vv E wx
 row:OwnQ w0.heap.size v F wx
 blk:wx.heap[bm]?=some (.cells #[.int .i64 depth,.string T,.string S,v,.int .i64 cd,.string da] 143 (0,0))
 lo:w0.heap.size≤bm
 ne:bm≠Bo
 ap:∀k,vv.ownBlock=some k→k≠bm
theorem LfIn.gone {w0 wx wq:World} {g cl cp z Bo a q A bm depth cd:Nat} {o:Option Addr} {vv v:Value} {E:List MdE} {T S da:ByteArray} {F:List Fd} (h:LfIn w0 g o cl cp z Bo a vv E bm depth T S v F cd da wx)(hgl:g<w0.heap.size)(hG:GoneBy wx g o cl cp A z q wq):∃a',a'≤A+q∧LfIn w0 g o cl cp z Bo a' vv E bm depth T S v F cd da wq:=by
 obtain⟨a',h1,h2⟩:=h.ma.gone hgl hG
 have:=h.lo
 exact⟨a',h1,h2,h.row.gr hG.1 hgl,(hG.1.block bm (hp_lt h.blk) (by intro e;have:=Option.some.inj e;omega)).trans h.blk,h.lo,h.ne,h.ap⟩
theorem LfIn.data {w0 wx:World} {g cl cp z Bo a bm depth cd:Nat} {o:Option Addr} {vv v:Value} {E:List MdE} {T S da:ByteArray} {F:List Fd} (h:LfIn w0 g o cl cp z Bo a vv E bm depth T S v F cd da wx)(hgl:g<w0.heap.size)(t:ByteArray) :
  wx.cell? ⟨bm,5,none⟩=some (.string da)∧wx.frozen? ⟨bm,5,none⟩=false∧LfIn w0 g o cl cp z Bo a vv E bm depth T S v F cd t (wx.setCell ⟨bm,5,none⟩ (.string t)):=by
 have h3:=h.blk
 have hl:=h.lo
 refine⟨by simp[World.cell?,h3],by simp[World.frozen?,h3],⟨h.ma.lo,(setOther h.ne.symm).trans h.ma.blk,mdStay h.ma.own h3 (by decide) h.ap (fun k hk=>setOther hk),h.ma.src.setC (by omega),gr_setC h.ma.gr hl⟩,row_stay h.row fun k hk=>setOther (rnb h.row h3 (by decide) k hk),by simp[World.setCell,Array.getElem?_modify,h3],hl,h.ne,h.ap⟩
def m1bFact (vv:Value)(Bo depth:Nat)(g B:Nat)(j:Nat)(v:Value)(w:World):Prop:=
 match j with
 | 0=>v=.pointer (some ⟨Bo,0,none⟩)
 | 1=>v=.pointer (some ⟨Bo,0,none⟩)
 | 2=>v=.pointer (some ⟨Bo,0,none⟩)
 | 3=>v=vv
 | 4=>v=.int .i64 (depth:Int)
 | 5=>tabM 20 B 2 v w
 | 6=>v=.pointer (some ⟨g,0,none⟩)
 | 7=>numM 0 2 v
 | 8=>ptrM 20 B v w
 | 9=>txtM 20 v
 | 10=>∃ t9:ByteArray,v=.agg #[.string (⟨#[109,117,108,116,105,112,97,114,116]⟩:ByteArray),.string t9,.slice none 0 0]∧t9.size≤100
 | 11=>∃ t9:ByteArray,v=.agg #[.int .i64 (depth:Int),.string (⟨#[109,117,108,116,105,112,97,114,116]⟩:ByteArray),.string t9,.slice none 0 0,.int .i64 0,.string ⟨#[]⟩]∧t9.size≤100
 | 12=>∃ (b:Nat) (t9:ByteArray),v=.slice (some ⟨b,0,none⟩) 1 1∧B≤b∧w.heap[b]?=some (.cells #[.int .i64 (depth:Int),.string (⟨#[109,117,108,116,105,112,97,114,116]⟩:ByteArray),.string t9,.slice none 0 0,.int .i64 0,.string ⟨#[]⟩] 143 (0,0))∧t9.size≤100
 | _=>True
def m10bFact (vv:Value)(Bo depth:Nat)(T S da:ByteArray)(v0:Value)(cd:Nat)(_g B:Nat)(j:Nat)(v:Value)(w:World):Prop:=
 match j with
 | 0=>v=.pointer (some ⟨Bo,0,none⟩)
 | 1=>v=.pointer (some ⟨Bo,0,none⟩)
 | 2=>v=.pointer (some ⟨Bo,0,none⟩)
 | 3=>v=vv
 | 4=>v=.agg #[.int .i64 (depth:Int),.string T,.string S,v0,.int .i64 (cd:Int),.string da]
 | 5=>∃ b:Nat,v=.slice (some ⟨b,0,none⟩) 1 1∧B≤b∧w.heap[b]?=some (.cells #[.int .i64 (depth:Int),.string T,.string S,v0,.int .i64 (cd:Int),.string da] 143 (0,0))
 | _=>True
def m1bDst (j:Nat):Nat:=
 match j with
 | 0=>21
 | 1=>22
 | 2=>23
 | 3=>24
 | 4=>25
 | 5=>26
 | 6=>27
 | 7=>28
 | 8=>29
 | 9=>30
 | 10=>31
 | 11=>32
 | 12=>33
 | _=>999
def m10bDst (j:Nat):Nat:=
 match j with
 | 0=>73
 | 1=>74
 | 2=>75
 | 3=>76
 | 4=>77
 | 5=>78
 | _=>999
theorem m1bFact.gr {vv:Value} {Bo depth:Nat} {g B:Nat} (hB:g<B)(j:Nat)(v:Value)(w w':World)(h:m1bFact vv Bo depth g B j v w)(hg:w.grownBy w' (some g)):m1bFact vv Bo depth g B j v w':=by
 unfold m1bFact at h ⊢
 split
 case h_13=>
  obtain⟨b,t9,h1,h2,h3,h4⟩:=h
  exact⟨b,t9,h1,h2,by rw[hg.block b (hp_lt h3) (by intro e;have:=Option.some.inj e;omega)];exact h3,h4⟩
 all_goals first
  | exact tabM.gr h hg hB
  | exact ptrM.gr h hg hB
  | exact h
  | trivial
theorem m10bFact.gr {vv:Value} {Bo depth:Nat} {T S da:ByteArray} {v0:Value} {cd:Nat} {g B:Nat} (hB:g<B)(j:Nat)(v:Value)(w w':World)(h:m10bFact vv Bo depth T S da v0 cd g B j v w)(hg:w.grownBy w' (some g)):m10bFact vv Bo depth T S da v0 cd g B j v w':=by
 unfold m10bFact at h ⊢
 split
 case h_6=>
  obtain⟨b,h1,h2,h3⟩:=h
  exact⟨b,h1,h2,by rw[hg.block b (hp_lt h3) (by intro e;have:=Option.some.inj e;omega)];exact h3⟩
 all_goals first
  | exact tabM.gr h hg hB
  | exact ptrM.gr h hg hB
  | exact h
  | trivial
def LfAt (w0:World)(g:Nat)(o:Option Addr)(cl cp z Bo A n bm depth:Nat)(wx:World):Prop:=∃(vv:Value)(E:List MdE)(a':Nat)(T S:ByteArray)(v:Value)(F:List Fd)(cd:Nat)(da:ByteArray),LfIn w0 g o cl cp z Bo a' vv E bm depth T S v F cd da wx∧a'≤A∧E.length≤n∧(∀e ∈ E,e.1.ok)∧CtFit T S F 5∧cd≤2∧da.size≤1000
set_option maxRecDepth 40000 in
theorem srcMadeAt (w0:World)(g:Nat)(o:Option Addr)(c:List UInt8)(cp z Bo:Nat)(HC:Code g w0 o c)(hgl:g<w0.heap.size)(hl:c.length≤1048576)(hz:z≤12):∀(d p depth A n:Nat),p=4 ^ d→depth+d=3→A+50000*p≤500000000000→n+p≤300→∀wx:World,MaAt w0 g o c.length cp z Bo A n wx →
  Calls Tryz.prog 91 #[.pointer (some ⟨g,0,none⟩),.pointer (some ⟨Bo,0,none⟩),.int .i64 depth] wx (MaOut w0 g o c.length cp z Bo (A+50000*p) (n+p)):=by
 intro d
 induction d using Nat.strongRecOn with
 | ind d IH=>
  intro p depth A n hp hdd hA hn wx hM
  have hp1:1≤p:=by rw[hp];exact Nat.pow_pos (by decide)
  have HP:=mkHid hp
  have IHd:=mkHid IH
  clear hp IH
  have HM:=mkHid hM
  clear hM
  go_enter Tryz.func91,Tryz.ntmps91
  go_upto_region 0 with fail
  go_cut [20] from 200 (fun s wc=>∃ b:Bool,s=.bool b∧Hid (b=true→depth<3)∧Hid (MaAt w0 g o c.length cp z Bo (A+1) n wc))
  case first=>
   obtain⟨vv,E,a0,hI,ha0,hEl,hok⟩:=HM.out
   have hN:=mkHid (srcOne g o c cp a0 z 2 wx hI.src (HC.grown hI.gr (Nat.le_refl _)) (by omega) hl (by omega) (by omega))
   have HI:=mkHid hI
   have Hok:=mkHid hok
   have HSf0:Hid (MaAt w0 g o c.length cp z Bo (A+1) n wx):=⟨vv,E,a0,hI,by omega,hEl,hok⟩
   clear hI hok HM
   by_cases hd3n:depth<3
   case neg=>
    have hd3:¬((depth:Int)<3):=by omega
    clear hd3n hN
    go_wp2
    go_meet
    case rel=>exact⟨false,rfl,(fun h=>by cases h),HSf0⟩
   have hd3:(depth:Int)<3:=by omega
   have Hd3:=mkHid hd3n
   clear hd3n
   go_wp2_with fail
   refine hN.out.mono ?_
   rintro e w2 ⟨b,rfl,hs2,hg2⟩
   obtain⟨a9,ha9,hMq⟩:=HI.out.gone hgl (q:=1) ⟨hg2,a0+1,Nat.le_refl _,hs2⟩
   have HSf:Hid (MaAt w0 g o c.length cp z Bo (A+1) n w2):=⟨vv,E,a9,hMq,by omega,hEl,Hok.out⟩
   obtain⟨oE,cE,rfl⟩:=hMq.own.shape
   have hcB:w2.cell? ⟨Bo,0,none⟩=some (.slice oE E.length cE):=by simp[World.cell?,hMq.blk]
   clear hN hs2 hg2 HI hMq Hok
   cases b
   ·go_wp2
    go_meet
    case rel=>exact⟨_,rfl,fun _=>Hd3.out,HSf⟩
   ·by_cases h20:E.length<20
    ·have h20i:(E.length:Int)<20:=by omega
     go_wp2
     go_meet
     case rel=>exact⟨_,rfl,fun _=>Hd3.out,HSf⟩
    ·have h20i:¬((E.length:Int)<20):=by omega
     go_wp2
     go_meet
     case rel=>exact⟨_,rfl,fun _=>Hd3.out,HSf⟩
  case rest=>
   clear HM
   obtain⟨b,rfl,hbd,HM⟩:=hcut
   cases b
   case false=>
    clear hbd IHd HP
    go_upto_region 6 with fail
    go_cut [7] from 200 (fun pv wx=>∃ bm:Nat,pv=.pointer (some ⟨bm,0,none⟩)∧Hid (LfAt w0 g o c.length cp z Bo (A+40100) n bm depth wx))
    case first=>
     obtain⟨vv,E,a0,hI,ha0,hEl,hok⟩:=HM.out
     have cC:=mkHid (srcContent g o c cp a0 z wc hI.src (HC.grown hI.gr (Nat.le_refl _)) (by omega) hl)
     have HI:=mkHid hI
     have Hok:=mkHid hok
     have hsz0:w0.heap.size≤wc.heap.size:=hI.gr.size
     clear hI hok HM
     go_wp2_with fail
     refine cC.out.mono ?_
     rintro e w2 ⟨T,S,v0,F,a1,rfl,hfit,hO,ha1,hs1,hg1⟩
     obtain⟨a2,ha2,hM2⟩:=HI.out.gone hgl (q:=40000) ⟨hg1,a1,ha1,hs1⟩
     have HO2:=mkHid (hO.base hsz0)
     have Hfit:=mkHid hfit
     have hN:=mkHid (srcN g o c cp a2 z 3 w2 hM2.src (HC.grown hM2.gr (Nat.le_refl _)) (by omega) hl (by omega) (by omega))
     have HM2:=mkHid hM2
     obtain⟨oF,cF,rfl⟩:=hO.shape
     clear cC hO hs1 hg1 HI hfit hM2
     go_wp2_with fail
     refine hN.out.mono ?_
     rintro e w3 ⟨cd,rfl,hcd,hs3,hg3⟩
     obtain⟨a3,ha3,hM3⟩:=HM2.out.gone hgl (q:=1) ⟨hg3,a2+1,Nat.le_refl _,hs3⟩
     have HSf:Hid (LfAt w0 g o c.length cp z Bo (A+40100) n w3.heap.size depth (w3.alloc (.cells #[.int .i64 (depth:Int),.string T,.string S,.slice oF F.length cF,.int .i64 (cd:Int),.string ⟨#[]⟩] 143))):=by
      have hb3:Below w3.heap.size w3 (w3.alloc (.cells #[.int .i64 (depth:Int),.string T,.string S,.slice oF F.length cF,.int .i64 (cd:Int),.string ⟨#[]⟩] 143)):=(Below.refl _ _).alloc (Nat.le_refl _) _
      have hBo:=hp_lt hM3.blk
      exact⟨vv,E,a3,T,S,_,F,cd,⟨#[]⟩,⟨hM3.below hb3,(HO2.out.gr hg3 hgl).below hb3,hp_alloc _ _,hM3.gr.size,by omega,fun k hk=>by have:=(World.ownsRow.lt hM3.own.row k hk).2;omega⟩,by omega,hEl,Hok.out,Hfit.out,by omega,by show 0≤1000;omega⟩
     clear hN hs3 hg3 HM2 hM3 HO2 Hfit Hok
     go_wp2
     go_meet
     case rel=>exact⟨_,rfl,HSf⟩
    case rest=>
     clear HM
     obtain⟨bm,rfl,L1⟩:=hcut
     go_upto_region 7 with fail
     go_cut [] from 200 (fun wx=>Hid (LfAt w0 g o c.length cp z Bo (A+40300) n bm depth wx))
     case first=>
      obtain⟨vv,E,a0,T,S,v0,F,cd,da,hL,ha0,hEl,hok,hfit,hcd,hda⟩:=L1.out
      have hc2:=hL.ma.src.c2
      have hwm:IntKind.i64.wrap (6*(z:Int))=6*(z:Int):=wrap_inB _ (by omega) (by omega)
      have hwn:IntKind.i64.wrap (20+6*(z:Int))=20+6*(z:Int):=wrap_inB _ (by omega) (by omega)
      have hN:=mkHid (srcN g o c cp a0 z (20+6*(z:Int)) wc hL.ma.src (HC.grown hL.ma.gr (Nat.le_refl _)) (by omega) hl (by omega) (by omega))
      have HL:=mkHid hL
      have Hfit:=mkHid hfit
      have Hok:=mkHid hok
      clear hL hfit hok L1
      go_wp2_with fail
      refine hN.out.mono ?_
      rintro e w2 ⟨n1,rfl,hn1,hs2,hg2⟩
      obtain⟨a2,ha2,hL2⟩:=HL.out.gone hgl (q:=1) ⟨hg2,a0+1,Nat.le_refl _,hs2⟩
      have cB:=mkHid (srcBytes g o c cp a2 z n1 w2 hL2.ma.src (HC.grown hL2.ma.gr (Nat.le_refl _)) (by omega) hl (by omega))
      have HL2:=mkHid hL2
      clear hN hs2 hg2 hL2 HL hc2
      go_wp2_with fail
      refine cB.out.mono ?_
      rintro e w3 ⟨t,a3,rfl,ht,ha3,hs3,hg3⟩
      obtain⟨a4,ha4,hL3⟩:=HL2.out.gone hgl (A:=a2) (q:=1+2*n1) ⟨hg3,a3,by omega,hs3⟩
      obtain⟨q5,f5,hL4⟩:=hL3.data hgl t
      have HSf:Hid (LfAt w0 g o c.length cp z Bo (A+40300) n bm depth (w3.setCell ⟨bm,5,none⟩ (.string t))):=⟨vv,E,a4,T,S,v0,F,cd,t,hL4,by omega,hEl,Hok.out,Hfit.out,hcd,by omega⟩
      clear cB hs3 hg3 hL3 hL4 HL2 Hfit Hok
      go_wp2
      go_meet
      case rel=>exact HSf
     case rest=>
      have L2:=mkHid hcut.out
      clear hcut L1
      go_upto_region 8 with fail
      go_cut [66] from 200 (fun s wx=>∃ b:Bool,s=.bool b∧Hid (LfAt w0 g o c.length cp z Bo (A+40301) n bm depth wx))
      case first=>
       obtain⟨vv,E,a0,T,S,v0,F,cd,da,hL,ha0,hEl,hok,hfit,hcd,hda⟩:=L2.out
       have hN:=mkHid (srcOne g o c cp a0 z 4 wc hL.ma.src (HC.grown hL.ma.gr (Nat.le_refl _)) (by omega) hl (by omega) (by omega))
       have HL:=mkHid hL
       have Hfit:=mkHid hfit
       have Hok:=mkHid hok
       clear hL hfit hok L2
       go_wp2_with fail
       refine hN.out.mono ?_
       rintro e w2 ⟨b,rfl,hs2,hg2⟩
       obtain⟨a2,ha2,hL2⟩:=HL.out.gone hgl (q:=1) ⟨hg2,a0+1,Nat.le_refl _,hs2⟩
       have HSf:Hid (LfAt w0 g o c.length cp z Bo (A+40301) n bm depth w2):=⟨vv,E,a2,T,S,v0,F,cd,da,hL2,by omega,hEl,Hok.out,Hfit.out,hcd,hda⟩
       clear hN hs2 hg2 hL2 HL Hfit Hok
       go_wp2
       go_meet
       case rel=>exact⟨_,rfl,HSf⟩
      case rest=>
       clear L2
       obtain⟨b,rfl,L2⟩:=hcut
       go_upto_if 66 with fail
       go_cut [] from 200 (fun wx=>Hid (LfAt w0 g o c.length cp z Bo (A+40310) n bm depth wx))
       case first=>
        obtain⟨vv,E,a0,T,S,v0,F,cd,da,hL,ha0,hEl,hok,hfit,hcd,hda⟩:=L2.out
        cases b
        ·have HSf:Hid (LfAt w0 g o c.length cp z Bo (A+40310) n bm depth wc):=⟨vv,E,a0,T,S,v0,F,cd,da,hL,by omega,hEl,hok,hfit,hcd,hda⟩
         clear hL hok hfit L2
         go_wp2
         go_meet
         case rel=>exact HSf
        ·have hbA:∀cs,Below wc.heap.size wc (wc.alloc (.cells cs 9)):=fun cs=>(Below.refl _ _).alloc (Nat.le_refl _) _
         have hN:=mkHid (fun cs=>srcN g o c cp a0 z 5 (wc.alloc (.cells cs 9)) (hL.ma.src.below (hbA cs)) (HC.grown (gr_trans hL.ma.gr (gr_below (hbA cs))) (Nat.le_refl _)) (by omega) hl (by omega) (by omega))
         have hgc:g<wc.heap.size:=hL.ma.src.lt
         have HL:=mkHid hL
         have Hfit:=mkHid hfit
         have Hok:=mkHid hok
         clear hL hfit hok L2
         go_wp2_with fail
         refine(hN.out _).mono ?_
         rintro e w2 ⟨u,rfl,hu,hs2,hg2⟩
         obtain⟨t,hct,hzt⟩:=table_at (M:=20) hg2 hgc (show u<5 by omega) (by decide)
         have hu5:u<5:=by omega
         obtain⟨a2,ha2,hL2⟩:=HL.out.gone hgl (q:=1) ⟨gr_trans (gr_below (hbA _)) hg2,a0+1,Nat.le_refl _,hs2⟩
         obtain⟨q5,f5,hL4⟩:=hL2.data hgl t
         have HSf:Hid (LfAt w0 g o c.length cp z Bo (A+40310) n bm depth (w2.setCell ⟨bm,5,none⟩ (.string t))):=⟨vv,E,a2,T,S,v0,F,cd,t,hL4,by omega,hEl,Hok.out,Hfit.out,hcd,by omega⟩
         clear hN hs2 hg2 hL2 hL4 HL hbA Hfit Hok
         go_wp2
         go_meet
         case rel=>exact HSf
       case rest=>
        have L3:=mkHid hcut.out
        clear hcut L2
        obtain⟨vv,E,a0,T,S,v0,F,cd,da,hL,ha0,hEl,hok,hfit,hcd,hda⟩:=L3.out
        have Hfit:=mkHid hfit
        have Hok:=mkHid hok
        have HI:=mkHid hL.ma
        have HRw:=mkHid hL.row
        have HB4:Hid (wc.cell? ⟨Bo,0,none⟩=some vv):=by show _=_;simp[World.cell?,hL.ma.blk]
        have HL0:Hid (wc.cell? ⟨bm,0,none⟩=some (.int .i64 (depth:Int))):=by show _=_;simp[World.cell?,hL.blk]
        have HL1:Hid (wc.cell? ⟨bm,1,none⟩=some (.string T)):=by show _=_;simp[World.cell?,hL.blk]
        have HL2:Hid (wc.cell? ⟨bm,2,none⟩=some (.string S)):=by show _=_;simp[World.cell?,hL.blk]
        have HL3:Hid (wc.cell? ⟨bm,3,none⟩=some v0):=by show _=_;simp[World.cell?,hL.blk]
        have HL4:Hid (wc.cell? ⟨bm,4,none⟩=some (.int .i64 (cd:Int))):=by show _=_;simp[World.cell?,hL.blk]
        have HL5:Hid (wc.cell? ⟨bm,5,none⟩=some (.string da)):=by show _=_;simp[World.cell?,hL.blk]
        have hBo:=hL.ma.lo
        have hbml:=hL.lo
        have HCW:Hid (Code g wc o c):=HC.grown hL.ma.gr (Nat.le_refl _)
        have hgr0:g<wc.heap.size:=hL.ma.src.lt
        have HG:Hid (GoneBy wc g o c.length cp a0 z (300*1) wc.drew):=⟨gr_below (Below.refl _ _).drew,a0,by omega,hL.ma.src.below (Below.refl _ _).drew⟩
        clear hL hfit hok L3
        go_wp2
        refine wp_region_any (by kernel_rfl) ?_
        refine wpAny_take (i:=0) (v:=.pointer (some ⟨Bo,0,none⟩)) rfl (by kernel_rfl) (by kernel_rfl) (by kernel_rfl) (fun _ _ _ h=>h) (Or.inl ⟨by rfl,?_⟩) ?_
        ·intro w
         go_simp
        refine wpAny_phaseD 0 6 3 #[true,true,true,true,true,true,false,false,false] m10bDst (fun x=>rgAct [] [_,_,_,_,_,_,_,_,_,_,_,_,_,_,_,_,_,_,_,_,_,_,_,_,_,_,_,_,_,_,_,_,_,_,_,_,_,_,_,_,_,_,_,_,_,_,_,_,_,_,_,_,_,_,_,_,_,_,_,_,_,_,_,_,_,_,_,_,_,_,_,_,_,x 73,x 74,x 75,x 76,x 77,x 78,_,_] []) (m10bFact vv Bo depth T S da v0 cd g wc.heap.size) (fun q w=>GoneBy wc g o c.length cp (a0) z (300*q) w) (fun w w'=>w.grownBy w' (some g)) rfl rfl (by decide) rfl (by kernel_rfl) (by kernel_rfl) ?_ (m10bFact.gr hgr0) ?hend ?hstep _ _ 1 (fun j=>if j=73 then .pointer (some ⟨Bo,0,none⟩) else undef) _ rfl rfl rfl (by intro j hj;rw[done_set (by omega)];simp[Array.getD]) (closed_first (by kernel_rfl)) rfl HG.out ?_
        ·intro i j hi hj hne
         have e1:∀q,q<6→∀r,r<6→q≠r→m10bDst q≠m10bDst r:=by decide
         exact e1 j hj i hi hne
        case hend=>
         intro x wq hG hf
         have f3:x 76=vv:=hf 3 (by decide)
         have f0:x 73=.pointer (some ⟨Bo,0,none⟩):=hf 0 (by decide)
         obtain⟨b,e4,hb,hbk⟩:=hf 5 (by decide)
         have e4':x 78=.slice (some ⟨b,0,none⟩) 1 1:=e4
         have hRq:OwnQ w0.heap.size v0 F wq:=HRw.out.gr hG.1 hgl
         clear e4
         obtain⟨a9,ha9,hMq⟩:=HI.out.gone hgl hG
         have HMq:=mkHid hMq
         have hsq:w0.heap.size≤wq.heap.size:=hMq.gr.size
         have hOwn:=hMq.own
         clear hf hG hMq
         refine wpAny_ready (rs:=[6]) (by kernel_rfl) (by simp) ?_
         refine AllReady.cons rfl (fun K hK=>?_) AllReady.nil
         rw[if_pos (by rfl)]
         refine opAppMd _ _ rfl w0.heap.size vv E f3 hOwn (({ dep:=depth,ty:=T,su:=S,P:=F,cd:=cd,da:=da }:Md),v0) b 1 e4' hbk hRq (by omega) hsq ?_
         intro v' w' hO' hG'
         refine hK _ _ ?_
         clear hK K
         obtain⟨hc3,hf3,hIn⟩:=HMq.out.push hgl hO' hG'
         have HSf:Hid (MaAt w0 g o c.length cp z Bo (A+49000) (n+1) (w'.setCell ⟨Bo,0,none⟩ v')):=by
          refine⟨v',_,a9,hIn,by omega,by rw[List.length_append];exact Nat.add_le_add_right hEl 1,fun e he=>?_⟩
          rcases List.mem_append.1 he with he|he
          ·exact Hok.out e he
          ·obtain rfl:=List.mem_singleton.1 he
           have hft:=Hfit.out
           exact⟨by show depth≤3;omega,hft.t,hft.s,Nat.le_trans hft.n (by decide),hft.p,hcd,hda⟩
         obtain⟨o2,c2,rfl⟩:=hO'.shape
         obtain⟨n2,hn2⟩:∃n,(E ++ [(({ dep:=depth,ty:=T,su:=S,P:=F,cd:=cd,da:=da }:Md),v0)]).length=n:=⟨_,rfl⟩
         rw[hn2] at HSf
         rw[hn2]
         clear hn2 hO' hG' hIn HMq HI HG HB4 hbk hOwn
         show wpAny _ _ _ _ 2 _ (rgAct [] [_,_,_,_,_,_,_,_,_,_,_,_,_,_,_,_,_,_,_,_,_,_,_,_,_,_,_,_,_,_,_,_,_,_,_,_,_,_,_,_,_,_,_,_,_,_,_,_,_,_,_,_,_,_,_,_,_,_,_,_,_,_,_,_,_,_,_,_,_,_,_,_,_,x 73,x 74,x 75,x 76,x 77,x 78,.slice o2 n2 c2,_] []) _
         rw[f0]
         clear f0 f3
         generalize x 74=y74
         generalize x 75=y75
         generalize x 76=y76
         generalize x 77=y77
         generalize x 78=y78
         go_simp
         refine wpAny_ready (rs:=[7]) (by kernel_rfl) (by simp) ?_
         refine AllReady.cons rfl (fun K hK=>?_) AllReady.nil
         go_simp
         refine hK _ _ ?_
         clear hK K
         go_simp
         refine wpAny_ready (rs:=[8]) (by kernel_rfl) (by simp) ?_
         refine AllReady.cons rfl (fun K hK=>?_) AllReady.nil
         go_simp
         refine hK _ _ ?_
         clear hK K
         go_simp
         refine wpAny_done (by kernel_rfl) ?_ _
         go_simp
         go_wp2
         refine bodyPost_end (v:=.tuple #[]) (results_none Tryz.results91 _ _ _) rfl ⟨rfl,?_⟩
         obtain⟨v,E,a',z1,z2,z3,z4⟩:=HSf.out
         exact⟨v,E,a',z1,by omega,by omega,z4⟩
        case hstep=>
         intro k2 x L wr i hil hkl hG hi hf
         rcases (show i=0∨i=1∨i=2∨i=3∨i=4∨i=5 by omega) with rfl|rfl|rfl|rfl|rfl|rfl
         ·clear hi hf
          refine wpOp_step rfl (fun K hK=>?_)
          go_simp
          exact hK _ _ ⟨.pointer (some ⟨Bo,0,none⟩),by simp[put,m10bDst],rfl,gr_refl _ _,(hG.still (Below.refl _ _)).mono (by omega)⟩
         ·clear hi hf
          refine wpOp_step rfl (fun K hK=>?_)
          go_simp
          exact hK _ _ ⟨.pointer (some ⟨Bo,0,none⟩),by simp[put,m10bDst],rfl,gr_refl _ _,(hG.still (Below.refl _ _)).mono (by omega)⟩
         ·have e0:x 74=.pointer (some ⟨Bo,0,none⟩):=hf 1 (by omega) (ready_dep hi rfl 1 (by kernel_rfl))
          clear hi hf
          refine wpOp_step rfl (fun K hK=>?_)
          go_simp
          exact hK _ _ ⟨.pointer (some ⟨Bo,0,none⟩),by simp[put,m10bDst,e0],rfl,gr_refl _ _,(hG.still (Below.refl _ _)).mono (by omega)⟩
         ·have e0:x 75=.pointer (some ⟨Bo,0,none⟩):=hf 2 (by omega) (ready_dep hi rfl 2 (by kernel_rfl))
          clear hi hf
          have hcel:wr.cell? ⟨Bo,0,none⟩=some vv:=gr_cell hG.1 (show Bo≠g by omega) HB4.out
          refine wpOp_step rfl (fun K hK=>?_)
          go_simp
          exact hK _ _ ⟨vv,by simp[put,m10bDst,e0],rfl,gr_refl _ _,(hG.still (Below.refl _ _)).mono (by omega)⟩
         ·clear hi hf
          have q0:=gr_cell hG.1 (show bm≠g by omega) HL0.out
          have q1:=gr_cell hG.1 (show bm≠g by omega) HL1.out
          have q2:=gr_cell hG.1 (show bm≠g by omega) HL2.out
          have q3:=gr_cell hG.1 (show bm≠g by omega) HL3.out
          have q4:=gr_cell hG.1 (show bm≠g by omega) HL4.out
          have q5:=gr_cell hG.1 (show bm≠g by omega) HL5.out
          refine wpOp_step rfl (fun K hK=>?_)
          go_simp
          exact hK _ _ ⟨.agg #[.int .i64 (depth:Int),.string T,.string S,v0,.int .i64 (cd:Int),.string da],by simp[put,m10bDst],rfl,gr_refl _ _,(hG.still (Below.refl _ _)).mono (by omega)⟩
         ·have e9:x 77=.agg #[.int .i64 (depth:Int),.string T,.string S,v0,.int .i64 (cd:Int),.string da]:=hf 4 (by omega) (ready_dep hi rfl 4 (by kernel_rfl))
          clear hi hf
          refine wpOp_step rfl (fun K hK=>?_)
          go_simp
          have hbb:∀cs,Below wr.heap.size wr (wr.alloc (.cells cs 143)):=fun cs=>(Below.refl _ _).alloc (Nat.le_refl _) _
          exact hK _ _ ⟨.slice (some ⟨wr.heap.size,0,none⟩) 1 1,by simp[put,m10bDst,e9],⟨wr.heap.size,rfl,hG.1.size,hp_alloc _ _⟩,gr_below (hbb _),(hG.still (hbb _)).mono (by omega)⟩
        ·intro j hj hd
         by_cases h0:j=0
         ·subst h0
          exact rfl
         ·rw[done_set h0] at hd
          simp[Array.getD] at hd
   case true=>
    obtain⟨d1,rfl⟩:∃d1,d=d1+1:=⟨d-1,by have:=hbd.out rfl;omega⟩
    clear hbd
    obtain⟨q,hq⟩:∃q,q=4 ^ d1:=⟨_,rfl⟩
    have hpq:p=4*q:=by rw[HP.out,hq,Nat.pow_succ];omega
    have hq1:1≤q:=by rw[hq];exact Nat.pow_pos (by decide)
    have IHq:=mkHid (IHd.out d1 (by omega) q (depth+1))
    have HQ:=mkHid hq
    clear hq IHd HP
    subst hpq
    obtain⟨vv,E,a0,hI,ha0,hEl,hok⟩:=HM.out
    have Hok:=mkHid hok
    have HI:=mkHid hI
    have HB4:Hid (wc.cell? ⟨Bo,0,none⟩=some vv):=by show _=_;simp[World.cell?,hI.blk]
    have HCW:Hid (Code g wc o c):=HC.grown hI.gr (Nat.le_refl _)
    have hgr0:g<wc.heap.size:=hI.src.lt
    have hBo:=hI.lo
    have HG:Hid (GoneBy wc g o c.length cp a0 z (300*1) wc.drew):=⟨gr_below (Below.refl _ _).drew,a0,by omega,hI.src.below (Below.refl _ _).drew⟩
    clear hI hok HM
    go_upto_region 1 with fail
    go_cut [] from 200 (fun wx=>Hid (MaAt w0 g o c.length cp z Bo (A+4000) (n+1) wx))
    case first=>
     refine wp_region_any (by kernel_rfl) ?_
     refine wpAny_take (i:=0) (v:=.pointer (some ⟨Bo,0,none⟩)) rfl (by kernel_rfl) (by kernel_rfl) (by kernel_rfl) (fun _ _ _ h=>h) (Or.inl ⟨by rfl,?_⟩) ?_
     ·intro w
      go_simp
     refine wpAny_phaseD 0 13 3 #[true,true,true,true,true,true,true,true,true,true,true,true,true,false,false,false] m1bDst (fun x=>rgAct [] [_,_,_,_,_,_,_,_,_,_,_,_,_,_,_,_,_,_,_,_,_,x 21,x 22,x 23,x 24,x 25,x 26,x 27,x 28,x 29,x 30,x 31,x 32,x 33,_,_,_,_,_,_,_,_,_,_,_,_,_,_,_,_,_,_,_,_,_,_,_,_,_,_,_,_,_,_,_,_,_,_,_,_,_,_,_,_,_,_,_,_,_,_,_] []) (m1bFact vv Bo depth g wc.heap.size) (fun q w=>GoneBy wc g o c.length cp (a0) z (300*q) w) (fun w w'=>w.grownBy w' (some g)) rfl rfl (by decide) rfl (by kernel_rfl) (by kernel_rfl) ?_ (m1bFact.gr hgr0) ?hend ?hstep _ _ 1 (fun j=>if j=21 then .pointer (some ⟨Bo,0,none⟩) else undef) _ rfl rfl rfl (by intro j hj;rw[done_set (by omega)];simp[Array.getD]) (closed_first (by kernel_rfl)) rfl HG.out ?_
     ·intro i j hi hj hne
      have e1:∀q,q<13→∀r,r<13→q≠r→m1bDst q≠m1bDst r:=by decide
      exact e1 j hj i hi hne
     case hend=>
      intro x wq hG hf
      have f3:x 24=vv:=hf 3 (by decide)
      have f0:x 21=.pointer (some ⟨Bo,0,none⟩):=hf 0 (by decide)
      obtain⟨b,t9,e4,hb,hbk,hz9⟩:=hf 12 (by decide)
      have e4':x 33=.slice (some ⟨b,0,none⟩) 1 1:=e4
      clear e4
      obtain⟨a9,ha9,hMq⟩:=HI.out.gone hgl hG
      have HMq:=mkHid hMq
      have hsq:w0.heap.size≤wq.heap.size:=hMq.gr.size
      have hOwn:=hMq.own
      clear hf hG hMq
      refine wpAny_ready (rs:=[13]) (by kernel_rfl) (by simp) ?_
      refine AllReady.cons rfl (fun K hK=>?_) AllReady.nil
      rw[if_pos (by rfl)]
      refine opAppMd _ _ rfl w0.heap.size vv E f3 hOwn (({ dep:=depth,ty:=(⟨#[109,117,108,116,105,112,97,114,116]⟩:ByteArray),su:=t9,P:=[],cd:=0,da:=⟨#[]⟩ }:Md),Value.slice none 0 0) b 1 e4' hbk (OwnQ.nil _ _) (by omega) hsq ?_
      intro v' w' hO' hG'
      refine hK _ _ ?_
      clear hK K
      obtain⟨hc3,hf3,hIn⟩:=HMq.out.push hgl hO' hG'
      have HSf:Hid (MaAt w0 g o c.length cp z Bo (A+4000) (n+1) (w'.setCell ⟨Bo,0,none⟩ v')):=by
       refine⟨v',_,a9,hIn,by omega,by rw[List.length_append];exact Nat.add_le_add_right hEl 1,fun e he=>?_⟩
       rcases List.mem_append.1 he with he|he
       ·exact Hok.out e he
       ·obtain rfl:=List.mem_singleton.1 he
        exact⟨by show depth≤3;omega,(by show((⟨#[109,117,108,116,105,112,97,114,116]⟩:ByteArray)).size≤100;decide),hz9,by simp,(fun f hf=>by simp at hf),(by show 0≤2;omega),(by show 0≤1000;omega)⟩
      obtain⟨o2,c2,rfl⟩:=hO'.shape
      obtain⟨n2,hn2⟩:∃n,(E ++ [(({ dep:=depth,ty:=(⟨#[109,117,108,116,105,112,97,114,116]⟩:ByteArray),su:=t9,P:=[],cd:=0,da:=⟨#[]⟩ }:Md),Value.slice none 0 0)]).length=n:=⟨_,rfl⟩
      rw[hn2] at HSf
      rw[hn2]
      clear hn2 hO' hG' hIn HMq HI HG HB4 hbk hOwn
      show wpAny _ _ _ _ 2 _ (rgAct [] [_,_,_,_,_,_,_,_,_,_,_,_,_,_,_,_,_,_,_,_,_,x 21,x 22,x 23,x 24,x 25,x 26,x 27,x 28,x 29,x 30,x 31,x 32,x 33,.slice o2 n2 c2,_,_,_,_,_,_,_,_,_,_,_,_,_,_,_,_,_,_,_,_,_,_,_,_,_,_,_,_,_,_,_,_,_,_,_,_,_,_,_,_,_,_,_,_,_,_] []) _
      rw[f0]
      clear f0 f3
      generalize x 22=y22
      generalize x 23=y23
      generalize x 24=y24
      generalize x 25=y25
      generalize x 26=y26
      generalize x 27=y27
      generalize x 28=y28
      generalize x 29=y29
      generalize x 30=y30
      generalize x 31=y31
      generalize x 32=y32
      generalize x 33=y33
      go_simp
      refine wpAny_ready (rs:=[14]) (by kernel_rfl) (by simp) ?_
      refine AllReady.cons rfl (fun K hK=>?_) AllReady.nil
      go_simp
      refine hK _ _ ?_
      clear hK K
      go_simp
      refine wpAny_ready (rs:=[15]) (by kernel_rfl) (by simp) ?_
      refine AllReady.cons rfl (fun K hK=>?_) AllReady.nil
      go_simp
      refine hK _ _ ?_
      clear hK K
      go_simp
      refine wpAny_done (by kernel_rfl) ?_ _
      go_simp
      go_wp2
      go_meet
      case rel=>exact HSf
     case hstep=>
      intro k2 x L wr i hil hkl hG hi hf
      rcases (show i=0∨i=1∨i=2∨i=3∨i=4∨i=5∨i=6∨i=7∨i=8∨i=9∨i=10∨i=11∨i=12 by omega) with rfl|rfl|rfl|rfl|rfl|rfl|rfl|rfl|rfl|rfl|rfl|rfl|rfl
      ·clear hi hf
       refine wpOp_step rfl (fun K hK=>?_)
       go_simp
       exact hK _ _ ⟨.pointer (some ⟨Bo,0,none⟩),by simp[put,m1bDst],rfl,gr_refl _ _,(hG.still (Below.refl _ _)).mono (by omega)⟩
      ·clear hi hf
       refine wpOp_step rfl (fun K hK=>?_)
       go_simp
       exact hK _ _ ⟨.pointer (some ⟨Bo,0,none⟩),by simp[put,m1bDst],rfl,gr_refl _ _,(hG.still (Below.refl _ _)).mono (by omega)⟩
      ·have e0:x 22=.pointer (some ⟨Bo,0,none⟩):=hf 1 (by omega) (ready_dep hi rfl 1 (by kernel_rfl))
       clear hi hf
       refine wpOp_step rfl (fun K hK=>?_)
       go_simp
       exact hK _ _ ⟨.pointer (some ⟨Bo,0,none⟩),by simp[put,m1bDst,e0],rfl,gr_refl _ _,(hG.still (Below.refl _ _)).mono (by omega)⟩
      ·have e0:x 23=.pointer (some ⟨Bo,0,none⟩):=hf 2 (by omega) (ready_dep hi rfl 2 (by kernel_rfl))
       clear hi hf
       have hcel:wr.cell? ⟨Bo,0,none⟩=some vv:=gr_cell hG.1 (show Bo≠g by omega) HB4.out
       refine wpOp_step rfl (fun K hK=>?_)
       go_simp
       exact hK _ _ ⟨vv,by simp[put,m1bDst,e0],rfl,gr_refl _ _,(hG.still (Below.refl _ _)).mono (by omega)⟩
      ·clear hi hf
       refine wpOp_step rfl (fun K hK=>?_)
       go_simp
       exact hK _ _ ⟨.int .i64 (depth:Int),by simp[put,m1bDst],rfl,gr_refl _ _,(hG.still (Below.refl _ _)).mono (by omega)⟩
      ·clear hi hf
       refine wpOp_step rfl (fun K hK=>?_)
       go_simp
       have hbb:∀cs,Below wr.heap.size wr (wr.alloc (.cells cs 9)):=fun cs=>(Below.refl _ _).alloc (Nat.le_refl _) _
       refine hK _ _ ⟨.slice (some ⟨wr.heap.size,0,none⟩) 2 2,by simp[put,m1bDst],⟨_,rfl,hG.1.size,?_⟩,gr_below (hbb _),(hG.still (hbb _)).mono (by omega)⟩
       intro k hk
       exact tabM_get (by simpa using hk) (by decide)
      ·clear hi hf
       refine wpOp_step rfl (fun K hK=>?_)
       go_simp
       exact hK _ _ ⟨.pointer (some ⟨g,0,none⟩),by simp[put,m1bDst],rfl,gr_refl _ _,(hG.still (Below.refl _ _)).mono (by omega)⟩
      ·have e0:x 27=.pointer (some ⟨g,0,none⟩):=hf 6 (by omega) (ready_dep hi rfl 6 (by kernel_rfl))
       clear hi hf
       obtain⟨hgr,a1,ha1,hs1⟩:=hG
       have hN:=srcN g o c cp a1 z 2 wr hs1 (HCW.out.grown hgr (Nat.le_refl _)) (by omega) hl (by omega) (by omega)
       refine wpOp_step rfl (fun K hK=>?_)
       go_simp
       refine hN.mono ?_
       rintro e w2 ⟨v,rfl,hv,hs2,hg2⟩
       go_simp
       exact hK _ _ ⟨.int .i64 (v:Int),by simp[put,m1bDst,e0],⟨v,rfl,Nat.zero_le _,by omega⟩,hg2,gr_trans hgr hg2,a1+1,by omega,hs2⟩
      ·have f0:=hf 5 (by omega) (ready_dep hi rfl 5 (by kernel_rfl))
       have f2:=hf 7 (by omega) (ready_dep hi rfl 7 (by kernel_rfl))
       clear hi hf
       obtain⟨b,e0,hb,ht⟩:=f0
       obtain⟨k2,e1,-,hk⟩:=f2
       obtain⟨t,hc,hts⟩:=ht k2 hk
       have hk3:(k2:Int)<2:=by omega
       have e0':x 26=.slice (some ⟨b,0,none⟩) 2 2:=e0
       have e1':x 28=.int .i64 k2:=e1
       clear e0 e1 ht
       refine wpOp_step rfl (fun K hK=>?_)
       go_simp
       exact hK _ _ ⟨.pointer (some ⟨b,k2,none⟩),by simp[put,m1bDst,e0',e1'],⟨b,k2,t,rfl,hb,hc,hts⟩,gr_refl _ _,(hG.still (Below.refl _ _)).mono (by omega)⟩
      ·have f3:=hf 8 (by omega) (ready_dep hi rfl 8 (by kernel_rfl))
       clear hi hf
       obtain⟨b,k2,t,e0,hb,hc,hts⟩:=f3
       have e0':x 29=.pointer (some ⟨b,k2,none⟩):=e0
       clear e0
       refine wpOp_step rfl (fun K hK=>?_)
       go_simp
       exact hK _ _ ⟨.string t,by simp[put,m1bDst,e0'],⟨t,rfl,hts⟩,gr_refl _ _,(hG.still (Below.refl _ _)).mono (by omega)⟩
      ·have f1:=hf 9 (by omega) (ready_dep hi rfl 9 (by kernel_rfl))
       obtain⟨t1,et1,hzt1⟩:=f1
       have et1':x 30=.string t1:=et1
       clear et1
       clear hi hf
       refine wpOp_step rfl (fun K hK=>?_)
       go_simp
       exact hK _ _ ⟨.agg #[.string (⟨#[109,117,108,116,105,112,97,114,116]⟩:ByteArray),.string t1,.slice none 0 0],by simp[put,m1bDst,et1'],⟨t1,rfl,by omega⟩,gr_refl _ _,(hG.still (Below.refl _ _)).mono (by omega)⟩
      ·have f4:=hf 4 (by omega) (ready_dep hi rfl 4 (by kernel_rfl))
       have f1:=hf 10 (by omega) (ready_dep hi rfl 10 (by kernel_rfl))
       clear hi hf
       obtain⟨t9,e9,hz9⟩:=f1
       have e4':x 25=.int .i64 (depth:Int):=f4
       have e9':x 31=.agg #[.string (⟨#[109,117,108,116,105,112,97,114,116]⟩:ByteArray),.string t9,.slice none 0 0]:=e9
       clear e9 f4
       refine wpOp_step rfl (fun K hK=>?_)
       go_simp
       exact hK _ _ ⟨.agg #[.int .i64 (depth:Int),.string (⟨#[109,117,108,116,105,112,97,114,116]⟩:ByteArray),.string t9,.slice none 0 0,.int .i64 0,.string ⟨#[]⟩],by simp[put,m1bDst,e4',e9'],⟨t9,rfl,hz9⟩,gr_refl _ _,(hG.still (Below.refl _ _)).mono (by omega)⟩
      ·have f1:=hf 11 (by omega) (ready_dep hi rfl 11 (by kernel_rfl))
       clear hi hf
       obtain⟨t9,e9,hz9⟩:=f1
       have e9':x 32=.agg #[.int .i64 (depth:Int),.string (⟨#[109,117,108,116,105,112,97,114,116]⟩:ByteArray),.string t9,.slice none 0 0,.int .i64 0,.string ⟨#[]⟩]:=e9
       clear e9
       refine wpOp_step rfl (fun K hK=>?_)
       go_simp
       have hbb:∀cs,Below wr.heap.size wr (wr.alloc (.cells cs 143)):=fun cs=>(Below.refl _ _).alloc (Nat.le_refl _) _
       exact hK _ _ ⟨.slice (some ⟨wr.heap.size,0,none⟩) 1 1,by simp[put,m1bDst,e9'],⟨wr.heap.size,t9,rfl,hG.1.size,hp_alloc _ _,hz9⟩,gr_below (hbb _),(hG.still (hbb _)).mono (by omega)⟩
     ·intro j hj hd
      by_cases h0:j=0
      ·subst h0
       exact rfl
      ·rw[done_set h0] at hd
       simp[Array.getD] at hd
    case rest=>
     have HM:=mkHid hcut.out
     clear hcut HG HCW HB4 HI Hok
     obtain⟨vv,E,a0,hI,ha0,hEl,hok⟩:=HM.out
     have hN:=mkHid (srcN g o c cp a0 z 3 wc hI.src (HC.grown hI.gr (Nat.le_refl _)) (by omega) hl (by omega) (by omega))
     have HI:=mkHid hI
     have Hok:=mkHid hok
     clear hI hok HM
     go_wp2_with fail
     refine hN.out.mono ?_
     rintro e w2 ⟨v3,rfl,hv3,hs2,hg2⟩
     obtain⟨a9,ha9,hMq⟩:=HI.out.gone hgl (q:=1) ⟨hg2,a0+1,Nat.le_refl _,hs2⟩
     have HSf:Hid (MaAt w0 g o c.length cp z Bo (A+4001) (n+1) w2):=⟨vv,E,a9,hMq,by omega,hEl,Hok.out⟩
     clear hN hs2 hg2 HI hMq Hok
     go_wp2
     go_loopw [6] (fun kv wx=>∃ k:Nat,kv=.int .i64 k∧k≤3∧Hid (MaAt w0 g o c.length cp z Bo (A+4001+(50000*q)*(3-k)) (n+1+q*(3-k)) wx)) (fun kv _=>(Lib.intOf kv).toNat)
     case atStart=>exact⟨v3+1,by go_num,by omega,(by obtain⟨v,E,a',h1,h2,h3,h4⟩:=HSf.out;exact⟨v,E,a',h1,Nat.le_trans h2 (Nat.le_add_right _ _),Nat.le_trans h3 (Nat.le_add_right _ _),h4⟩)⟩
     case round=>
      clear HSf
      obtain⟨k,rfl,hk3,HM⟩:=hrel
      by_cases hk:0<k
      ·obtain⟨r,hr⟩:∃r,3-k=r:=⟨_,rfl⟩
       have hr2:r≤2:=by omega
       rw[hr] at HM
       have e1:(50000*q)*(r+1)=(50000*q)*r+50000*q:=Nat.mul_succ _ _
       have e2:q*(r+1)=q*r+q:=Nat.mul_succ _ _
       have e3:(50000*q)*r≤(50000*q)*2:=Nat.mul_le_mul_left _ hr2
       have e4:q*r≤q*2:=Nat.mul_le_mul_left _ hr2
       have cI:Hid (Calls Tryz.prog 91 #[.pointer (some ⟨g,0,none⟩),.pointer (some ⟨Bo,0,none⟩),.int .i64 ((depth:Int)+1)] wr (MaOut w0 g o c.length cp z Bo (A+4001+(50000*q)*r+50000*q) (n+1+q*r+q))):=IHq.out _ _ HQ.out (by omega) (by omega) (by omega) wr HM.out
       have hdi:IntKind.i64.wrap ((depth:Int)+1)=(depth:Int)+1:=wrap_inB _ (by omega) (by omega)
       have HK:Hid (3-(k-1)=r+1):=show _=_ from by omega
       have HE1:=mkHid e1
       have HE2:=mkHid e2
       clear e1 e2 e3 e4 hr IHq HQ HM
       go_wp2_with fail
       refine cI.out.mono ?_
       rintro e w2 ⟨rfl,hM2⟩
       have HM2:Hid (MaAt w0 g o c.length cp z Bo (A+4001+(50000*q)*(3-(k-1))) (n+1+q*(3-(k-1))) w2):=by
        rw[HK.out,HE1.out,HE2.out,← Nat.add_assoc,← Nat.add_assoc]
        exact hM2
       clear hM2 cI HE1 HE2 HK
       go_wp2
       go_roundw
       case rel=>exact⟨k-1,by go_num,by omega,HM2⟩
       case measure=>simp[Lib.intOf];omega
      ·obtain rfl:k=0:=by omega
       go_wp2
       refine bodyPost_ret (v:=.tuple #[]) (results_none Tryz.results91 _ _ _) rfl ⟨rfl,?_⟩
       obtain⟨v,E,a',z1,z2,z3,z4⟩:=HM.out
       refine⟨v,E,a',z1,?_,?_,z4⟩
       ·have:(50000*q)*(3-0)=150000*q:=by omega
        omega
       ·have:q*(3-0)=3*q:=by omega
        omega
set_option maxRecDepth 40000 in
theorem srcMade (g:Nat)(o:Option Addr)(c:List UInt8)(cp a z:Nat)(w:World)(h:Src w g o c.length cp a z)(hc:Code g w o c)(ha:a≤400000000000)(hl:c.length≤1048576)(hz:z≤12) :
  Calls Tryz.prog 42 #[.pointer (some ⟨g,0,none⟩)] w fun e w'=>∃ (v:Value) (E:List MdE) (a':Nat),e=.returned v∧Mds w.heap.size v E w'∧E.length≤64∧(∀e ∈ E,e.1.ok)∧a'≤a+3200000∧Src w' g o c.length cp a' z∧w.grownBy w' (some g):=by
 have hgl:=h.lt
 have hM:=srcMadeAt w g o c cp z (w.heap.size+1) hc hgl hl hz 3 64 0 a 0 rfl rfl (by omega) (by omega)
 have HM:=mkHid hM
 have Hs:=mkHid h
 clear h hM hc
 go_enter Tryz.func42,Tryz.ntmps42
 go_upto_region 2 with fail
 obtain⟨W1,hW1⟩:∃V,V=(w.alloc (.cells #[] 143)).alloc (.cells #[.slice (some ⟨w.heap.size,0,none⟩) 0 0] 78):=⟨_,rfl⟩
 obtain⟨b1,hs1,-,h2⟩:=two_blocks hW1
 have hMd:Mds w.heap.size (.slice (some ⟨w.heap.size,0,none⟩) 0 0) [] W1:=by
  rw[hW1]
  exact(Mds.made w.heap.size w (Nat.le_refl _)).below ((Below.refl _ _).alloc (Nat.le_refl _) _)
 have hMa:MaAt w g o c.length cp z (w.heap.size+1) a 0 W1:=⟨_,[],a,⟨by omega,h2,hMd,Hs.out.below b1,gr_below b1⟩,Nat.le_refl _,Nat.le_refl _,fun e he=>by simp at he⟩
 have cM:=mkHid (HM.out W1 hMa)
 rw[← hW1]
 clear hW1 b1 hs1 h2 hMd hMa HM Hs
 go_wp2_with fail
 refine cM.out.mono ?_
 rintro e w2 ⟨rfl,v,E,a',hI,ha',hE,hok⟩
 have hcB:w2.cell? ⟨w.heap.size+1,0,none⟩=some v:=by simp[World.cell?,hI.blk]
 have HF:Hid (Mds w.heap.size v E w2∧E.length≤64∧(∀e ∈ E,e.1.ok)∧a'≤a+3200000∧Src w2 g o c.length cp a' z∧w.grownBy w2 (some g)):=⟨hI.own,by omega,hok,by omega,hI.src,hI.gr⟩
 obtain⟨oE,cE,rfl⟩:=hI.own.shape
 clear cM hI hok
 go_wp2
 go_ret
 exact⟨_,E,a',rfl,HF.out⟩
end Bm
end Go.Proofs.YtacaoiedcfelcaaGreatDoor
