import Derived.Test.YtkcajnjledldnaaGreatDoorRfRead1
set_option maxRecDepth 20000
namespace Go.Proofs.YtkcajnjledldnaaGreatDoor
open Go.RowKit Go.Lib Go.Maps
namespace Rf
def ent (l:List UInt8)(t:Tk):TkE:=(t.kind,ba t.text,line l t.pos)
theorem toks_gap (l:List UInt8)(i j:Nat)(h:gap l i=gap l j):∀f,toks l f i=toks l f j
 | 0=>rfl
 | f+1=>by rw[toks,toks,h]
theorem line_step (l:List UInt8)(i:Nat)(h:i<l.length):line l (i+1)=line l i+(if Pl.b l i=10 then 1 else 0):=by
 unfold line
 rw[List.take_add_one,List.count_append,Pl.b_lt l i h,List.getElem?_eq_getElem h]
 by_cases e:l[i]=10
 ·simp[e];omega
 ·simp[e]
theorem line_same (l:List UInt8)(i:Nat):∀j,i≤j→j≤l.length→(∀k,i≤k→k<j→Pl.b l k≠10)→line l j=line l i
 | 0,h,_,_=>by
  have e:i=0:=by omega
  subst e;rfl
 | j+1,h,hj,hn=>by
  by_cases e:i=j+1
  ·subst e;rfl
  ·rw[line_step l j (by omega),line_same l i j (by omega) (by omega) (fun k h1 h2=>hn k h1 (by omega)),if_neg (hn j (by omega) (by omega))]
   rfl
theorem line_cmt (l:List UInt8)(i:Nat)(h:i≤l.length):line l (Pl.stop cmtK l i)=line l i:=
 line_same l i _ (Pl.stop_ge _ _ _ h) (Pl.stop_le _ _ _ h) (fun k h1 h2 e=>by
  have:=Pl.stop_all cmtK l i h k h1 h2
  rw[e] at this
  cases this)
theorem line_stop (K:UInt8→Bool)(hK:K 10=false)(l:List UInt8)(i:Nat)(h:i≤l.length):line l (Pl.stop K l i)=line l i:=
 line_same l i _ (Pl.stop_ge _ _ _ h) (Pl.stop_le _ _ _ h) (fun k h1 h2 e=>by
  have:=Pl.stop_all K l i h k h1 h2
  rw[e,hK] at this
  cases this)
theorem stop_gt (K:UInt8→Bool)(l:List UInt8)(i:Nat)(h:i<l.length)(hk:K (Pl.b l i)=true):i<Pl.stop K l i:=by
 have h1:=Pl.stop_ge K l i (by omega)
 rcases Nat.lt_or_ge i (Pl.stop K l i) with h2|h2
 ·exact h2
 ·have e:Pl.stop K l i=i:=by omega
  have:=Pl.stop_not K l i (by omega) (by omega)
  rw[e,hk] at this
  cases this
theorem line_le (l:List UInt8)(i:Nat):line l i≤1+l.length:=by
 unfold line
 have h1:=List.count_le_length (a:=(10:UInt8)) (l:=l.take i)
 rw[List.length_take] at h1
 omega
end Rf
theorem extract_ba (s:ByteArray)(i j:Nat):s.extract i j=Rf.ba (Rf.cut s.data.toList i j):=by
 apply ByteArray.ext
 unfold Rf.ba Rf.cut
 rw[ByteArray.data_extract,List.drop_take]
 apply Array.ext'
 simp
namespace Rf
theorem qd_quote (r:List UInt8):qd (34::r)=some ([],1):=by cases r<;>rfl
theorem qd_back (d:UInt8)(r:List UInt8):qd (92::d::r)=(qd r).map fun x=>(d::x.1,x.2+2):=rfl
theorem qd_one (c:UInt8)(r:List UInt8)(h:c≠34)(h2:c≠92∨r=[]):qd (c::r)=(qd r).map fun x=>(c::x.1,x.2+1):=by
 cases r with
 | nil=>
  show(if c==34 then some (([]:List UInt8),1) else none)=none
  rw[if_neg (by simpa using h)]
 | cons d r=>
  have h3:c≠92:=by
   rcases h2 with h2|h2
   ·exact h2
   ·cases h2
  rw[qd,if_neg (by simpa using h),if_neg (by simpa using h3)]
def qtok (i:Nat):Option (List UInt8 × Nat)→Nat × List UInt8 × Nat
 | some (t,k)=>if t.length≤1000 then (116,t,i+1+k) else (120,[],i)
 | none=>(120,[],i)
def Qi (l:List UInt8)(Q:Option (List UInt8 × Nat))(i k:Nat)(X:List UInt8):Prop:=Q=(qd (l.drop k)).map fun x=>(X++x.1,(k-(i+1))+x.2)
theorem Qi.start (l:List UInt8)(i:Nat):Qi l (qd (l.drop (i+1))) i (i+1) []:=by
 unfold Qi
 cases qd (l.drop (i+1))<;>simp
theorem Qi.one {l:List UInt8} {Q:Option (List UInt8 × Nat)} {i k:Nat} {X:List UInt8} {c:UInt8} (h:Qi l Q i k X)(hik:i+1≤k)(hk:k<l.length)(hc:Pl.b l k=c)(h34:c≠34)(h92:c≠92∨k+1=l.length):Qi l Q i (k+1) (X ++ [c]):=by
 unfold Qi at h ⊢
 rw[h,drop_b l k hk,hc,qd_one c _ h34 (by
  rcases h92 with h|h
  ·exact .inl h
  ·exact .inr (List.drop_eq_nil_of_le (by omega)))]
 cases qd (l.drop (k+1)) with
 | none=>rfl
 | some x=>
  simp only[Option.map_some,Option.some.injEq,Prod.mk.injEq,List.append_assoc,List.singleton_append,true_and]
  omega
theorem Qi.two {l:List UInt8} {Q:Option (List UInt8 × Nat)} {i k:Nat} {X:List UInt8} {c:UInt8} (h:Qi l Q i k X)(hik:i+1≤k)(hk:k+1<l.length)(hb:Pl.b l k=92)(hc:Pl.b l (k+1)=c):Qi l Q i (k+2) (X ++ [c]):=by
 unfold Qi at h ⊢
 rw[h,drop_b l k (by omega),hb,drop_b l (k+1) hk,hc,qd_back]
 cases qd (l.drop (k+1+1)) with
 | none=>rfl
 | some x=>
  simp only[Option.map_some,Option.some.injEq,Prod.mk.injEq,List.append_assoc,List.singleton_append,true_and]
  omega
theorem Qi.close {l:List UInt8} {Q:Option (List UInt8 × Nat)} {i k:Nat} {X:List UInt8} (h:Qi l Q i k X)(hk:k<l.length)(hc:Pl.b l k=34):Q=some (X,(k-(i+1))+1):=by
 unfold Qi at h
 rw[h,drop_b l k hk,hc,qd_quote]
 simp
theorem Qi.open {l:List UInt8} {Q:Option (List UInt8 × Nat)} {i k:Nat} {X:List UInt8} (h:Qi l Q i k X)(hk:l.length≤k):Q=none:=by
 unfold Qi at h
 rw[h,List.drop_eq_nil_of_le hk]
 rfl
end Rf
theorem byte_eqI (c k:UInt8)(h:c=k):((c.toNat:Int)==(k.toNat:Int))=true:=by rw[h];exact beq_self_eq_true _
theorem byte_neI (c k:UInt8)(h:c≠k):((c.toNat:Int)==(k.toNat:Int))=false:=by
 rw[beq_eq_false_iff_ne]
 intro e
 exact h (UInt8.toNat_inj.1 (Int.ofNat_inj.1 e))
theorem OwnK.setLow {B b j:Nat} {v u:Value} {E:List TkE} {w:World} (h:OwnK B v E w)(hb:some b≠v.ownBlock):OwnK B v E (w.setCell ⟨b,j,none⟩ u):=
 World.ownsRow.kept h (grG_set w b j u) (by
  cases ho:v.ownBlock with
  | none=>exact .inl rfl
  | some q=>exact .inr (fun e=>hb (by rw[ho,e])))
theorem heap_ltM2 {w:World} {b:Nat} {o:Obj} (h:w.heap[b]?=some o):b<w.heap.size:=by
 by_cases hb:b<w.heap.size
 ·exact hb
 ·rw[Array.getElem?_eq_none (by omega)] at h;cases h
structure Tl (b:Nat)(k:Nat)(t:ByteArray)(ln:Nat)(w:World):Prop where
 blk:w.heap[b]?=some (.cells #[.int .u8 (k:Int),.string t,.int .i64 (ln:Int)] 111 (0,0))
theorem Tl.c0 {b k ln:Nat} {t:ByteArray} {w:World} (h:Tl b k t ln w):w.cell? ⟨b,0,none⟩=some (.int .u8 (k:Int)):=by simp[World.cell?,h.blk]
theorem Tl.c1 {b k ln:Nat} {t:ByteArray} {w:World} (h:Tl b k t ln w):w.cell? ⟨b,1,none⟩=some (.string t):=by simp[World.cell?,h.blk]
theorem Tl.c2 {b k ln:Nat} {t:ByteArray} {w:World} (h:Tl b k t ln w):w.cell? ⟨b,2,none⟩=some (.int .i64 (ln:Int)):=by simp[World.cell?,h.blk]
theorem Tl.fz {b k ln:Nat} {t:ByteArray} {w:World} (h:Tl b k t ln w)(j:Nat):w.frozen? ⟨b,j,none⟩=false:=by simp[World.frozen?,h.blk]
theorem Tl.set0 {b k ln:Nat} {t:ByteArray} {w:World} (h:Tl b k t ln w)(k':Nat):Tl b k' t ln (w.setCell ⟨b,0,none⟩ (.int .u8 (k':Int))):=⟨by simp[World.setCell,Array.getElem?_modify,h.blk]⟩
theorem Tl.set1 {b k ln:Nat} {t:ByteArray} {w:World} (h:Tl b k t ln w)(t':ByteArray):Tl b k t' ln (w.setCell ⟨b,1,none⟩ (.string t')):=⟨by simp[World.setCell,Array.getElem?_modify,h.blk]⟩
theorem Tl.below {b k ln:Nat} {t:ByteArray} {w w':World} (h:Tl b k t ln w)(hb:Below w.heap.size w w'):Tl b k t ln w':=⟨(hb.block b (heap_ltM2 h.blk)).trans h.blk⟩
theorem Tl.grown {b k ln:Nat} {t:ByteArray} {w w':World} {r:Option Nat} (h:Tl b k t ln w)(hg:w.grownBy w' r)(hr:some b≠r):Tl b k t ln w':=⟨(hg.block b (heap_ltM2 h.blk) hr).trans h.blk⟩
set_option maxHeartbeats 8000000 in
theorem specLex (s:ByteArray)(w:World)(hs:s.size≤10000) :
  Calls Tryz.prog 48 #[.string s] w fun e w'=>∃ v E,e=.returned v∧Hid (OwnK w.heap.size v E w')∧Hid (E=(Rf.toks s.data.toList (s.size+1) 0).map (Rf.ent s.data.toList))∧Below w.heap.size w w':=by
 obtain⟨l,hl⟩:∃l,s.data.toList=l:=⟨_,rfl⟩
 have hn:l.length=s.size:=by rw[← hl];simp
 have hbs:∀k (h:k<s.size),s[k]=Pl.b l k:=fun k h=>by
  subst hl
  exact(Pl.b_lt _ k (by simpa using h)).symm
 rw[hl]
 obtain⟨T,hT⟩:∃T,(Rf.toks l (s.size+1) 0).map (Rf.ent l)=T:=⟨_,rfl⟩
 rw[hT]
 have HT:=mkHid hT
 have Hn:=mkHid hn
 have Hbs:=mkHid hbs
 have Hl:=mkHid hl
 clear hT hn hbs hl
 go_enter Tryz.func48,Tryz.ntmps48
 go_wp2
 go_loopw [3,4,5] (fun ov lv iv wr=>∃ (i f ln:Nat) (D:List TkE),i≤s.size∧iv=.int .i64 i∧lv=.int .i64 ln∧Hid (ln=Rf.line l i)∧ln≤10001∧s.size-i<f∧Hid (D++(Rf.toks l f i).map (Rf.ent l)=T)∧Hid (OwnK w.heap.size ov D wr)∧D.length≤i∧Hid (Below w.heap.size w wr)) (fun _ _ iv _=>s.size-(Lib.intOf iv).toNat)
 case atStart=>
  exact⟨0,s.size+1,1,[],Nat.zero_le _,rfl,rfl,rfl,by omega,by omega,HT,OwnK.made _ _ (Nat.le_refl _),Nat.zero_le _,(Below.refl _ _).alloc (Nat.le_refl _) _⟩
 case round=>
  clear HT
  obtain⟨i,f,ln,D,hi,rfl,rfl,hln,hlnb,hf,hD,hO,hDl,hB⟩:=hrel
  by_cases hlt:i<s.size
  ·have hiL:i<l.length:=by rw[Hn.out];exact hlt
   have hc:=Hbs.out i hlt
   have h8:s[i].toNat<256:=UInt8.toNat_lt _
   generalize hsk:s[i]=c at *
   have Hsk:=mkHid hsk
   have Hc:Hid (Pl.b l i=c):=hc.symm
   have kB:=mkHid (fun W=>specBlank c W)
   have hs1:=hB.out.size
   have HiL:=mkHid hiL
   have hiI:(i:Int)<(s.size:Int):=by omega
   have hgl:Hid (Rf.gapK c=(Pl.blank c || c==13 || c==10)):=rfl
   clear hc hiL
   cases hb:Pl.blank c
   ·rw[hb] at kB hgl
    by_cases h13:c=13
    ·as_aux_lemma=>
      have x13:((c.toNat:Int)==13)=true:=byte_eqI c 13 h13
      have x10:((c.toNat:Int)==10)=false:=byte_neI c 10 (by rw[h13];decide)
      have hk:Rf.gapK c=true:=by rw[hgl.out];simp[h13]
      have hst:Hid (Rf.toks l f i=Rf.toks l f (i+1)):=Rf.toks_gap l i (i+1) (Rf.gap_step l i HiL.out (by rw[Hc.out];exact hk)) f
      have hl2:Hid (ln=Rf.line l (i+1)):=by show _=_;rw[Rf.line_step l i HiL.out,Hc.out,if_neg (by rw[h13];decide),hln.out];rfl
      have hD2:Hid (D++(Rf.toks l f (i+1)).map (Rf.ent l)=T):=by rw[← hst.out];exact hD
      clear hst hD hln hk hgl Hsk Hc HiL h13
      go_wp2_with (go_at_call 88;go_must (refine(kB.out _).mono ?_;rintro e w2 ⟨rfl,rfl⟩))
      go_roundw
      case rel=>exact⟨i+1,f,ln,D,by omega,by go_num,by go_num,hl2,hlnb,by omega,hD2,hO,by omega,hB⟩
      case measure=>simp[Lib.intOf];omega
    by_cases h10:c=10
    ·as_aux_lemma=>
      have x13:((c.toNat:Int)==13)=false:=byte_neI c 13 (by rw[h10];decide)
      have x10:((c.toNat:Int)==10)=true:=byte_eqI c 10 h10
      have hk:Rf.gapK c=true:=by rw[hgl.out];simp[h10]
      have hst:Hid (Rf.toks l f i=Rf.toks l f (i+1)):=Rf.toks_gap l i (i+1) (Rf.gap_step l i HiL.out (by rw[Hc.out];exact hk)) f
      have hl2:Hid (ln+1=Rf.line l (i+1)):=by show _=_;rw[Rf.line_step l i HiL.out,Hc.out,if_pos h10,hln.out]
      have hlb:ln+1≤10001:=by have:=Rf.line_le l (i+1);have:=hl2.out;have:=Hn.out;omega
      have hD2:Hid (D++(Rf.toks l f (i+1)).map (Rf.ent l)=T):=by rw[← hst.out];exact hD
      clear hst hD hln hk hgl Hsk Hc HiL h10 h13
      go_wp2_with (go_at_call 88;go_must (refine(kB.out _).mono ?_;rintro e w2 ⟨rfl,rfl⟩))
      go_roundw
      case rel=>exact⟨i+1,f,ln+1,D,by omega,by go_num,by go_num,hl2,hlb,by omega,hD2,hO,by omega,hB⟩
      case measure=>simp[Lib.intOf];omega
    have x13:((c.toNat:Int)==13)=false:=byte_neI c 13 h13
    have x10:((c.toNat:Int)==10)=false:=byte_neI c 10 h10
    by_cases h35:c=35
    ·as_aux_lemma=>
      have x35:((c.toNat:Int)==35)=true:=byte_eqI c 35 h35
      obtain⟨Z,hZ⟩:∃Z,Pl.stop Rf.cmtK l i=Z:=⟨_,rfl⟩
      have hZ1:Z≤s.size:=by rw[← hZ,← Hn.out];exact Pl.stop_le _ _ _ (by have:=HiL.out;omega)
      have hZ2:i<Z:=by
       have h1:=Pl.stop_ge Rf.cmtK l i (by have:=HiL.out;omega)
       rcases Nat.lt_or_ge i Z with h2|h2
       ·exact h2
       ·have e:Pl.stop Rf.cmtK l i=i:=by omega
        have:=Pl.stop_not Rf.cmtK l i (by have:=HiL.out;omega) (by rw[e];exact HiL.out)
        rw[e,Hc.out,h35] at this
        cases this
      have hst:Hid (Rf.toks l f i=Rf.toks l f Z):=Rf.toks_gap l i Z (by rw[← hZ];exact Rf.gap_cmt l i HiL.out (by rw[Hc.out];exact h35)) f
      have hl2:Hid (ln=Rf.line l Z):=by show _=_;rw[← hZ,Rf.line_cmt l i (by have:=HiL.out;omega),hln.out]
      have hD2:Hid (D++(Rf.toks l f Z).map (Rf.ent l)=T):=by rw[← hst.out];exact hD
      have HZ:=mkHid hZ
      clear hst hD hln hgl Hsk Hc HiL h35 h13 h10 hZ
      go_wp2_with (go_at_call 88;go_must (refine(kB.out _).mono ?_;rintro e w2 ⟨rfl,rfl⟩))
      obtain⟨V,hV⟩:∃V,V=wr:=⟨_,rfl⟩
      subst hV
      go_loopw [5] (fun iv wq=>∃ k:Nat,i≤k∧k≤s.size∧iv=.int .i64 k∧Hid (Pl.stop Rf.cmtK l k=Z)∧wq=V) (fun iv _=>s.size-(Lib.intOf iv).toNat)
      case atStart=>exact⟨i,Nat.le_refl _,hi,rfl,HZ,rfl⟩
      case round=>
       clear HZ
       obtain⟨k,hk1,hk2,rfl,HZ,rfl⟩:=hrel
       by_cases hkl:k<s.size
       ·have hkL:k<l.length:=by rw[Hn.out];exact hkl
        have hd:=Hbs.out k hkl
        have hd8:s[k].toNat<256:=UInt8.toNat_lt _
        have hkI:(k:Int)<(s.size:Int):=by omega
        generalize hsk2:s[k]=d at *
        cases hd10:Rf.cmtK d
        ·have y10:((d.toNat:Int) != 10)=false:=by have:d=10:=(by simpa [Rf.cmtK] using hd10);rw[this];rfl
         have e:Hid (Z=k):=by
          show _=_
          rw[← HZ.out]
          exact Pl.stop_eq _ _ _ _ (Nat.le_refl _) (by omega) (fun j h1 h2=>by omega) (fun _=>by rw[← hd];exact hd10)
         rw[e.out] at hl2 hD2 hZ2
         clear HZ hd hd10 hkL
         go_wp2
         go_roundw
         case rel=>exact⟨k,f,ln,D,hk2,by go_num,rfl,hl2,hlnb,by omega,hD2,hO,by omega,hB⟩
         case measure=>simp[Lib.intOf];omega
        ·have y10:((d.toNat:Int) != 10)=true:=by have h:((d.toNat:Int)==10)=false:=byte_neI d 10 (by simpa [Rf.cmtK] using hd10);rw[bne,h];rfl
         have e:Hid (Pl.stop Rf.cmtK l (k+1)=Z):=by
          show _=_
          rw[← HZ.out]
          exact Pl.first_miss _ _ k hkL (by rw[← hd,hd10];rfl)
         clear HZ hd hd10 hkL
         go_wp2
         go_roundw
         case rel=>exact⟨k+1,by omega,by omega,by go_num,e,by first|rfl|trivial⟩
         case measure=>simp[Lib.intOf];omega
       ·have e:Hid (Z=k):=by
         show _=_
         rw[← HZ.out]
         exact Pl.stop_eq _ _ _ _ (Nat.le_refl _) (by rw[Hn.out];omega) (fun j h1 h2=>by omega) (fun h=>by rw[Hn.out] at h;omega)
        rw[e.out] at hl2 hD2 hZ2
        have hkI:¬(k:Int)<(s.size:Int):=by omega
        clear HZ
        go_wp2
        go_roundw
        case rel=>exact⟨k,f,ln,D,hk2,by go_num,rfl,hl2,hlnb,by omega,hD2,hO,by omega,hB⟩
        case measure=>simp[Lib.intOf];omega
    have x35:((c.toNat:Int)==35)=false:=byte_neI c 35 h35
    have hgd:Hid (Rf.gap l i=i):=Rf.gap_done l i (fun _=>by rw[Hc.out];exact⟨by unfold Rf.gapK;simp[hb,h13,h10],h35⟩)
    obtain⟨f',rfl⟩:∃f',f=f'+1:=⟨f-1,by omega⟩
    have htk:Hid (Rf.toks l (f'+1) i=if (Rf.tok l i).1=120 then [⟨120,[],i⟩] else ⟨(Rf.tok l i).1,(Rf.tok l i).2.1,i⟩::Rf.toks l f' (Rf.tok l i).2.2):=by
     show _=_
     rw[Rf.toks,hgd.out,if_pos HiL.out]
    have good:Hid (∀k t nx,Rf.tok l i=(k,t,nx)→k≠120→D ++ [(k,Rf.ba t,ln)]++(Rf.toks l f' nx).map (Rf.ent l)=T):=by
     intro k t nx h1 h2
     rw[← hD.out,htk.out,h1,if_neg h2,List.map_cons,List.append_assoc,hln.out]
     rfl
    have ill:Hid (∀t nx,Rf.tok l i=(120,t,nx)→D ++ [((120:Nat),(⟨#[]⟩:ByteArray),ln)]=T):=by
     intro t nx h1
     rw[← hD.out,htk.out,h1,if_pos rfl,hln.out]
     rfl
    have kL:=mkHid (fun W=>specLowR c W)
    have kD:=mkHid (fun W=>specDig c W)
    have kS:=mkHid (fun W=>specSgn c W)
    obtain⟨wr0,hwr0⟩:∃W,W=wr:=⟨_,rfl⟩
    subst hwr0
    obtain⟨ln0,hln0⟩:∃L,L=ln:=⟨_,rfl⟩
    subst hln0
    obtain⟨V0,hV0⟩:∃V0,wr0.alloc (.cells #[.int .u8 120,.string ⟨#[]⟩,.int .i64 (ln0:Int)] 111)=V0:=⟨_,rfl⟩
    have HT0:Hid (Tl wr0.heap.size 120 ⟨#[]⟩ ln0 V0):=by rw[← hV0];exact⟨heap_alloc_at _ _⟩
    have hb0:Below wr0.heap.size wr0 V0:=by rw[← hV0];exact(Below.refl _ _).alloc (Nat.le_refl _) _
    have HO0:=mkHid (hO.out.below hb0)
    have HB0:=mkHid (hB.out.trans (hb0.mono hs1))
    have HbV:Hid (some wr0.heap.size≠u3.ownBlock):=fun e=>by have:=(World.ownsRow.lt hO.out _ e.symm).2;omega
    have d0:=HT0.out.c0
    have d1:=HT0.out.c1
    have d2:=HT0.out.c2
    have z0:=HT0.out.fz 0
    have z1:=HT0.out.fz 1
    have HV0:=mkHid hV0
    have hcl:=Hc.out
    clear hgl hV0 hb0 hD hO hB htk hgd h13 h10 h35 Hc Hsk
    cases hL:Rf.lowK c
    ·rw[hL] at kL
     by_cases h58:c=58
     ·as_aux_lemma=>
       have x58:((c.toNat:Int)==58)=true:=byte_eqI c 58 h58
       obtain⟨Z,hZ⟩:∃Z,Pl.stop Rf.lowK l (i+1)=Z:=⟨_,rfl⟩
       have hZ1:Z≤s.size:=by rw[← hZ,← Hn.out];exact Pl.stop_le _ _ _ (by have:=HiL.out;omega)
       have hZ2:i+1≤Z:=by rw[← hZ];exact Pl.stop_ge _ _ _ (by have:=HiL.out;omega)
       have htok:Rf.tok l i=if i+1<Z then (58,Rf.cut l i Z,Z) else (120,[],Z):=by unfold Rf.tok;rw[hcl];dsimp only;rw[if_neg (by rw[hL];decide),if_pos (by rw[h58];decide),hZ]
       have hgood:Hid (i+1<Z→Hid (D ++ [((58:Nat),s.extract i Z,ln0)]++(Rf.toks l f' Z).map (Rf.ent l)=T)):=fun h=>by rw[if_pos h] at htok;rw[extract_ba,Hl.out];exact good.out _ _ _ htok (by decide)
       have hill:Hid (¬i+1<Z→Hid (D ++ [((120:Nat),(⟨#[]⟩:ByteArray),ln0)]=T)):=fun h=>by rw[if_neg h] at htok;exact ill.out _ _ htok
       have hl2:Hid (ln0=Rf.line l Z):=by show _=_;rw[← hZ,Rf.line_stop _ (by decide) l (i+1) (by have:=HiL.out;omega),Rf.line_step l i HiL.out,hcl,h58,hln.out];rfl
       have HZ:=mkHid hZ
       clear hZ htok hcl hL good ill kD kS hln h58
       go_wp2_with (first|(go_at_call 88;go_must (refine(kB.out _).mono ?_;rintro e w2 ⟨rfl,rfl⟩))|(go_at_call 86;fail))
       rw[HV0.out]
       refine(kL.out _).mono ?_
       rintro e w2 ⟨rfl,rfl⟩
       clear kL HV0 kB
       go_wp2
       go_loopw [7] (fun jv wq=>∃ k:Nat,i+1≤k∧k≤s.size∧jv=.int .i64 k∧Hid (Pl.stop Rf.lowK l k=Z)∧wq=V0) (fun jv _=>s.size-(Lib.intOf jv).toNat)
       case atStart=>exact⟨i+1,Nat.le_refl _,by omega,by go_num,HZ,rfl⟩
       case round=>
        clear HZ
        obtain⟨k,hk1,hk2,rfl,HZ,hwq⟩:=hrel
        have hwq2:=hwq.symm
        subst hwq2
        clear hwq
        by_cases hkl:k<s.size
        ·have hkL:k<l.length:=by rw[Hn.out];exact hkl
         have hd:=Hbs.out k hkl
         have hd8:s[k].toNat<256:=UInt8.toNat_lt _
         have hkI:(k:Int)<(s.size:Int):=by omega
         generalize hsk2:s[k]=d at *
         have kK:=mkHid (fun W=>specLowR d W)
         cases hdk:Rf.lowK d
         ·rw[hdk] at kK
          have e:Hid (Z=k):=by
           show _=_
           rw[← HZ.out]
           exact Pl.stop_eq _ _ _ _ (Nat.le_refl _) (by omega) (fun j h1 h2=>by omega) (fun _=>by rw[← hd];exact hdk)
          clear HZ hd hdk hkL
          have eK:=e.out
          by_cases hj:i+1<k
          ·have hD2:=hgood.out (by omega)
           rw[e.out] at hl2 hD2
           obtain⟨V,hV⟩:∃V,(V0.setCell ⟨wr0.heap.size,0,none⟩ (.int .u8 58)).setCell ⟨wr0.heap.size,1,none⟩ (.string (s.extract i k))=V:=⟨_,rfl⟩
           have HTV:Hid (Tl wr0.heap.size 58 (s.extract i k) ln0 V):=by rw[← hV];exact(HT0.out.set0 58).set1 _
           have HOV:Hid (OwnK w.heap.size u3 D V):=by rw[← hV];exact(HO0.out.setLow HbV.out).setLow HbV.out
           have HBV:Hid (Below w.heap.size w V):=by rw[← hV];exact(HB0.out.setCell (p:=⟨wr0.heap.size,0,none⟩) hs1 _).setCell (p:=⟨wr0.heap.size,1,none⟩) hs1 _
           have hsV:Hid (w.heap.size≤V.heap.size):=HBV.out.size
           have HsE:Hid (V.heap.size=V0.heap.size):=by show _=_;rw[← hV];simp
           have HV:=mkHid hV
           clear hV
           go_wp2_with (first|(at_builtin;go_must (rw[HV.out];refine wp_appK rfl _ _ rfl w.heap.size u3 D rfl HOV.out ((58:Nat),(s.extract i k),ln0) 1 (by exact congrArg (fun n=>Value.slice (some ⟨n,0,none⟩) 1 1) HsE.out.symm) (by omega) hsV.out ?_;intro ov2 w3 hO3 hg3;refine Hid.out ?_))|(go_at_call 86;go_must (refine(kK.out _).mono ?_;rintro e w2 ⟨rfl,rfl⟩)))
           have hbA:Below V.heap.size V (V.alloc (.cells #[.int .u8 58,.string (s.extract i k),.int .i64 (ln0:Int)] 111)):=(Below.refl _ _).alloc (Nat.le_refl _) _
           have HB3:=mkHid (((HBV.out.trans (hbA.mono hsV.out))).grown hg3 (Nat.le_trans hsV.out hbA.size) (fun k hk=>(World.ownsRow.lt HOV.out k hk).1))
           have HO3:=mkHid hO3
           have HT3:=mkHid ((HTV.out.below hbA).grown hg3 (fun e=>HbV.out e))
           have q0:=HT3.out.c0
           clear hO3 hg3 hbA HOV HBV HTV d0 d1 d2 z0 z1
           refine mkHid ?_
           go_wp2
           go_roundw
           case rel=>exact⟨k,f',ln0,D ++ [((58:Nat),s.extract i k,ln0)],by omega,by go_num,rfl,hl2,by omega,by omega,hD2,HO3,by simp;omega,HB3⟩
           case measure=>simp[Lib.intOf];omega
          ·have hT2:=hill.out (by omega)
           have HTV:=HT0
           have HOV:=HO0
           have HBV:=HB0
           have hsV:Hid (w.heap.size≤V0.heap.size):=HB0.out.size
           go_wp2_with (first|(at_builtin;go_must (refine wp_appK rfl _ _ rfl w.heap.size u3 D rfl HOV.out ((120:Nat),⟨#[]⟩,ln0) 1 rfl (by omega) hsV.out ?_;intro ov2 w3 hO3 hg3;refine Hid.out ?_))|(go_at_call 86;go_must (refine(kK.out _).mono ?_;rintro e w2 ⟨rfl,rfl⟩)))
           have hbA:Below V0.heap.size V0 (V0.alloc (.cells #[.int .u8 120,.string ⟨#[]⟩,.int .i64 (ln0:Int)] 111)):=(Below.refl _ _).alloc (Nat.le_refl _) _
           have HB3:=mkHid (((HBV.out.trans (hbA.mono hsV.out))).grown hg3 (Nat.le_trans hsV.out hbA.size) (fun k hk=>(World.ownsRow.lt HOV.out k hk).1))
           have HO3:=mkHid hO3
           have HT3:=mkHid ((HTV.out.below hbA).grown hg3 (fun e=>HbV.out e))
           have q0:=HT3.out.c0
           clear hO3 hg3 hbA HOV HBV HTV d0 d1 d2 z0 z1
           refine mkHid ?_
           go_wp2
           go_ret
           exact⟨_,_,rfl,HO3,hT2,HB3.out⟩
         ·rw[hdk] at kK
          have e:Hid (Pl.stop Rf.lowK l (k+1)=Z):=by
           show _=_
           rw[← HZ.out]
           exact Pl.first_miss _ _ k hkL (by rw[← hd,hdk];rfl)
          clear HZ hd hdk hkL
          go_wp2_with (go_at_call 86;go_must (refine(kK.out _).mono ?_;rintro e w2 ⟨rfl,rfl⟩))
          go_roundw
          case rel=>exact⟨k+1,by omega,by omega,by go_num,e,by first|rfl|trivial⟩
          case measure=>simp[Lib.intOf];omega
        ·have e:Hid (Z=k):=by
          show _=_
          rw[← HZ.out]
          exact Pl.stop_eq _ _ _ _ (Nat.le_refl _) (by rw[Hn.out];omega) (fun j h1 h2=>by omega) (fun h=>by rw[Hn.out] at h;omega)
         have hkI:¬(k:Int)<(s.size:Int):=by omega
         clear HZ
         have eK:=e.out
         by_cases hj:i+1<k
         ·have hD2:=hgood.out (by omega)
          rw[e.out] at hl2 hD2
          obtain⟨V,hV⟩:∃V,(V0.setCell ⟨wr0.heap.size,0,none⟩ (.int .u8 58)).setCell ⟨wr0.heap.size,1,none⟩ (.string (s.extract i k))=V:=⟨_,rfl⟩
          have HTV:Hid (Tl wr0.heap.size 58 (s.extract i k) ln0 V):=by rw[← hV];exact(HT0.out.set0 58).set1 _
          have HOV:Hid (OwnK w.heap.size u3 D V):=by rw[← hV];exact(HO0.out.setLow HbV.out).setLow HbV.out
          have HBV:Hid (Below w.heap.size w V):=by rw[← hV];exact(HB0.out.setCell (p:=⟨wr0.heap.size,0,none⟩) hs1 _).setCell (p:=⟨wr0.heap.size,1,none⟩) hs1 _
          have hsV:Hid (w.heap.size≤V.heap.size):=HBV.out.size
          have HsE:Hid (V.heap.size=V0.heap.size):=by show _=_;rw[← hV];simp
          have HV:=mkHid hV
          clear hV
          go_wp2_with (first|(at_builtin;go_must (rw[HV.out];refine wp_appK rfl _ _ rfl w.heap.size u3 D rfl HOV.out ((58:Nat),(s.extract i k),ln0) 1 (by exact congrArg (fun n=>Value.slice (some ⟨n,0,none⟩) 1 1) HsE.out.symm) (by omega) hsV.out ?_;intro ov2 w3 hO3 hg3;refine Hid.out ?_))|(fail))
          have hbA:Below V.heap.size V (V.alloc (.cells #[.int .u8 58,.string (s.extract i k),.int .i64 (ln0:Int)] 111)):=(Below.refl _ _).alloc (Nat.le_refl _) _
          have HB3:=mkHid (((HBV.out.trans (hbA.mono hsV.out))).grown hg3 (Nat.le_trans hsV.out hbA.size) (fun k hk=>(World.ownsRow.lt HOV.out k hk).1))
          have HO3:=mkHid hO3
          have HT3:=mkHid ((HTV.out.below hbA).grown hg3 (fun e=>HbV.out e))
          have q0:=HT3.out.c0
          clear hO3 hg3 hbA HOV HBV HTV d0 d1 d2 z0 z1
          refine mkHid ?_
          go_wp2
          go_roundw
          case rel=>exact⟨k,f',ln0,D ++ [((58:Nat),s.extract i k,ln0)],by omega,by go_num,rfl,hl2,by omega,by omega,hD2,HO3,by simp;omega,HB3⟩
          case measure=>simp[Lib.intOf];omega
         ·have hT2:=hill.out (by omega)
          have HTV:=HT0
          have HOV:=HO0
          have HBV:=HB0
          have hsV:Hid (w.heap.size≤V0.heap.size):=HB0.out.size
          go_wp2_with (first|(at_builtin;go_must (refine wp_appK rfl _ _ rfl w.heap.size u3 D rfl HOV.out ((120:Nat),⟨#[]⟩,ln0) 1 rfl (by omega) hsV.out ?_;intro ov2 w3 hO3 hg3;refine Hid.out ?_))|(fail))
          have hbA:Below V0.heap.size V0 (V0.alloc (.cells #[.int .u8 120,.string ⟨#[]⟩,.int .i64 (ln0:Int)] 111)):=(Below.refl _ _).alloc (Nat.le_refl _) _
          have HB3:=mkHid (((HBV.out.trans (hbA.mono hsV.out))).grown hg3 (Nat.le_trans hsV.out hbA.size) (fun k hk=>(World.ownsRow.lt HOV.out k hk).1))
          have HO3:=mkHid hO3
          have HT3:=mkHid ((HTV.out.below hbA).grown hg3 (fun e=>HbV.out e))
          have q0:=HT3.out.c0
          clear hO3 hg3 hbA HOV HBV HTV d0 d1 d2 z0 z1
          refine mkHid ?_
          go_wp2
          go_ret
          exact⟨_,_,rfl,HO3,hT2,HB3.out⟩
     have x58:((c.toNat:Int)==58)=false:=byte_neI c 58 h58
     cases hDg:Rf.digK c
     ·rw[hDg] at kD
      by_cases h34:c=34
      ·as_aux_lemma=>
        have x34:((c.toNat:Int)==34)=true:=byte_eqI c 34 h34
        obtain⟨Q,hQd⟩:∃Q,Rf.qd (l.drop (i+1))=Q:=⟨_,rfl⟩
        have htok:Hid (Rf.tok l i=Rf.qtok i Q):=by show _=_;unfold Rf.tok;rw[hcl];dsimp only;rw[if_neg (by rw[hL];decide),if_neg (by simpa using h58),if_neg (by rw[hDg];decide),if_pos (by rw[h34];decide),← hQd];cases Rf.qd (l.drop (i+1))<;>rfl
        have hQ0:Hid (Rf.Qi l Q i (i+1) []):=by rw[← hQd];exact Rf.Qi.start l i
        have hl1:Hid (ln0=Rf.line l (i+1)):=by show _=_;rw[Rf.line_step l i HiL.out,hcl,h34,hln.out];rfl
        have hii:i+1≤s.size:=by omega
        obtain⟨i5,hi5,hz50,hz51,hz52⟩:=info_parts Tryz.info5
        clear hQd hcl hL hDg kS hln h58 h34
        go_wp2_with (first|(go_at_call 88;go_must (refine(kB.out _).mono ?_;rintro e w2 ⟨rfl,rfl⟩))|(go_at_call 86;fail))
        rw[HV0.out]
        refine(kL.out _).mono ?_
        rintro e w2 ⟨rfl,rfl⟩
        clear kL HV0 kB
        go_wp2_with (go_at_call 87;fail)
        refine(kD.out _).mono ?_
        rintro e w2 ⟨rfl,rfl⟩
        clear kD
        go_wp2
        go_loopw [4,7,9] (fun lv jv bv wq=>∃ (k m:Nat) (X:List UInt8),i+1≤k∧k≤s.size∧jv=.int .i64 k∧lv=.int .i64 m∧Hid (m=Rf.line l k)∧m≤10001∧Hid (Own V0.heap.size bv X wq)∧X.length≤k∧Hid (Rf.Qi l Q i k X)∧Hid (Below V0.heap.size V0 wq)) (fun _ jv _ _=>s.size-(Lib.intOf jv).toNat)
        case atStart=>exact⟨i+1,ln0,[],Nat.le_refl _,hii,by go_num,rfl,hl1,hlnb,Own.made _ _ (Nat.le_refl _),Nat.zero_le _,hQ0,(Below.refl _ _).alloc (Nat.le_refl _) _⟩
        case round=>
         clear hQ0 hl1
         obtain⟨k,m,X,hk1,hk2,rfl,rfl,hm,hmb,hOb,hXk,hQ,HBq⟩:=hrel
         have hsq:=HBq.out.size
         by_cases hkl:k<s.size
         ·have hkL:k<l.length:=by rw[Hn.out];exact hkl
          have hd:=Hbs.out k hkl
          have hd8:s[k].toNat<256:=UInt8.toNat_lt _
          have hkI:(k:Int)<(s.size:Int):=by omega
          generalize hsk2:s[k]=d at *
          by_cases hd34:d=34
          ·have y34:((d.toNat:Int) != 34)=false:=by have h:((d.toNat:Int)==34)=true:=byte_eqI d 34 hd34;rw[bne,h];rfl
           by_cases hX:X.length≤1000
           ·have hXI:(X.length:Int)≤1000:=by omega
            have hD2:Hid (D ++ [((116:Nat),Rf.ba X,ln0)]++(Rf.toks l f' (k+1)).map (Rf.ent l)=T):=by
             have h1:=hQ.out.close hkL (by rw[← hd];exact hd34)
             have h2:=htok.out
             rw[h1] at h2
             unfold Rf.qtok at h2
             dsimp only at h2
             rw[if_pos hX,show i+1+((k-(i+1))+1)=k+1 by omega] at h2
             exact good.out _ _ _ h2 (by decide)
            have hl2:Hid (m=Rf.line l (k+1)):=by show _=_;rw[Rf.line_step l k hkL,← hd,if_neg (by rw[hd34];decide),hm.out];rfl
            have hbq:=HBq.out
            have ho1:Own V0.heap.size u9 X (wr.setCell ⟨wr0.heap.size,0,none⟩ (.int .u8 116)):=World.ownsRow.kept hOb.out (grG_set wr wr0.heap.size 0 _) (by cases ho:u9.ownBlock with|none=>exact .inl rfl|some q=>exact .inr (by have:=(World.ownsRow.lt hOb.out q ho).1;have:=heap_ltM2 HT0.out.blk;intro e;cases e;omega))
            have hcv:=ho1.back (P:=Tryz.prog) 100 9 Tryz.underlying100 Tryz.underlying5 Tryz.underlying9
            obtain⟨bo,bc,hbv⟩:∃o c,u9=.slice o X.length c:=by rcases hOb.out.form with ⟨h1,h2⟩|⟨g,c,h⟩;exact⟨none,0,by rw[h1,h2];rfl⟩;exact⟨_,_,h⟩
            have e3:(⟨X.toArray⟩:ByteArray)=Rf.ba X:=rfl
            rw[e3] at hcv
            obtain⟨tx,htx⟩:∃tx,Rf.ba X=tx:=⟨_,rfl⟩
            rw[htx] at hcv hD2
            subst hbv
            replace HT0:=mkHid (HT0.out.below HBq.out)
            replace HO0:=mkHid (HO0.out.below HBq.out)
            replace HB0:=mkHid (HB0.out.trans (HBq.out.mono HB0.out.size))
            clear d0 d1 d2 z0 z1
            have d0:=HT0.out.c0
            have d1:=HT0.out.c1
            have d2:=HT0.out.c2
            have z0:=HT0.out.fz 0
            have z1:=HT0.out.fz 1
            obtain⟨V,hV⟩:∃V,(wr.setCell ⟨wr0.heap.size,0,none⟩ (.int .u8 116)).setCell ⟨wr0.heap.size,1,none⟩ (.string (tx))=V:=⟨_,rfl⟩
            have HTV:Hid (Tl wr0.heap.size 116 (tx) ln0 V):=by rw[← hV];exact(HT0.out.set0 116).set1 _
            have HOV:Hid (OwnK w.heap.size u3 D V):=by rw[← hV];exact(HO0.out.setLow HbV.out).setLow HbV.out
            have HBV:Hid (Below w.heap.size w V):=by rw[← hV];exact(HB0.out.setCell (p:=⟨wr0.heap.size,0,none⟩) hs1 _).setCell (p:=⟨wr0.heap.size,1,none⟩) hs1 _
            have hsV:Hid (w.heap.size≤V.heap.size):=HBV.out.size
            have HsE:Hid (V.heap.size=wr.heap.size):=by show _=_;rw[← hV];simp
            have HV:=mkHid hV
            clear hV
            clear hQ hd hm good ill htok hOb HBq hd34 ho1
            go_wp2_with (first|(at_builtin;go_must (rw[HV.out];refine wp_appK rfl _ _ rfl w.heap.size u3 D rfl HOV.out ((116:Nat),tx,ln0) 1 (by exact congrArg (fun n=>Value.slice (some ⟨n,0,none⟩) 1 1) HsE.out.symm) (by omega) hsV.out ?_;intro ov2 w3 hO3 hg3;refine Hid.out ?_))|(fail))
            have hbA:Below V.heap.size V (V.alloc (.cells #[.int .u8 116,.string tx,.int .i64 (ln0:Int)] 111)):=(Below.refl _ _).alloc (Nat.le_refl _) _
            have HB3:=mkHid (((HBV.out.trans (hbA.mono hsV.out))).grown hg3 (Nat.le_trans hsV.out hbA.size) (fun k hk=>(World.ownsRow.lt HOV.out k hk).1))
            have HO3:=mkHid hO3
            have HT3:=mkHid ((HTV.out.below hbA).grown hg3 (fun e=>HbV.out e))
            have q0:=HT3.out.c0
            clear hO3 hg3 hbA HOV HBV HTV d0 d1 d2 z0 z1
            refine mkHid ?_
            go_wp2
            go_roundw
            case rel=>exact⟨k+1,f',m,D ++ [((116:Nat),tx,ln0)],by omega,by go_num,rfl,hl2,by omega,by omega,hD2,HO3,by simp;omega,HB3⟩
            case measure=>simp[Lib.intOf];omega
           ·have hXI:¬(X.length:Int)≤1000:=by omega
            have hT2:Hid (D ++ [((120:Nat),(⟨#[]⟩:ByteArray),ln0)]=T):=by
             have h1:=hQ.out.close hkL (by rw[← hd];exact hd34)
             have h2:=htok.out
             rw[h1] at h2
             unfold Rf.qtok at h2
             dsimp only at h2
             rw[if_neg hX] at h2
             exact ill.out _ _ h2
            obtain⟨bo,bc,hbv⟩:∃o c,u9=.slice o X.length c:=by rcases hOb.out.form with ⟨h1,h2⟩|⟨g,c,h⟩;exact⟨none,0,by rw[h1,h2];rfl⟩;exact⟨_,_,h⟩
            subst hbv
            replace HT0:=mkHid (HT0.out.below HBq.out)
            replace HO0:=mkHid (HO0.out.below HBq.out)
            replace HB0:=mkHid (HB0.out.trans (HBq.out.mono HB0.out.size))
            clear d0 d1 d2 z0 z1
            have d0:=HT0.out.c0
            have d1:=HT0.out.c1
            have d2:=HT0.out.c2
            have z0:=HT0.out.fz 0
            have z1:=HT0.out.fz 1
            have HTV:=HT0
            have HOV:=HO0
            have HBV:=HB0
            have hsV:Hid (w.heap.size≤wr.heap.size):=HB0.out.size
            clear hQ hd hm good ill htok hOb HBq hd34
            go_wp2_with (first|(at_builtin;go_must (refine wp_appK rfl _ _ rfl w.heap.size u3 D rfl HOV.out ((120:Nat),⟨#[]⟩,ln0) 1 rfl (by omega) hsV.out ?_;intro ov2 w3 hO3 hg3;refine Hid.out ?_))|(fail))
            have hbA:Below wr.heap.size wr (wr.alloc (.cells #[.int .u8 120,.string ⟨#[]⟩,.int .i64 (ln0:Int)] 111)):=(Below.refl _ _).alloc (Nat.le_refl _) _
            have HB3:=mkHid (((HBV.out.trans (hbA.mono hsV.out))).grown hg3 (Nat.le_trans hsV.out hbA.size) (fun k hk=>(World.ownsRow.lt HOV.out k hk).1))
            have HO3:=mkHid hO3
            have HT3:=mkHid ((HTV.out.below hbA).grown hg3 (fun e=>HbV.out e))
            have q0:=HT3.out.c0
            clear hO3 hg3 hbA HOV HBV HTV d0 d1 d2 z0 z1
            refine mkHid ?_
            go_wp2
            go_ret
            exact⟨_,_,rfl,HO3,hT2,HB3.out⟩
          ·have y34:((d.toNat:Int) != 34)=true:=by have h:((d.toNat:Int)==34)=false:=byte_neI d 34 hd34;rw[bne,h];rfl
           by_cases hd92:d=92
           ·have y92:((d.toNat:Int)==92)=true:=byte_eqI d 92 hd92
            by_cases hk3:k+1<s.size
            ·have hk3I:(k:Int)+1<(s.size:Int):=by omega
             have hg:=Hbs.out (k+1) hk3
             have hg8:s[k+1].toNat<256:=UInt8.toNat_lt _
             generalize hsk3:s[k+1]=g at *
             have hnn:Rf.line l (k+1)=m:=by rw[Rf.line_step l k hkL,← hd,if_neg (by rw[hd92];decide),hm.out];rfl
             by_cases hg10:g=10
             ·have y10:((g.toNat:Int)==10)=true:=byte_eqI g 10 hg10
              have hm2:Hid (m+1=Rf.line l (k+2)):=by show _=_;rw[Rf.line_step l (k+1) (by rw[Hn.out];exact hk3),hnn,← hg,if_pos hg10]
              have hmb2:m+1≤10001:=by have:=Rf.line_le l (k+2);have:=hm2.out;have:=Hn.out;omega
              have hQ2:Hid (Rf.Qi l Q i (k+2) (X ++ [g])):=hQ.out.two hk1 (by rw[Hn.out];exact hk3) (by rw[← hd];exact hd92) hg.symm
              clear hQ hd hm hg hnn hd92 hd34 hg10
              go_wp2_with (at_builtin;go_must (refine wp_app (W:=V0) rfl _ _ 100 rfl i5 Tryz.underlying100 hi5 hz50 hz51 hz52 V0.heap.size u9 X rfl hOb.out _ [g] rfl 1 1 rfl rfl (by simp;omega) (Nat.le_refl _) HBq.out ?_;intro v2 w3 hO3 hb3;refine Hid.out ?_))
              have HO3:=mkHid hO3
              have HB3:=mkHid hb3
              clear hO3 hb3 hOb HBq
              refine mkHid ?_
              go_wp2
              go_roundw
              case rel=>exact⟨k+2,m+1,X ++ [g],by omega,by omega,by go_num,by go_num,hm2,hmb2,HO3,by simp;omega,hQ2,HB3⟩
              case measure=>simp[Lib.intOf];omega
             ·have y10:((g.toNat:Int)==10)=false:=byte_neI g 10 hg10
              have hm2:Hid (m=Rf.line l (k+2)):=by show _=_;rw[Rf.line_step l (k+1) (by rw[Hn.out];exact hk3),hnn,← hg,if_neg hg10];rfl
              have hQ2:Hid (Rf.Qi l Q i (k+2) (X ++ [g])):=hQ.out.two hk1 (by rw[Hn.out];exact hk3) (by rw[← hd];exact hd92) hg.symm
              clear hQ hd hm hg hnn hd92 hd34 hg10
              go_wp2_with (at_builtin;go_must (refine wp_app (W:=V0) rfl _ _ 100 rfl i5 Tryz.underlying100 hi5 hz50 hz51 hz52 V0.heap.size u9 X rfl hOb.out _ [g] rfl 1 1 rfl rfl (by simp;omega) (Nat.le_refl _) HBq.out ?_;intro v2 w3 hO3 hb3;refine Hid.out ?_))
              have HO3:=mkHid hO3
              have HB3:=mkHid hb3
              clear hO3 hb3 hOb HBq
              refine mkHid ?_
              go_wp2
              go_roundw
              case rel=>exact⟨k+2,m,X ++ [g],by omega,by omega,by go_num,by go_num,hm2,hmb,HO3,by simp;omega,hQ2,HB3⟩
              case measure=>simp[Lib.intOf];omega
            ·have hk3I:¬(k:Int)+1<(s.size:Int):=by omega
             have y10:((d.toNat:Int)==10)=false:=byte_neI d 10 (by rw[hd92];decide)
             have hm2:Hid (m=Rf.line l (k+1)):=by show _=_;rw[Rf.line_step l k hkL,← hd,if_neg (by rw[hd92];decide),hm.out];rfl
             have hQ2:Hid (Rf.Qi l Q i (k+1) (X ++ [d])):=hQ.out.one hk1 hkL hd.symm hd34 (.inr (by rw[Hn.out];omega))
             clear hQ hd hm hd92 hd34
             go_wp2_with (at_builtin;go_must (refine wp_app (W:=V0) rfl _ _ 100 rfl i5 Tryz.underlying100 hi5 hz50 hz51 hz52 V0.heap.size u9 X rfl hOb.out _ [d] rfl 1 1 rfl rfl (by simp;omega) (Nat.le_refl _) HBq.out ?_;intro v2 w3 hO3 hb3;refine Hid.out ?_))
             have HO3:=mkHid hO3
             have HB3:=mkHid hb3
             clear hO3 hb3 hOb HBq
             refine mkHid ?_
             go_wp2
             go_roundw
             case rel=>exact⟨k+1,m,X ++ [d],by omega,by omega,by go_num,by go_num,hm2,hmb,HO3,by simp;omega,hQ2,HB3⟩
             case measure=>simp[Lib.intOf];omega
           ·have y92:((d.toNat:Int)==92)=false:=byte_neI d 92 hd92
            by_cases hd10:d=10
            ·have y10:((d.toNat:Int)==10)=true:=byte_eqI d 10 hd10
             have hm2:Hid (m+1=Rf.line l (k+1)):=by show _=_;rw[Rf.line_step l k hkL,← hd,if_pos hd10,hm.out]
             have hmb2:m+1≤10001:=by have:=Rf.line_le l (k+1);have:=hm2.out;have:=Hn.out;omega
             have hQ2:Hid (Rf.Qi l Q i (k+1) (X ++ [d])):=hQ.out.one hk1 hkL hd.symm hd34 (.inl hd92)
             clear hQ hd hm hd92 hd34 hd10
             go_wp2_with (at_builtin;go_must (refine wp_app (W:=V0) rfl _ _ 100 rfl i5 Tryz.underlying100 hi5 hz50 hz51 hz52 V0.heap.size u9 X rfl hOb.out _ [d] rfl 1 1 rfl rfl (by simp;omega) (Nat.le_refl _) HBq.out ?_;intro v2 w3 hO3 hb3;refine Hid.out ?_))
             have HO3:=mkHid hO3
             have HB3:=mkHid hb3
             clear hO3 hb3 hOb HBq
             refine mkHid ?_
             go_wp2
             go_roundw
             case rel=>exact⟨k+1,m+1,X ++ [d],by omega,by omega,by go_num,by go_num,hm2,hmb2,HO3,by simp;omega,hQ2,HB3⟩
             case measure=>simp[Lib.intOf];omega
            ·have y10:((d.toNat:Int)==10)=false:=byte_neI d 10 hd10
             have hm2:Hid (m=Rf.line l (k+1)):=by show _=_;rw[Rf.line_step l k hkL,← hd,if_neg hd10,hm.out];rfl
             have hQ2:Hid (Rf.Qi l Q i (k+1) (X ++ [d])):=hQ.out.one hk1 hkL hd.symm hd34 (.inl hd92)
             clear hQ hd hm hd92 hd34 hd10
             go_wp2_with (at_builtin;go_must (refine wp_app (W:=V0) rfl _ _ 100 rfl i5 Tryz.underlying100 hi5 hz50 hz51 hz52 V0.heap.size u9 X rfl hOb.out _ [d] rfl 1 1 rfl rfl (by simp;omega) (Nat.le_refl _) HBq.out ?_;intro v2 w3 hO3 hb3;refine Hid.out ?_))
             have HO3:=mkHid hO3
             have HB3:=mkHid hb3
             clear hO3 hb3 hOb HBq
             refine mkHid ?_
             go_wp2
             go_roundw
             case rel=>exact⟨k+1,m,X ++ [d],by omega,by omega,by go_num,by go_num,hm2,hmb,HO3,by simp;omega,hQ2,HB3⟩
             case measure=>simp[Lib.intOf];omega
         ·have hkI:¬(k:Int)<(s.size:Int):=by omega
          have hT2:Hid (D ++ [((120:Nat),(⟨#[]⟩:ByteArray),ln0)]=T):=by
           have h1:=hQ.out.open (by rw[Hn.out];omega)
           have h2:=htok.out
           rw[h1] at h2
           exact ill.out _ _ h2
          replace HT0:=mkHid (HT0.out.below HBq.out)
          replace HO0:=mkHid (HO0.out.below HBq.out)
          replace HB0:=mkHid (HB0.out.trans (HBq.out.mono HB0.out.size))
          clear d0 d1 d2 z0 z1
          have d0:=HT0.out.c0
          have d1:=HT0.out.c1
          have d2:=HT0.out.c2
          have z0:=HT0.out.fz 0
          have z1:=HT0.out.fz 1
          have HTV:=HT0
          have HOV:=HO0
          have HBV:=HB0
          have hsV:Hid (w.heap.size≤wr.heap.size):=HB0.out.size
          clear hQ hm good ill htok hOb HBq
          go_wp2_with (first|(at_builtin;go_must (refine wp_appK rfl _ _ rfl w.heap.size u3 D rfl HOV.out ((120:Nat),⟨#[]⟩,ln0) 1 rfl (by omega) hsV.out ?_;intro ov2 w3 hO3 hg3;refine Hid.out ?_))|(fail))
          have hbA:Below wr.heap.size wr (wr.alloc (.cells #[.int .u8 120,.string ⟨#[]⟩,.int .i64 (ln0:Int)] 111)):=(Below.refl _ _).alloc (Nat.le_refl _) _
          have HB3:=mkHid (((HBV.out.trans (hbA.mono hsV.out))).grown hg3 (Nat.le_trans hsV.out hbA.size) (fun k hk=>(World.ownsRow.lt HOV.out k hk).1))
          have HO3:=mkHid hO3
          have HT3:=mkHid ((HTV.out.below hbA).grown hg3 (fun e=>HbV.out e))
          have q0:=HT3.out.c0
          clear hO3 hg3 hbA HOV HBV HTV d0 d1 d2 z0 z1
          refine mkHid ?_
          go_wp2
          go_ret
          exact⟨_,_,rfl,HO3,hT2,HB3.out⟩
      have x34:((c.toNat:Int)==34)=false:=byte_neI c 34 h34
      cases hSg:Rf.isSign c
      ·as_aux_lemma=>
        have htok:Rf.tok l i=(120,[],i+1):=by unfold Rf.tok;rw[hcl];dsimp only;rw[if_neg (by rw[hL];decide),if_neg (by simpa using h58),if_neg (by rw[hDg];decide),if_neg (by simpa using h34),if_neg (by rw[hSg];decide)]
        have hT2:Hid (D ++ [((120:Nat),(⟨#[]⟩:ByteArray),ln0)]=T):=ill.out _ _ htok
        have ex1:s.extract i (i+1)=⟨#[c]⟩:=by
         rw[extract_ba,Hl.out]
         have e:Rf.cut l i (i+1)=[c]:=by unfold Rf.cut;rw[List.drop_take,Rf.drop_b l i HiL.out,hcl];simp
         rw[e]
         rfl
        have hii:(i:Int)+1≤(s.size:Int):=by omega
        clear htok hcl hL hDg good ill hln h58 h34
        go_wp2_with (first|(go_at_call 88;go_must (refine(kB.out _).mono ?_;rintro e w2 ⟨rfl,rfl⟩))|(go_at_call 86;fail))
        rw[HV0.out]
        refine(kL.out _).mono ?_
        rintro e w2 ⟨rfl,rfl⟩
        clear kL HV0 kB
        go_wp2_with (go_at_call 87;fail)
        refine(kD.out _).mono ?_
        rintro e w2 ⟨rfl,rfl⟩
        clear kD
        go_wp2_with (go_at_call 85;fail)
        try simp only[ex1]
        refine(kS.out _).mono ?_
        rintro e w2 ⟨z,rfl,hz,rfl⟩
        have hz2:=hz.out
        rw[hSg] at hz2
        clear kS hz hSg
        have HTV:=HT0
        have HOV:=HO0
        have HBV:=HB0
        have hsV:Hid (w.heap.size≤V0.heap.size):=HB0.out.size
        go_wp2_with (first|(at_builtin;go_must (refine wp_appK rfl _ _ rfl w.heap.size u3 D rfl HOV.out ((120:Nat),⟨#[]⟩,ln0) 1 rfl (by omega) hsV.out ?_;intro ov2 w3 hO3 hg3;refine Hid.out ?_))|(fail))
        have hbA:Below V0.heap.size V0 (V0.alloc (.cells #[.int .u8 120,.string ⟨#[]⟩,.int .i64 (ln0:Int)] 111)):=(Below.refl _ _).alloc (Nat.le_refl _) _
        have HB3:=mkHid (((HBV.out.trans (hbA.mono hsV.out))).grown hg3 (Nat.le_trans hsV.out hbA.size) (fun k hk=>(World.ownsRow.lt HOV.out k hk).1))
        have HO3:=mkHid hO3
        have HT3:=mkHid ((HTV.out.below hbA).grown hg3 (fun e=>HbV.out e))
        have q0:=HT3.out.c0
        clear hO3 hg3 hbA HOV HBV HTV d0 d1 d2 z0 z1
        refine mkHid ?_
        go_wp2
        go_ret
        exact⟨_,_,rfl,HO3,hT2,HB3.out⟩
      ·as_aux_lemma=>
        have htok:Rf.tok l i=(112,[c],i+1):=by unfold Rf.tok;rw[hcl];dsimp only;rw[if_neg (by rw[hL];decide),if_neg (by simpa using h58),if_neg (by rw[hDg];decide),if_neg (by simpa using h34),if_pos hSg]
        have hD2:Hid (D ++ [((112:Nat),(⟨#[c]⟩:ByteArray),ln0)]++(Rf.toks l f' (i+1)).map (Rf.ent l)=T):=good.out _ _ _ htok (by decide)
        have hl2:Hid (ln0=Rf.line l (i+1)):=by show _=_;rw[Rf.line_step l i HiL.out,hcl,if_neg (fun e=>by rw[e] at hSg;revert hSg;decide),hln.out];rfl
        have ex1:s.extract i (i+1)=⟨#[c]⟩:=by
         rw[extract_ba,Hl.out]
         have e:Rf.cut l i (i+1)=[c]:=by unfold Rf.cut;rw[List.drop_take,Rf.drop_b l i HiL.out,hcl];simp
         rw[e]
         rfl
        have hii:(i:Int)+1≤(s.size:Int):=by omega
        clear htok hcl hL hDg good ill hln h58 h34
        go_wp2_with (first|(go_at_call 88;go_must (refine(kB.out _).mono ?_;rintro e w2 ⟨rfl,rfl⟩))|(go_at_call 86;fail))
        rw[HV0.out]
        refine(kL.out _).mono ?_
        rintro e w2 ⟨rfl,rfl⟩
        clear kL HV0 kB
        go_wp2_with (go_at_call 87;fail)
        refine(kD.out _).mono ?_
        rintro e w2 ⟨rfl,rfl⟩
        clear kD
        go_wp2_with (go_at_call 85;fail)
        try simp only[ex1]
        refine(kS.out _).mono ?_
        rintro e w2 ⟨z,rfl,hz,rfl⟩
        have hz2:=hz.out
        rw[hSg] at hz2
        clear kS hz hSg
        obtain⟨V,hV⟩:∃V,(V0.setCell ⟨wr0.heap.size,0,none⟩ (.int .u8 112)).setCell ⟨wr0.heap.size,1,none⟩ (.string (⟨#[c]⟩))=V:=⟨_,rfl⟩
        have HTV:Hid (Tl wr0.heap.size 112 (⟨#[c]⟩) ln0 V):=by rw[← hV];exact(HT0.out.set0 112).set1 _
        have HOV:Hid (OwnK w.heap.size u3 D V):=by rw[← hV];exact(HO0.out.setLow HbV.out).setLow HbV.out
        have HBV:Hid (Below w.heap.size w V):=by rw[← hV];exact(HB0.out.setCell (p:=⟨wr0.heap.size,0,none⟩) hs1 _).setCell (p:=⟨wr0.heap.size,1,none⟩) hs1 _
        have hsV:Hid (w.heap.size≤V.heap.size):=HBV.out.size
        have HsE:Hid (V.heap.size=V0.heap.size):=by show _=_;rw[← hV];simp
        have HV:=mkHid hV
        clear hV
        go_wp2_with (first|(at_builtin;go_must (rw[HV.out];refine wp_appK rfl _ _ rfl w.heap.size u3 D rfl HOV.out ((112:Nat),⟨#[c]⟩,ln0) 1 (by exact congrArg (fun n=>Value.slice (some ⟨n,0,none⟩) 1 1) HsE.out.symm) (by omega) hsV.out ?_;intro ov2 w3 hO3 hg3;refine Hid.out ?_))|(fail))
        have hbA:Below V.heap.size V (V.alloc (.cells #[.int .u8 112,.string ⟨#[c]⟩,.int .i64 (ln0:Int)] 111)):=(Below.refl _ _).alloc (Nat.le_refl _) _
        have HB3:=mkHid (((HBV.out.trans (hbA.mono hsV.out))).grown hg3 (Nat.le_trans hsV.out hbA.size) (fun k hk=>(World.ownsRow.lt HOV.out k hk).1))
        have HO3:=mkHid hO3
        have HT3:=mkHid ((HTV.out.below hbA).grown hg3 (fun e=>HbV.out e))
        have q0:=HT3.out.c0
        clear hO3 hg3 hbA HOV HBV HTV d0 d1 d2 z0 z1
        refine mkHid ?_
        go_wp2
        go_roundw
        case rel=>exact⟨i+1,f',ln0,D ++ [((112:Nat),⟨#[c]⟩,ln0)],by omega,by go_num,rfl,hl2,by omega,by omega,hD2,HO3,by simp;omega,HB3⟩
        case measure=>simp[Lib.intOf];omega
     ·rw[hDg] at kD
      as_aux_lemma=>
       obtain⟨Z,hZ⟩:∃Z,Pl.stop Rf.digK l i=Z:=⟨_,rfl⟩
       have hZ1:Z≤s.size:=by rw[← hZ,← Hn.out];exact Pl.stop_le _ _ _ (by have:=HiL.out;omega)
       have hZ2:i<Z:=by rw[← hZ];exact Rf.stop_gt _ _ _ HiL.out (by rw[hcl];exact hDg)
       have htok:Rf.tok l i=if Z-i≤9 then (110,Rf.cut l i Z,Z) else (120,[],Z):=by unfold Rf.tok;rw[hcl];dsimp only;rw[if_neg (by rw[hL];decide),if_neg (by simpa using h58),if_pos hDg,hZ]
       have hgood:Hid (Z-i≤9→Hid (D ++ [((110:Nat),s.extract i Z,ln0)]++(Rf.toks l f' Z).map (Rf.ent l)=T)):=fun h=>by rw[if_pos h] at htok;rw[extract_ba,Hl.out];exact good.out _ _ _ htok (by decide)
       have hill:Hid (¬Z-i≤9→Hid (D ++ [((120:Nat),(⟨#[]⟩:ByteArray),ln0)]=T)):=fun h=>by rw[if_neg h] at htok;exact ill.out _ _ htok
       have hl2:Hid (ln0=Rf.line l Z):=by show _=_;rw[← hZ,Rf.line_stop _ (by decide) l i (by have:=HiL.out;omega),hln.out]
       have HZ:=mkHid hZ
       clear hZ htok hcl hL hDg good ill kS hln h58
       go_wp2_with (first|(go_at_call 88;go_must (refine(kB.out _).mono ?_;rintro e w2 ⟨rfl,rfl⟩))|(go_at_call 86;fail))
       rw[HV0.out]
       refine(kL.out _).mono ?_
       rintro e w2 ⟨rfl,rfl⟩
       clear kL HV0 kB
       go_wp2_with (go_at_call 87;fail)
       refine(kD.out _).mono ?_
       rintro e w2 ⟨rfl,rfl⟩
       clear kD
       go_wp2
       go_loopw [7] (fun jv wq=>∃ k:Nat,i≤k∧k≤s.size∧jv=.int .i64 k∧Hid (Pl.stop Rf.digK l k=Z)∧wq=V0) (fun jv _=>s.size-(Lib.intOf jv).toNat)
       case atStart=>exact⟨i,Nat.le_refl _,by omega,by go_num,HZ,rfl⟩
       case round=>
        clear HZ
        obtain⟨k,hk1,hk2,rfl,HZ,hwq⟩:=hrel
        have hwq2:=hwq.symm
        subst hwq2
        clear hwq
        by_cases hkl:k<s.size
        ·have hkL:k<l.length:=by rw[Hn.out];exact hkl
         have hd:=Hbs.out k hkl
         have hd8:s[k].toNat<256:=UInt8.toNat_lt _
         have hkI:(k:Int)<(s.size:Int):=by omega
         generalize hsk2:s[k]=d at *
         have kK:=mkHid (fun W=>specDig d W)
         cases hdk:Rf.digK d
         ·rw[hdk] at kK
          have e:Hid (Z=k):=by
           show _=_
           rw[← HZ.out]
           exact Pl.stop_eq _ _ _ _ (Nat.le_refl _) (by omega) (fun j h1 h2=>by omega) (fun _=>by rw[← hd];exact hdk)
          clear HZ hd hdk hkL
          have eK:=e.out
          by_cases hj:k-i≤9
          ·have hj2:(k:Int)-(i:Int)≤9:=by omega
           have hD2:=hgood.out (by omega)
           rw[e.out] at hl2 hD2
           obtain⟨V,hV⟩:∃V,(V0.setCell ⟨wr0.heap.size,0,none⟩ (.int .u8 110)).setCell ⟨wr0.heap.size,1,none⟩ (.string (s.extract i k))=V:=⟨_,rfl⟩
           have HTV:Hid (Tl wr0.heap.size 110 (s.extract i k) ln0 V):=by rw[← hV];exact(HT0.out.set0 110).set1 _
           have HOV:Hid (OwnK w.heap.size u3 D V):=by rw[← hV];exact(HO0.out.setLow HbV.out).setLow HbV.out
           have HBV:Hid (Below w.heap.size w V):=by rw[← hV];exact(HB0.out.setCell (p:=⟨wr0.heap.size,0,none⟩) hs1 _).setCell (p:=⟨wr0.heap.size,1,none⟩) hs1 _
           have hsV:Hid (w.heap.size≤V.heap.size):=HBV.out.size
           have HsE:Hid (V.heap.size=V0.heap.size):=by show _=_;rw[← hV];simp
           have HV:=mkHid hV
           clear hV
           go_wp2_with (first|(at_builtin;go_must (rw[HV.out];refine wp_appK rfl _ _ rfl w.heap.size u3 D rfl HOV.out ((110:Nat),(s.extract i k),ln0) 1 (by exact congrArg (fun n=>Value.slice (some ⟨n,0,none⟩) 1 1) HsE.out.symm) (by omega) hsV.out ?_;intro ov2 w3 hO3 hg3;refine Hid.out ?_))|(go_at_call 87;go_must (refine(kK.out _).mono ?_;rintro e w2 ⟨rfl,rfl⟩)))
           have hbA:Below V.heap.size V (V.alloc (.cells #[.int .u8 110,.string (s.extract i k),.int .i64 (ln0:Int)] 111)):=(Below.refl _ _).alloc (Nat.le_refl _) _
           have HB3:=mkHid (((HBV.out.trans (hbA.mono hsV.out))).grown hg3 (Nat.le_trans hsV.out hbA.size) (fun k hk=>(World.ownsRow.lt HOV.out k hk).1))
           have HO3:=mkHid hO3
           have HT3:=mkHid ((HTV.out.below hbA).grown hg3 (fun e=>HbV.out e))
           have q0:=HT3.out.c0
           clear hO3 hg3 hbA HOV HBV HTV d0 d1 d2 z0 z1
           refine mkHid ?_
           go_wp2
           go_roundw
           case rel=>exact⟨k,f',ln0,D ++ [((110:Nat),s.extract i k,ln0)],by omega,by go_num,rfl,hl2,by omega,by omega,hD2,HO3,by simp;omega,HB3⟩
           case measure=>simp[Lib.intOf];omega
          ·have hj2:¬(k:Int)-(i:Int)≤9:=by omega
           have hT2:=hill.out (by omega)
           have HTV:=HT0
           have HOV:=HO0
           have HBV:=HB0
           have hsV:Hid (w.heap.size≤V0.heap.size):=HB0.out.size
           go_wp2_with (first|(at_builtin;go_must (refine wp_appK rfl _ _ rfl w.heap.size u3 D rfl HOV.out ((120:Nat),⟨#[]⟩,ln0) 1 rfl (by omega) hsV.out ?_;intro ov2 w3 hO3 hg3;refine Hid.out ?_))|(go_at_call 87;go_must (refine(kK.out _).mono ?_;rintro e w2 ⟨rfl,rfl⟩)))
           have hbA:Below V0.heap.size V0 (V0.alloc (.cells #[.int .u8 120,.string ⟨#[]⟩,.int .i64 (ln0:Int)] 111)):=(Below.refl _ _).alloc (Nat.le_refl _) _
           have HB3:=mkHid (((HBV.out.trans (hbA.mono hsV.out))).grown hg3 (Nat.le_trans hsV.out hbA.size) (fun k hk=>(World.ownsRow.lt HOV.out k hk).1))
           have HO3:=mkHid hO3
           have HT3:=mkHid ((HTV.out.below hbA).grown hg3 (fun e=>HbV.out e))
           have q0:=HT3.out.c0
           clear hO3 hg3 hbA HOV HBV HTV d0 d1 d2 z0 z1
           refine mkHid ?_
           go_wp2
           go_ret
           exact⟨_,_,rfl,HO3,hT2,HB3.out⟩
         ·rw[hdk] at kK
          have e:Hid (Pl.stop Rf.digK l (k+1)=Z):=by
           show _=_
           rw[← HZ.out]
           exact Pl.first_miss _ _ k hkL (by rw[← hd,hdk];rfl)
          clear HZ hd hdk hkL
          go_wp2_with (go_at_call 87;go_must (refine(kK.out _).mono ?_;rintro e w2 ⟨rfl,rfl⟩))
          go_roundw
          case rel=>exact⟨k+1,by omega,by omega,by go_num,e,by first|rfl|trivial⟩
          case measure=>simp[Lib.intOf];omega
        ·have e:Hid (Z=k):=by
          show _=_
          rw[← HZ.out]
          exact Pl.stop_eq _ _ _ _ (Nat.le_refl _) (by rw[Hn.out];omega) (fun j h1 h2=>by omega) (fun h=>by rw[Hn.out] at h;omega)
         have hkI:¬(k:Int)<(s.size:Int):=by omega
         clear HZ
         have eK:=e.out
         by_cases hj:k-i≤9
         ·have hj2:(k:Int)-(i:Int)≤9:=by omega
          have hD2:=hgood.out (by omega)
          rw[e.out] at hl2 hD2
          obtain⟨V,hV⟩:∃V,(V0.setCell ⟨wr0.heap.size,0,none⟩ (.int .u8 110)).setCell ⟨wr0.heap.size,1,none⟩ (.string (s.extract i k))=V:=⟨_,rfl⟩
          have HTV:Hid (Tl wr0.heap.size 110 (s.extract i k) ln0 V):=by rw[← hV];exact(HT0.out.set0 110).set1 _
          have HOV:Hid (OwnK w.heap.size u3 D V):=by rw[← hV];exact(HO0.out.setLow HbV.out).setLow HbV.out
          have HBV:Hid (Below w.heap.size w V):=by rw[← hV];exact(HB0.out.setCell (p:=⟨wr0.heap.size,0,none⟩) hs1 _).setCell (p:=⟨wr0.heap.size,1,none⟩) hs1 _
          have hsV:Hid (w.heap.size≤V.heap.size):=HBV.out.size
          have HsE:Hid (V.heap.size=V0.heap.size):=by show _=_;rw[← hV];simp
          have HV:=mkHid hV
          clear hV
          go_wp2_with (first|(at_builtin;go_must (rw[HV.out];refine wp_appK rfl _ _ rfl w.heap.size u3 D rfl HOV.out ((110:Nat),(s.extract i k),ln0) 1 (by exact congrArg (fun n=>Value.slice (some ⟨n,0,none⟩) 1 1) HsE.out.symm) (by omega) hsV.out ?_;intro ov2 w3 hO3 hg3;refine Hid.out ?_))|(fail))
          have hbA:Below V.heap.size V (V.alloc (.cells #[.int .u8 110,.string (s.extract i k),.int .i64 (ln0:Int)] 111)):=(Below.refl _ _).alloc (Nat.le_refl _) _
          have HB3:=mkHid (((HBV.out.trans (hbA.mono hsV.out))).grown hg3 (Nat.le_trans hsV.out hbA.size) (fun k hk=>(World.ownsRow.lt HOV.out k hk).1))
          have HO3:=mkHid hO3
          have HT3:=mkHid ((HTV.out.below hbA).grown hg3 (fun e=>HbV.out e))
          have q0:=HT3.out.c0
          clear hO3 hg3 hbA HOV HBV HTV d0 d1 d2 z0 z1
          refine mkHid ?_
          go_wp2
          go_roundw
          case rel=>exact⟨k,f',ln0,D ++ [((110:Nat),s.extract i k,ln0)],by omega,by go_num,rfl,hl2,by omega,by omega,hD2,HO3,by simp;omega,HB3⟩
          case measure=>simp[Lib.intOf];omega
         ·have hj2:¬(k:Int)-(i:Int)≤9:=by omega
          have hT2:=hill.out (by omega)
          have HTV:=HT0
          have HOV:=HO0
          have HBV:=HB0
          have hsV:Hid (w.heap.size≤V0.heap.size):=HB0.out.size
          go_wp2_with (first|(at_builtin;go_must (refine wp_appK rfl _ _ rfl w.heap.size u3 D rfl HOV.out ((120:Nat),⟨#[]⟩,ln0) 1 rfl (by omega) hsV.out ?_;intro ov2 w3 hO3 hg3;refine Hid.out ?_))|(fail))
          have hbA:Below V0.heap.size V0 (V0.alloc (.cells #[.int .u8 120,.string ⟨#[]⟩,.int .i64 (ln0:Int)] 111)):=(Below.refl _ _).alloc (Nat.le_refl _) _
          have HB3:=mkHid (((HBV.out.trans (hbA.mono hsV.out))).grown hg3 (Nat.le_trans hsV.out hbA.size) (fun k hk=>(World.ownsRow.lt HOV.out k hk).1))
          have HO3:=mkHid hO3
          have HT3:=mkHid ((HTV.out.below hbA).grown hg3 (fun e=>HbV.out e))
          have q0:=HT3.out.c0
          clear hO3 hg3 hbA HOV HBV HTV d0 d1 d2 z0 z1
          refine mkHid ?_
          go_wp2
          go_ret
          exact⟨_,_,rfl,HO3,hT2,HB3.out⟩
    ·rw[hL] at kL
     as_aux_lemma=>
      obtain⟨Z,hZ⟩:∃Z,Pl.stop Rf.lowK l i=Z:=⟨_,rfl⟩
      have hZ1:Z≤s.size:=by rw[← hZ,← Hn.out];exact Pl.stop_le _ _ _ (by have:=HiL.out;omega)
      have hZ2:i<Z:=by rw[← hZ];exact Rf.stop_gt _ _ _ HiL.out (by rw[hcl];exact hL)
      have htok:Rf.tok l i=(119,Rf.cut l i Z,Z):=by unfold Rf.tok;rw[hcl];dsimp only;rw[if_pos hL,hZ]
      have hD2:Hid (D ++ [((119:Nat),s.extract i Z,ln0)]++(Rf.toks l f' Z).map (Rf.ent l)=T):=by rw[extract_ba,Hl.out];exact good.out _ _ _ htok (by decide)
      have hl2:Hid (ln0=Rf.line l Z):=by show _=_;rw[← hZ,Rf.line_stop _ (by decide) l i (by have:=HiL.out;omega),hln.out]
      have HZ:=mkHid hZ
      clear hZ htok hcl hL good ill kD kS hln
      go_wp2_with (first|(go_at_call 88;go_must (refine(kB.out _).mono ?_;rintro e w2 ⟨rfl,rfl⟩))|(go_at_call 86;fail))
      rw[HV0.out]
      refine(kL.out _).mono ?_
      rintro e w2 ⟨rfl,rfl⟩
      clear kL HV0 kB
      go_wp2
      go_loopw [7] (fun jv wq=>∃ k:Nat,i≤k∧k≤s.size∧jv=.int .i64 k∧Hid (Pl.stop Rf.lowK l k=Z)∧wq=V0) (fun jv _=>s.size-(Lib.intOf jv).toNat)
      case atStart=>exact⟨i,Nat.le_refl _,by omega,by go_num,HZ,rfl⟩
      case round=>
       clear HZ
       obtain⟨k,hk1,hk2,rfl,HZ,hwq⟩:=hrel
       have hwq2:=hwq.symm
       subst hwq2
       clear hwq
       by_cases hkl:k<s.size
       ·have hkL:k<l.length:=by rw[Hn.out];exact hkl
        have hd:=Hbs.out k hkl
        have hd8:s[k].toNat<256:=UInt8.toNat_lt _
        have hkI:(k:Int)<(s.size:Int):=by omega
        generalize hsk2:s[k]=d at *
        have kK:=mkHid (fun W=>specLowR d W)
        cases hdk:Rf.lowK d
        ·rw[hdk] at kK
         have e:Hid (Z=k):=by
          show _=_
          rw[← HZ.out]
          exact Pl.stop_eq _ _ _ _ (Nat.le_refl _) (by omega) (fun j h1 h2=>by omega) (fun _=>by rw[← hd];exact hdk)
         clear HZ hd hdk hkL
         rw[e.out] at hl2 hD2 hZ2
         obtain⟨V,hV⟩:∃V,(V0.setCell ⟨wr0.heap.size,0,none⟩ (.int .u8 119)).setCell ⟨wr0.heap.size,1,none⟩ (.string (s.extract i k))=V:=⟨_,rfl⟩
         have HTV:Hid (Tl wr0.heap.size 119 (s.extract i k) ln0 V):=by rw[← hV];exact(HT0.out.set0 119).set1 _
         have HOV:Hid (OwnK w.heap.size u3 D V):=by rw[← hV];exact(HO0.out.setLow HbV.out).setLow HbV.out
         have HBV:Hid (Below w.heap.size w V):=by rw[← hV];exact(HB0.out.setCell (p:=⟨wr0.heap.size,0,none⟩) hs1 _).setCell (p:=⟨wr0.heap.size,1,none⟩) hs1 _
         have hsV:Hid (w.heap.size≤V.heap.size):=HBV.out.size
         have HsE:Hid (V.heap.size=V0.heap.size):=by show _=_;rw[← hV];simp
         have HV:=mkHid hV
         clear hV
         go_wp2_with (first|(at_builtin;go_must (rw[HV.out];refine wp_appK rfl _ _ rfl w.heap.size u3 D rfl HOV.out ((119:Nat),(s.extract i k),ln0) 1 (by exact congrArg (fun n=>Value.slice (some ⟨n,0,none⟩) 1 1) HsE.out.symm) (by omega) hsV.out ?_;intro ov2 w3 hO3 hg3;refine Hid.out ?_))|(go_at_call 86;go_must (refine(kK.out _).mono ?_;rintro e w2 ⟨rfl,rfl⟩)))
         have hbA:Below V.heap.size V (V.alloc (.cells #[.int .u8 119,.string (s.extract i k),.int .i64 (ln0:Int)] 111)):=(Below.refl _ _).alloc (Nat.le_refl _) _
         have HB3:=mkHid (((HBV.out.trans (hbA.mono hsV.out))).grown hg3 (Nat.le_trans hsV.out hbA.size) (fun k hk=>(World.ownsRow.lt HOV.out k hk).1))
         have HO3:=mkHid hO3
         have HT3:=mkHid ((HTV.out.below hbA).grown hg3 (fun e=>HbV.out e))
         have q0:=HT3.out.c0
         clear hO3 hg3 hbA HOV HBV HTV d0 d1 d2 z0 z1
         refine mkHid ?_
         go_wp2
         go_roundw
         case rel=>exact⟨k,f',ln0,D ++ [((119:Nat),s.extract i k,ln0)],by omega,by go_num,rfl,hl2,by omega,by omega,hD2,HO3,by simp;omega,HB3⟩
         case measure=>simp[Lib.intOf];omega
        ·rw[hdk] at kK
         have e:Hid (Pl.stop Rf.lowK l (k+1)=Z):=by
          show _=_
          rw[← HZ.out]
          exact Pl.first_miss _ _ k hkL (by rw[← hd,hdk];rfl)
         clear HZ hd hdk hkL
         go_wp2_with (go_at_call 86;go_must (refine(kK.out _).mono ?_;rintro e w2 ⟨rfl,rfl⟩))
         go_roundw
         case rel=>exact⟨k+1,by omega,by omega,by go_num,e,by first|rfl|trivial⟩
         case measure=>simp[Lib.intOf];omega
       ·have e:Hid (Z=k):=by
         show _=_
         rw[← HZ.out]
         exact Pl.stop_eq _ _ _ _ (Nat.le_refl _) (by rw[Hn.out];omega) (fun j h1 h2=>by omega) (fun h=>by rw[Hn.out] at h;omega)
        have hkI:¬(k:Int)<(s.size:Int):=by omega
        clear HZ
        rw[e.out] at hl2 hD2 hZ2
        obtain⟨V,hV⟩:∃V,(V0.setCell ⟨wr0.heap.size,0,none⟩ (.int .u8 119)).setCell ⟨wr0.heap.size,1,none⟩ (.string (s.extract i k))=V:=⟨_,rfl⟩
        have HTV:Hid (Tl wr0.heap.size 119 (s.extract i k) ln0 V):=by rw[← hV];exact(HT0.out.set0 119).set1 _
        have HOV:Hid (OwnK w.heap.size u3 D V):=by rw[← hV];exact(HO0.out.setLow HbV.out).setLow HbV.out
        have HBV:Hid (Below w.heap.size w V):=by rw[← hV];exact(HB0.out.setCell (p:=⟨wr0.heap.size,0,none⟩) hs1 _).setCell (p:=⟨wr0.heap.size,1,none⟩) hs1 _
        have hsV:Hid (w.heap.size≤V.heap.size):=HBV.out.size
        have HsE:Hid (V.heap.size=V0.heap.size):=by show _=_;rw[← hV];simp
        have HV:=mkHid hV
        clear hV
        go_wp2_with (first|(at_builtin;go_must (rw[HV.out];refine wp_appK rfl _ _ rfl w.heap.size u3 D rfl HOV.out ((119:Nat),(s.extract i k),ln0) 1 (by exact congrArg (fun n=>Value.slice (some ⟨n,0,none⟩) 1 1) HsE.out.symm) (by omega) hsV.out ?_;intro ov2 w3 hO3 hg3;refine Hid.out ?_))|(fail))
        have hbA:Below V.heap.size V (V.alloc (.cells #[.int .u8 119,.string (s.extract i k),.int .i64 (ln0:Int)] 111)):=(Below.refl _ _).alloc (Nat.le_refl _) _
        have HB3:=mkHid (((HBV.out.trans (hbA.mono hsV.out))).grown hg3 (Nat.le_trans hsV.out hbA.size) (fun k hk=>(World.ownsRow.lt HOV.out k hk).1))
        have HO3:=mkHid hO3
        have HT3:=mkHid ((HTV.out.below hbA).grown hg3 (fun e=>HbV.out e))
        have q0:=HT3.out.c0
        clear hO3 hg3 hbA HOV HBV HTV d0 d1 d2 z0 z1
        refine mkHid ?_
        go_wp2
        go_roundw
        case rel=>exact⟨k,f',ln0,D ++ [((119:Nat),s.extract i k,ln0)],by omega,by go_num,rfl,hl2,by omega,by omega,hD2,HO3,by simp;omega,HB3⟩
        case measure=>simp[Lib.intOf];omega
   ·rw[hb] at kB hgl
    as_aux_lemma=>
     have x10:((c.toNat:Int)==10)=false:=byte_neI c 10 (fun e=>by rw[e] at hb;revert hb;decide)
     have hk:Rf.gapK c=true:=by rw[hgl.out];rfl
     have hst:Hid (Rf.toks l f i=Rf.toks l f (i+1)):=Rf.toks_gap l i (i+1) (Rf.gap_step l i HiL.out (by rw[Hc.out];exact hk)) f
     have hl2:Hid (ln=Rf.line l (i+1)):=by show _=_;rw[Rf.line_step l i HiL.out,Hc.out,if_neg (fun e=>by rw[e] at hb;revert hb;decide),hln.out];rfl
     have hD2:Hid (D++(Rf.toks l f (i+1)).map (Rf.ent l)=T):=by rw[← hst.out];exact hD
     clear hst hD hln hk hgl Hsk Hc HiL
     go_wp2_with (go_at_call 88;go_must (refine(kB.out _).mono ?_;rintro e w2 ⟨rfl,rfl⟩))
     go_roundw
     case rel=>exact⟨i+1,f,ln,D,by omega,by go_num,by go_num,hl2,hlnb,by omega,hD2,hO,by omega,hB⟩
     case measure=>simp[Lib.intOf];omega
  ·as_aux_lemma=>
    have hiE:i=s.size:=by omega
    have hiI:¬(i:Int)<(s.size:Int):=by omega
    have hg:Hid (Rf.toks l f i=[⟨101,[],l.length⟩]):=by
     show _=_
     cases f with
     | zero=>omega
     | succ f=>
      rw[Rf.toks,if_neg]
      have:=Rf.gap_ge l i
      rw[Hn.out]
      omega
    have hT2:Hid (D ++ [((101:Nat),Rf.ba [],ln)]=T):=by
     show _=_
     rw[← hD.out,hg.out,hln.out,hiE,← Hn.out]
     rfl
    have hO2:=hO.out
    have hs1:=hB.out.size
    clear hD hg hln
    go_wp2_with (at_builtin;refine wp_appK rfl _ _ rfl w.heap.size u3 D rfl hO.out ((101:Nat),(⟨#[]⟩:ByteArray),ln) 1 rfl (by omega) (by omega) ?_;intro ov2 w3 hO3 hg3;refine Hid.out ?_)
    have hbA:Below wr.heap.size wr (wr.alloc (.cells #[.int .u8 101,.string ⟨#[]⟩,.int .i64 (ln:Int)] 111)):=(Below.refl _ _).alloc (Nat.le_refl _) _
    have HB3:=mkHid (((hB.out.trans (hbA.mono hs1))).grown hg3 (Nat.le_trans hs1 hbA.size) (fun k hk=>(World.ownsRow.lt hO2 k hk).1))
    have HO3:=mkHid hO3
    clear hO3 hg3 hbA hO2
    refine mkHid ?_
    go_wp2
    go_ret
    exact⟨_,_,rfl,HO3,hT2,HB3.out⟩
end Go.Proofs.YtkcajnjledldnaaGreatDoor
