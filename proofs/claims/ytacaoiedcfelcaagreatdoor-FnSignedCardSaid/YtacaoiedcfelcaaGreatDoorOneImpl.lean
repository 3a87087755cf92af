import Derived.Test.YtacaoiedcfelcaaGreatDoorNamed
import Derived.Test.YtacaoiedcfelcaaGreatDoorCkTurn
import Derived.Test.YtacaoiedcfelcaaGreatDoorHeadsPlain
import Derived.Test.YtacaoiedcfelcaaGreatDoorAnyVals
import Derived.Lib.ItoaLen
import Derived.Shelf.SlicesE.Clone
import Derived.Ground.SlgnProg
import Derived.Test.YtacaoiedcfelcaaGreatDoorProg
import Derived.Test.YtacaoiedcfelcaaGreatDoorOwnF
import Derived.Deep.OwnRows
import Derived.Lib.LazyBuf
import Derived.Lib.SliceRun
import Derived.Deep.RegionLaw
import Derived.ArgAppend
import Derived.Shelf.RegionOpenPlain
import Derived.Deep.LoopGhost
import Derived.Lib.Walk
import Derived.Test.YtacaoiedcfelcaaGreatDoorRunsSpec
set_option maxRecDepth 20000
set_option maxHeartbeats 4000000
namespace Go.Proofs.YtacaoiedcfelcaaGreatDoor
theorem lastTo_congr {p q:Nat→Bool}:∀n,(∀i,i<n→p i=q i)→lastTo p n=lastTo q n
 | 0,_=>rfl
 | n+1,h=>by
  rw[lastTo,lastTo,h n (Nat.lt_succ_self n),lastTo_congr n fun i hi=>h i (Nat.lt_succ_of_lt hi)]
theorem lastTo_lt {p:Nat→Bool}:∀n k,lastTo p n=some k→k<n
 | 0,k,h=>by cases h
 | n+1,k,h=>by
  rw[lastTo] at h
  split at h
  ·cases h;exact Nat.lt_succ_self _
  ·exact Nat.lt_succ_of_lt (lastTo_lt n k h)
theorem snoc_ind {α:Type} {motive:List α→Prop} (h0:motive [])(h1:∀l a,motive l→motive (l ++ [a]))(l:List α):motive l:=by
 have:∀r:List α,motive r.reverse:=by
  intro r
  induction r with
  | nil=>exact h0
  | cons a r ih=>rw[List.reverse_cons];exact h1 _ _ ih
 have:=this l.reverse
 rwa [List.reverse_reverse] at this
def keep {α:Type} (Z:List (α × Bool)):List α:=(Z.filter fun q=>!q.2).map (·.1)
def mtAt {α:Type} (p:α→Bool)(L:List α)(i:Nat):Bool:=(L[i]?.map p).getD false
def unAt {α:Type} (p:α→Bool)(Z:List (α × Bool))(i:Nat):Bool:=(Z[i]?.map fun q=>!q.2 && p q.1).getD false
theorem keep_snoc {α:Type} (Z:List (α × Bool))(f:α)(t:Bool):keep (Z ++ [(f,t)])=if t then keep Z else keep Z ++ [f]:=by
 unfold keep
 cases t<;>simp
theorem mt_snoc {α:Type} (p:α→Bool)(L:List α)(f:α):lastTo (mtAt p (L ++ [f])) (L ++ [f]).length=if p f then some L.length else lastTo (mtAt p L) L.length:=by
 rw[List.length_append,List.length_singleton,lastTo]
 have e:mtAt p (L ++ [f]) L.length=p f:=by simp[mtAt]
 rw[e]
 congr 1
 exact lastTo_congr _ fun i hi=>by simp[mtAt,List.getElem?_append_left hi]
theorem un_snoc {α:Type} (p:α→Bool)(Z:List (α × Bool))(f:α)(t:Bool):lastTo (unAt p (Z ++ [(f,t)])) (Z ++ [(f,t)]).length=if !t && p f then some Z.length else lastTo (unAt p Z) Z.length:=by
 rw[List.length_append,List.length_singleton,lastTo]
 have e:unAt p (Z ++ [(f,t)]) Z.length=(!t && p f):=by simp[unAt]
 rw[e]
 congr 1
 exact lastTo_congr _ fun i hi=>by simp[unAt,List.getElem?_append_left hi]
theorem pick {α:Type} (p:α→Bool)(Z:List (α × Bool)) :
  (lastTo (unAt p Z) Z.length=none∧lastTo (mtAt p (keep Z)) (keep Z).length=none) ∨
  ∃ k f k',lastTo (unAt p Z) Z.length=some k∧Z[k]?=some (f,false)∧lastTo (mtAt p (keep Z)) (keep Z).length=some k'∧(keep Z)[k']?=some f∧(keep Z).eraseIdx k'=keep (Z.set k (f,true)):=by
 induction Z using snoc_ind with
 | h0=>exact .inl ⟨rfl,rfl⟩
 | h1 Z a ih=>
  obtain⟨f,t⟩:=a
  rw[un_snoc,keep_snoc]
  cases t with
  | true=>
   rw[if_pos rfl]
   simp only[Bool.not_true,Bool.false_and,Bool.false_eq_true,if_false]
   rcases ih with ih|⟨k,g,k',h1,h2,h3,h4,h5⟩
   ·exact .inl ih
   ·have hk:=lastTo_lt _ _ h1
    refine .inr ⟨k,g,k',h1,by rw[List.getElem?_append_left hk];exact h2,h3,h4,?_⟩
    rw[h5,List.set_append_left _ _ hk,keep_snoc,if_pos rfl]
  | false=>
   simp only[Bool.false_eq_true,if_false]
   rw[mt_snoc]
   cases hp:p f with
   | true=>
    refine .inr ⟨Z.length,f,(keep Z).length,by simp,by simp,by simp,by simp,?_⟩
    rw[List.set_append_right _ _ (Nat.le_refl _)]
    rw[List.eraseIdx_append_of_length_le (Nat.le_refl _)]
    simp[keep_snoc]
   | false=>
    simp only[Bool.not_false,Bool.true_and,Bool.false_eq_true,if_false]
    rcases ih with ih|⟨k,g,k',h1,h2,h3,h4,h5⟩
    ·exact .inl ih
    ·have hk:=lastTo_lt _ _ h1
     have hk':=lastTo_lt _ _ h3
     refine .inr ⟨k,g,k',h1,by rw[List.getElem?_append_left hk];exact h2,h3,by rw[List.getElem?_append_left hk'];exact h4,?_⟩
     rw[List.eraseIdx_append_of_lt_length hk',h5,List.set_append_left _ _ hk,keep_snoc,if_neg (by simp)]
open Go.RowKit Go.Lib
def nmF (m:ByteArray)(f:Fd):Bool:=namedB f.1 m
def tkZ (h:Int):List ByteArray→List (Fd × Bool)→List UInt8
 | [],_=>[]
 | m::ms,Z=>
  match lastTo (unAt (nmF m) Z) Z.length with
  | none=>tkZ h ms Z
  | some k=>
   match Z[k]? with
   | none=>tkZ h ms Z
   | some q=>(canonF q.1.1 q.1.2 h).data.toList++tkZ h ms (Z.set k (q.1,true))
def tkL (h:Int):List ByteArray→List Fd→List UInt8
 | [],_=>[]
 | m::ms,L=>
  match lastTo (mtAt (nmF m) L) L.length with
  | none=>tkL h ms L
  | some k=>
   match L[k]? with
   | none=>tkL h ms L
   | some f=>(canonF f.1 f.2 h).data.toList++tkL h ms (L.eraseIdx k)
theorem tkZ_none (h:Int)(m:ByteArray)(ms:List ByteArray)(Z:List (Fd × Bool))(h1:lastTo (unAt (nmF m) Z) Z.length=none):tkZ h (m::ms) Z=tkZ h ms Z:=by
 rw[tkZ,h1]
theorem tkZ_some (h:Int)(m:ByteArray)(ms:List ByteArray)(Z:List (Fd × Bool))(k:Nat)(q:Fd × Bool)(h1:lastTo (unAt (nmF m) Z) Z.length=some k)(h2:Z[k]?=some q):tkZ h (m::ms) Z=(canonF q.1.1 q.1.2 h).data.toList++tkZ h ms (Z.set k (q.1,true)):=by
 rw[tkZ,h1]
 simp only[h2]
theorem tkL_none (h:Int)(m:ByteArray)(ms:List ByteArray)(L:List Fd)(h1:lastTo (mtAt (nmF m) L) L.length=none):tkL h (m::ms) L=tkL h ms L:=by
 rw[tkL,h1]
theorem tkL_some (h:Int)(m:ByteArray)(ms:List ByteArray)(L:List Fd)(k:Nat)(f:Fd)(h1:lastTo (mtAt (nmF m) L) L.length=some k)(h2:L[k]?=some f):tkL h (m::ms) L=(canonF f.1 f.2 h).data.toList++tkL h ms (L.eraseIdx k):=by
 rw[tkL,h1]
 simp only[h2]
theorem tk_eq (h:Int):∀(ms:List ByteArray)(Z:List (Fd × Bool)),tkZ h ms Z=tkL h ms (keep Z)
 | [],Z=>rfl
 | m::ms,Z=>by
  rcases pick (nmF m) Z with ⟨h1,h2⟩|⟨k,f,k',h1,h2,h3,h4,h5⟩
  ·rw[tkZ_none h m ms Z h1,tkL_none h m ms _ h2]
   exact tk_eq h ms Z
  ·rw[tkZ_some h m ms Z k _ h1 h2,tkL_some h m ms _ k' f h3 h4,h5,← tk_eq h ms]
theorem keep_new (L:List Fd):keep (L.map fun f=>(f,false))=L:=by
 unfold keep
 induction L with
 | nil=>rfl
 | cons f r ih=>simp at ih ⊢;exact ih
def fsz (f:Fd):Nat:=f.1.size+f.2.size+3
def fsum (L:List Fd):Nat:=(L.map fsz).sum
theorem canonF_size (n v:ByteArray)(x:Int):(canonF n v x).size≤fsz (n,v):=by
 unfold canonF fsz
 have e1:(lower n.data.toList).length=n.size:=by rw[lower,List.length_map];simp
 have e2:(relaxV v).length≤v.size:=by
  refine Nat.le_trans (Pl.trimB_len _) (Nat.le_trans (Pl.runs_len _) ?_)
  refine Nat.le_trans (Pl.unf_len _ _) ?_
  simp
 split
 ·exact Nat.zero_le _
 ·split
  ·simp[ByteArray.size_append];show _+1+_+2≤_;omega
  ·split
   ·simp only[ByteArray.size_append]
    have e3:(⟨(lower n.data.toList).toArray⟩:ByteArray).size=n.size:=by show((lower n.data.toList).toArray).size=_;rw[List.size_toArray];exact e1
    have e4:(⟨(relaxV v).toArray⟩:ByteArray).size≤v.size:=by show((relaxV v).toArray).size≤_;rw[List.size_toArray];exact e2
    rw[e3]
    show _+1+_+2≤n.size+v.size+3
    omega
   ·exact Nat.zero_le _
theorem sum_erase {α:Type} (g:α→Nat):∀(L:List α)(k:Nat)(f:α),L[k]?=some f→(L.map g).sum=g f+((L.eraseIdx k).map g).sum
 | [],k,f,h=>by simp at h
 | a::r,0,f,h=>by simp at h;subst h;simp
 | a::r,k+1,f,h=>by
  have:=sum_erase g r k f (by simpa using h)
  simp[this]
  omega
theorem tkL_len (h:Int):∀(ms:List ByteArray)(L:List Fd),(tkL h ms L).length≤fsum L
 | [],L=>Nat.zero_le _
 | m::ms,L=>by
  cases h1:lastTo (mtAt (nmF m) L) L.length with
  | none=>rw[tkL_none h m ms L h1];exact tkL_len h ms L
  | some k=>
   cases h2:L[k]? with
   | none=>exact absurd (lastTo_lt _ _ h1) (by have:=List.getElem?_eq_none_iff.1 h2;omega)
   | some f=>
    rw[tkL_some h m ms L k f h1 h2,List.length_append]
    have a:=canonF_size f.1 f.2 h
    have b:=tkL_len h ms (L.eraseIdx k)
    have c:=sum_erase fsz L k f h2
    have e:(canonF f.1 f.2 h).data.toList.length=(canonF f.1 f.2 h).size:=by simp
    unfold fsum at b ⊢
    rw[e,c]
    have:fsz (f.1,f.2)=fsz f:=rfl
    omega
def flsum (F:List Fl):Nat:=(F.map fun f=>f.1.length+f.2.length+3).sum
theorem flsum_app (F:List Fl)(f:Fl):flsum (F ++ [f])=flsum F+(f.1.length+f.2.length+3):=by simp[flsum]
namespace Pl
theorem trimR_len (l:List UInt8):(trimR l).length≤l.length:=by
 obtain⟨q,h,-⟩:=trimR_split l
 have:=congrArg List.length h
 rw[List.length_append] at this
 omega
theorem field_size (l:List UInt8)(k x:Nat)(n v:List UInt8)(hk:k<l.length)(h:implF l k=.inr (n,v,x)) :
  k<x∧x≤l.length∧n.length+v.length+3≤(if x<l.length then x-k else l.length-k+2):=by
 rw[← field_same l k hk] at h
 unfold specF at h
 have a0:=nx_lt l k hk
 have a1:=first_ge (fun j=>b l j==58) (fe l k) k (by have:=first_ge (fun j=>crlf l j && !fold l j) l.length k (by omega);exact this)
 have a2:=first_le (fun j=>b l j==58) (fe l k) k (by have:=first_ge (fun j=>crlf l j && !fold l j) l.length k (by omega);exact this)
 have a3:fe l k≤l.length:=first_le (fun j=>crlf l j && !fold l j) l.length k (by omega)
 have a4:=le_fe l k (by omega)
 change k≤colon l (fe l k) k at a1
 change colon l (fe l k) k≤fe l k at a2
 simp only at h
 split at h
 ·cases h
 ·rename_i hc
  split at h
  ·simp only[Sum.inr.injEq,Prod.mk.injEq] at h
   obtain⟨rfl,rfl,rfl⟩:=h
   have hlt:colon l (fe l k) k<le l k:=by
    simp only[Bool.or_eq_true,decide_eq_true_eq,not_or] at hc
    omega
   refine⟨a0.1,a0.2,?_⟩
   have b1:=trimR_len (sl l k (colon l (fe l k) k))
   rw[sl_len l k _ (by omega)] at b1
   rw[sl_len l _ _ a3]
   unfold nx
   split<;>split<;>omega
  ·cases h
theorem rd_sum (l:List UInt8):∀(f k:Nat)(fs:List Fl),k≤l.length→flsum (rd l f k fs).fields≤flsum fs+(if k<l.length then l.length-k+2 else 0)
 | 0,k,fs,_=>Nat.zero_le _
 | f+1,k,fs,hk=>by
  rw[rd]
  split
  ·simp only;omega
  ·rename_i h1
   split
   ·simp only;omega
   ·split
    ·exact Nat.zero_le _
    ·rename_i n v x hf
     split
     ·exact Nat.zero_le _
     ·obtain⟨c1,c2,c3⟩:=field_size l k x n v (by omega) hf
      have ih:=rd_sum l f x (fs ++ [(n,v)]) c2
      rw[flsum_app] at ih
      simp only at ih
      rw[if_pos (show k<l.length by omega)]
      split at c3<;>split at ih<;>omega
theorem read_sum (l:List UInt8):flsum (readHead l).fields≤l.length+2:=by
 have:=rd_sum l (l.length+1) 0 [] (Nat.zero_le _)
 unfold readHead
 have e:flsum []=0:=rfl
 rw[e] at this
 split at this<;>omega
theorem rd_count (l:List UInt8):∀(f k:Nat)(fs:List Fl),fs.length≤200→(rd l f k fs).fields.length≤200
 | 0,k,fs,_=>Nat.zero_le _
 | f+1,k,fs,hf=>by
  rw[rd]
  split
  ·exact hf
  ·split
   ·exact hf
   ·split
    ·exact Nat.zero_le _
    ·split
     ·exact Nat.zero_le _
     ·exact rd_count l f _ _ (by rw[List.length_append,List.length_singleton];omega)
theorem read_count (l:List UInt8):(readHead l).fields.length≤200:=rd_count l _ _ _ (Nat.zero_le _)
theorem rd_body (l:List UInt8):∀(f k:Nat)(fs:List Fl),k≤l.length→(rd l f k fs).body≤l.length
 | 0,k,fs,_=>Nat.zero_le _
 | f+1,k,fs,hk=>by
  rw[rd]
  split
  ·exact Nat.le_refl _
  ·split
   ·rename_i h2
    have:=(crlf_b l k h2).2.2
    show k+2≤l.length
    omega
   ·split
    ·exact Nat.zero_le _
    ·rename_i n v x hf
     split
     ·exact Nat.zero_le _
     ·obtain⟨c1,c2,c3⟩:=field_size l k x n v (by omega) hf
      exact rd_body l f _ _ c2
theorem read_body (l:List UInt8):(readHead l).body≤l.length:=rd_body l _ _ _ (Nat.zero_le _)
theorem ends_len (ls:List (List UInt8)):(ends ls).length=(ls.map fun x=>x.length+2).sum:=by
 induction ls with
 | nil=>rfl
 | cons a r ih=>simp[ends] at ih ⊢;omega
theorem lines_sum:∀(n:Nat)(l:List UInt8),l.length≤n→((lines l).map fun x=>x.length+2).sum≤l.length+2
 | 0,l,h=>by
  obtain rfl:l=[]:=List.length_eq_zero_iff.1 (by omega)
  simp[lines_nil]
 | n+1,l,h=>by
  by_cases hl:l=[]
  ·subst hl;simp[lines_nil]
  ·rw[lines_step l hl]
   have hr:=cut_rest l hl
   have ih:=lines_sum n (cut l crs).2.1 (by omega)
   rw[List.map_cons,List.sum_cons]
   by_cases hc:∃i,NoCr l i∧crlf l i=true
   ·obtain⟨i,h1,h2⟩:=hc
    rw[cut_hit l i h1 h2] at ih ⊢
    have:=(crlf_b l i h2).2.2
    simp only[List.length_take,List.length_drop] at ih ⊢
    omega
   ·have hn:NoCr l l.length:=by
     intro j hj
     induction j using Nat.strongRecOn with
     | _ j ihj=>
      cases hx:crlf l j with
      | false=>rfl
      | true=>exact absurd ⟨j,fun m hm=>ihj m hm (by omega),hx⟩ hc
    rw[cut_miss l hn] at ih ⊢
    simp only[lines_nil,List.map_nil,List.sum_nil]
    omega
theorem dt_sum (ls:List (List UInt8)):((dt ls).map fun x=>x.length+2).sum≤(ls.map fun x=>x.length+2).sum:=by
 unfold dt
 rw[← List.sum_reverse,← List.map_reverse,List.reverse_reverse,← List.sum_reverse (ls.map _),← List.map_reverse]
 generalize ls.reverse=r
 induction r with
 | nil=>exact Nat.le_refl _
 | cons a r ih=>
  rw[List.dropWhile_cons]
  split
  ·rw[List.map_cons,List.sum_cons];omega
  ·exact Nat.le_refl _
theorem runs_sum (ls:List (List UInt8)):((ls.map runs).map fun x=>x.length+2).sum≤(ls.map fun x=>x.length+2).sum:=by
 induction ls with
 | nil=>exact Nat.le_refl _
 | cons a r ih=>
  have:=runs_len a
  simp only[List.map_cons,List.sum_cons] at ih ⊢
  omega
end Pl
theorem canonB_len (s:ByteArray)(x:Int):(canonB s x).length≤s.size+2:=by
 have e:s.data.toList.length=s.size:=by simp
 have h0:=Pl.lines_sum _ s.data.toList (Nat.le_refl _)
 rw[e] at h0
 unfold canonB
 split
 ·show 2≤_;omega
 ·rw[Pl.ends_len]
  unfold bodyL
  refine Nat.le_trans (Pl.dt_sum _) ?_
  split
  ·exact Nat.le_trans (Pl.runs_sum _) h0
  ·exact h0
def RH (s:ByteArray):HR:=if s.size≤100000 then Pl.readHead s.data.toList else ⟨2,0,0,[]⟩
theorem RH_len (s:ByteArray):(RH s).fields.length≤200:=by
 unfold RH
 split
 ·exact Pl.read_count _
 ·exact Nat.zero_le _
theorem RH_body (s:ByteArray):(RH s).body≤s.size:=by
 unfold RH
 have e:s.data.toList.length=s.size:=by simp
 split
 ·rw[← e];exact Pl.read_body _
 ·exact Nat.zero_le _
theorem RH_good (s:ByteArray)(h:(RH s).code=0):s.size≤100000∧flsum (RH s).fields≤100002:=by
 unfold RH at h ⊢
 have e:s.data.toList.length=s.size:=by simp
 split
 ·rename_i hs
  refine⟨hs,?_⟩
  have:=Pl.read_sum s.data.toList
  omega
 ·rename_i hs
  rw[if_neg hs] at h
  cases h
abbrev hdV (H:HR)(o:Option Addr)(c:Nat):Value:=.agg #[.int .i64 H.code,.int .i64 H.at_,.slice o H.fields.length c,.int .i64 H.body]
theorem specRH (s:ByteArray)(w:World)(hs:s.size≤1048576) :
  Calls Tryz.prog 9 #[.string s] w fun e w'=>∃ o c,e=.returned (hdV (RH s) o c)∧OwnF w.heap.size (.slice o (RH s).fields.length c) (RH s).fields w'∧Below w.heap.size w w':=by
 unfold RH
 split
 ·rename_i h
  refine(specReadHead s w h).mono ?_
  rintro e w' ⟨v,rfl,ho,hb⟩
  rcases ho.form with ⟨rfl,h0⟩|⟨g,cap,rfl⟩
  ·rw[h0] at ho ⊢
   exact⟨none,0,by rw[hdV,h0];rfl,ho,hb⟩
  ·exact⟨_,_,rfl,ho,hb⟩
 ·have hl:decide ((100000:Int)<(s.size:Int))=true:=by simp;omega
  go_enter Tryz.func9,Tryz.ntmps9
  go_wp2
  refine bodyPost_ret (v:=.agg #[.int .i64 2,.int .i64 0,.slice none 0 0,.int .i64 0]) (by simp[results,Tryz.results9,go_sem]) rfl ⟨none,0,rfl,OwnF.nil _ _,?_⟩
  exact(Below.refl _ _).alloc (Nat.le_refl _) _
theorem implRH (s:ByteArray)(w:World)(hs:s.size≤1048576) :
  Calls Tryz.prog 14 #[.string s] w fun e w'=>∃ o c,e=.returned (hdV (RH s) o c)∧OwnF w.heap.size (.slice o (RH s).fields.length c) (RH s).fields w'∧Below w.heap.size w w':=by
 unfold RH
 split
 ·rename_i h
  refine(implReadHead s w h).mono ?_
  rintro e w' ⟨v,rfl,ho,hb⟩
  rcases ho.form with ⟨rfl,h0⟩|⟨g,cap,rfl⟩
  ·rw[h0] at ho ⊢
   exact⟨none,0,by rw[hdV,h0];rfl,ho,hb⟩
  ·exact⟨_,_,rfl,ho,hb⟩
 ·have hT:=fun w=>implTooLong s w (by omega)
  simp only[decide_eq_true (show(100000:Int)<(s.size:Int) by omega)] at hT
  go_enter_defers Tryz.func14,Tryz.ntmps14
  go_wp2_with fail
  refine(hT _).mono ?_
  rintro e w1 ⟨rfl,rfl⟩
  go_wp2
  simp[bodyPostD,Leaves,results,Tryz.results14,go_sem]
  exact⟨none,0,⟨rfl,rfl⟩,OwnF.nil _ _,(Below.refl _ _).alloc (Nat.le_refl _) _⟩
namespace Pl
theorem atom_lb_all:∀n,n<256→(atom (UInt8.ofNat n)=true→lb (UInt8.ofNat n)=true):=by decide +kernel
theorem atom_lb (c:UInt8)(h:atom c=true):lb c=true:=by
 have:=atom_lb_all c.toNat (UInt8.toNat_lt c)
 rw[UInt8.ofNat_toNat] at this
 exact this h
theorem nb_lb_all:∀n,n<256→(nb (UInt8.ofNat n)=true→lb (UInt8.ofNat n)=true):=by decide +kernel
theorem nb_lb (c:UInt8)(h:nb c=true):lb c=true:=by
 have:=nb_lb_all c.toNat (UInt8.toNat_lt c)
 rw[UInt8.ofNat_toNat] at this
 exact this h
theorem sel_lb_all:∀n,n<256→(selB (UInt8.ofNat n)=true→lb (UInt8.ofNat n)=true):=by decide +kernel
theorem sel_lb (c:UInt8)(h:selB c=true):lb c=true:=by
 have:=sel_lb_all c.toNat (UInt8.toNat_lt c)
 rw[UInt8.ofNat_toNat] at this
 exact this h
theorem all_imp (K L:UInt8→Bool)(l:List UInt8)(h:∀c,K c=true→L c=true)(hl:l.all K=true):l.all L=true:=by
 rw[List.all_eq_true] at hl ⊢
 exact fun x hx=>h x (hl x hx)
theorem scan_lb:∀(l:List UInt8)(was:Bool),scan 46 was l=true→l.all lb=true
 | [],_,_=>rfl
 | c::r,was,h=>by
  rw[scan] at h
  rw[List.all_cons]
  split at h
  ·rename_i ha
   rw[atom_lb c ha,Bool.true_and]
   exact scan_lb r true h
  ·split at h
   ·rename_i hc
    rw[Bool.and_eq_true] at hc
    have e:c=46:=by simpa using hc.1
    subst e
    rw[show lb 46=true from by decide,Bool.true_and]
    exact scan_lb r false h
   ·cases h
theorem dom_lb (l:List UInt8)(h:domOk l=true):l.all lb=true∧l.length≤255:=by
 unfold domOk domI at h
 simp only[Bool.and_eq_true,Bool.or_eq_true,decide_eq_true_eq] at h
 obtain⟨⟨h1,h2⟩,h3,h4⟩:=h
 refine⟨?_,h1⟩
 rcases h2 with h2|h2
 ·exact scan_lb l false h2
 ·exfalso
  unfold isLit at h2
  rw[Bool.and_eq_true] at h2
  have hp:=h2.1
  unfold hasPrefix at hp
  match l,hp,h3 with
  | [],hp,_=>cases hp
  | c::r,hp,h3=>
   simp[List.isPrefixOf] at hp
   subst hp
   simp at h3
theorem dec_lb (n:Nat):(decDigits n).all lb=true:=by
 rw[decDigits_eq,List.all_map,List.all_eq_true]
 intro t _
 show lb (dg n _)=true
 generalize nDigits n-1-t=m
 unfold dg
 have h:n / 10 ^ m % 10<10:=Nat.mod_lt _ (by omega)
 generalize n / 10 ^ m % 10=q at *
 revert q
 decide
theorem fold_none (l:List UInt8)(h:l.all lb=true):fold l 0=false:=by
 cases hf:fold l 0 with
 | false=>rfl
 | true=>
  have hc:=crlf_b l 0 (fold_crlf l 0 hf)
  match l,h,hc with
  | [],_,hc=>exact absurd hc.2.2 (by simp)
  | c::r,h,hc=>
   have e:c=13:=hc.1
   subst e
   rw[List.all_cons] at h
   simp[lb] at h
theorem unf_same:∀(l:List UInt8),l.all lb=true→unf false l=l
 | [],_=>rfl
 | c::r,h=>by
  rw[unf,if_neg (by rw[fold_none _ h];simp)]
  rw[List.all_cons,Bool.and_eq_true] at h
  rw[unf_same r h.2]
theorem val_same (l:List UInt8)(h:l.all lb=true):val l=true:=by
 unfold val
 rw[unf_same l h]
 exact h
end Pl
theorem jc_lb:∀(F:List ByteArray),F.all nameB=true→(jc F).all Pl.lb=true
 | [],_=>rfl
 | [t],h=>by
  simp only[List.all_cons,List.all_nil,Bool.and_true] at h
  have h1:Pl.nameOk t.data.toList=true:=by
   unfold nameB Pl.sNameOk at h
   exact(Bool.and_eq_true _ _ ▸ h).1
  unfold Pl.nameOk at h1
  simp only[Bool.and_eq_true] at h1
  have e:jc [t]=t.data.toList:=by simp[jc]
  rw[e]
  exact Pl.all_imp _ _ _ Pl.nb_lb h1.2.2
 | t::a::q,h=>by
  rw[List.all_cons,Bool.and_eq_true] at h
  have ih:=jc_lb (a::q) h.2
  have h1:Pl.nameOk t.data.toList=true:=by
   have:=h.1
   unfold nameB Pl.sNameOk at this
   exact(Bool.and_eq_true _ _ ▸ this).1
  unfold Pl.nameOk at h1
  simp only[Bool.and_eq_true] at h1
  show(t.data.toList++58::jc (a::q)).all Pl.lb=true
  rw[List.all_append,List.all_cons,ih,Pl.all_imp _ _ _ Pl.nb_lb h1.2.2]
  rfl
theorem name_size (F:List ByteArray)(h:F.all nameB=true):∀t ∈ F,t.size≤70:=by
 intro t ht
 have:=(List.all_eq_true.1 h) t ht
 unfold nameB Pl.sNameOk at this
 exact Pl.nameOk_size t (Bool.and_eq_true _ _ ▸ this).1
theorem form_lb (h:Int):(formT h).data.toList.all Pl.lb=true∧(formT h).size≤7:=by
 unfold formT
 split
 ·exact⟨by decide,by decide⟩
 ·exact⟨by decide,by decide⟩
theorem sumT_lb (x y:Nat):(sumT x y).data.toList.all Pl.lb=true:=by
 unfold sumT
 simp only[ByteArray.data_append,Array.toList_append,List.all_append,Pl.dec_lb]
 decide
theorem dec_short (n:Nat)(h:n<2147483647):(decDigits n).length≤20:=by
 rw[decDigits_length]
 exact nDigits_le20 n (by omega)
theorem sumT_sz (x y:Nat)(hx:x<2147483647)(hy:y<2147483647):(sumT x y).size≤41:=by
 have a:=dec_short x hx
 have b:=dec_short y hy
 unfold sumT
 simp only[ByteArray.size_append]
 have e1:(⟨(decDigits x).toArray⟩:ByteArray).size=(decDigits x).length:=by show((decDigits x).toArray).size=_;rw[List.size_toArray]
 have e2:(⟨(decDigits y).toArray⟩:ByteArray).size=(decDigits y).length:=by show((decDigits y).toArray).size=_;rw[List.size_toArray]
 rw[e1,e2]
 show _+1+_≤41
 omega
theorem front_lb (d s:ByteArray)(A B:Int)(F:List ByteArray)(h b:Int)(x y:Nat)(hok:signerOk d s A B F h b=true)(hx:x<2147483647)(hy:y<2147483647) :
  (frontT d s F h b x y).data.toList.all Pl.lb=true∧(frontT d s F h b x y).size≤3000:=by
 unfold signerOk at hok
 simp only[Bool.and_eq_true,decide_eq_true_eq] at hok
 obtain⟨h1,h2,-,-,-,h6,h7,h8⟩:=hok
 have a1:=Pl.dom_lb _ h1
 have a2:s.data.toList.all Pl.lb=true∧s.size≤60:=by
  unfold Pl.selOk at h2
  simp only[Bool.and_eq_true,decide_eq_true_eq] at h2
  have e:s.data.toList.length=s.size:=by simp
  exact⟨Pl.all_imp _ _ _ Pl.sel_lb h2.2.2,by rw[← e];exact h2.2.1⟩
 have a3:=jc_lb F h8
 have a4:=jc_len F (name_size F h8)
 have f1:=form_lb h
 have f2:=form_lb b
 have s1:=sumT_lb x y
 have s2:=sumT_sz x y hx hy
 have ed:d.data.toList.length=d.size:=by simp
 unfold frontT
 constructor
 ·simp only[ByteArray.data_append,Array.toList_append,List.all_append,a1.1,a2.1,a3,f1.1,f2.1,s1]
  decide
 ·have e1:(⟨(jc F).toArray⟩:ByteArray).size=(jc F).length:=by show((jc F).toArray).size=_;rw[List.size_toArray]
  simp only[ByteArray.size_append]
  rw[e1]
  show 3+d.size+4+s.size+4+(formT h).size+1+(formT b).size+4+_+4+_+4≤3000
  omega
def sgName:ByteArray:=⟨#[83,105,103,110,97,116,117,114,101]⟩
theorem own_hd (v:ByteArray)(hv:v.data.toList.all Pl.lb=true)(hs:v.size≤4000):Pl.hd [] [(sgName,v)]=Pl.line (sgName,v):=by
 have ok:Pl.okF (sgName,v)=true:=Pl.okF_mk _ (by show v.size≤100000;omega) (by show Pl.nameOk sgName.data.toList=true;decide) (Pl.val_same _ hv)
 have hl:=Pl.line_len (sgName,v)
 have e:sgName.size=9:=rfl
 rw[Pl.hd,if_pos ok,if_neg (by rw[List.nil_append,hl];show ¬100000<sgName.size+v.size+3;omega)]
 rfl
theorem own_hd_ne (v:ByteArray)(hv:v.data.toList.all Pl.lb=true)(hs:v.size≤4000):¬Pl.hd [] [(sgName,v)]=[]:=by
 rw[own_hd v hv hs]
 intro h
 have:=congrArg List.length h
 rw[Pl.line_len] at this
 simp at this
def ownB (v:ByteArray)(h:Int):ByteArray:=(canonF sgName v h).extract 0 ((canonF sgName v h).size-2)
theorem own_form (v:ByteArray)(h:Int)(hv:v.data.toList.all Pl.lb=true)(hs:v.size≤4000)(hh:h=0∨h=1) :
  ∃ p:ByteArray,canonF sgName v h=p++⟨#[13,10]⟩∧p.size≤5000:=by
 have e:sgName.size=9:=rfl
 have hc:=canonF_size sgName v h
 unfold fsz at hc
 have key:∃p:ByteArray,canonF sgName v h=p++⟨#[13,10]⟩:=by
  unfold canonF
  rw[if_neg (own_hd_ne v hv hs)]
  rcases hh with rfl|rfl
  ·rw[if_pos rfl];exact⟨_,rfl⟩
  ·rw[if_neg (by omega),if_pos rfl];exact⟨_,rfl⟩
 obtain⟨p,hp⟩:=key
 refine⟨p,hp,?_⟩
 rw[hp,ByteArray.size_append] at hc
 simp only[e] at hc
 omega
theorem own_cut (p:ByteArray):(p++(⟨#[13,10]⟩:ByteArray)).extract 0 ((p++(⟨#[13,10]⟩:ByteArray)).size-2)=p:=by
 have e:(p++(⟨#[13,10]⟩:ByteArray)).size-2=p.size:=by
  rw[ByteArray.size_append];show p.size+2-2=_;omega
 rw[e]
 apply ByteArray.ext
 apply Array.toList_inj.1
 rw[Pl.ext_data]
 simp
end Go.Proofs.YtacaoiedcfelcaaGreatDoor
namespace Go.Proofs
open Go.Shelf
def Tryz.cloneFd_ren:Go.Shelf.Ren:=⟨fun|41=>64|n=>n,fun|22=>39|23=>38|4=>4|n=>n,fun|n=>n⟩
theorem Tryz.cloneFd:Go.Proofs.SlLaysE0.n41 Tryz.prog Tryz.cloneFd_ren:={
 mixed:=by kernel_rfl
 f41:=⟨Tryz.f64.name,by decide,Tryz.func64.trans (congrArg some (by kernel_rfl))⟩
 t4:=Tryz.underlying4
 a4:=Tryz.isAgg4
 z4:=Tryz.sizeOf4
 v4:=Tryz.zeroValue4
 t22:=Tryz.underlying39
 a22:=Tryz.isAgg39
 z22:=Tryz.sizeOf39
 v22:=Tryz.zeroValue39 }
end Go.Proofs
namespace Go.Proofs.YtacaoiedcfelcaaGreatDoor
open Go.RowKit Go.Lib
theorem cellsF_one (F:List Fl):∀u ∈ cellsF F,u.oneCell'=true:=by
 intro u hu
 unfold cellsF at hu
 obtain⟨f,-,hf⟩:=List.mem_flatMap.1 hu
 rcases List.mem_cons.1 hf with rfl|hf
 ·rfl
 ·obtain rfl:=List.mem_singleton.1 hf
  rfl
theorem implClone (B:Nat)(v:Value)(F:List Fl)(w:World)(h:OwnF B v F w)(hl:F.length≤1000000) :
  Calls Tryz.prog 64 #[v] w fun e w'=>∃ v',e=.returned v'∧OwnF w.heap.size v' F w'∧Below w.heap.size w w':=by
 rcases h.form with ⟨rfl,rfl⟩|⟨g,cap,rfl⟩
 ·refine(AnyE.slices_Clone_nil Tryz.cloneFd 0 0 w).mono ?_
  rintro e w' ⟨rfl,rfl⟩
  exact⟨_,rfl,OwnF.nil _ _,Below.refl _ _⟩
 ·obtain⟨i0,hi,hy0,hy1,hy2⟩:=info_parts Tryz.info43
  refine(AnyE.slices_Clone Tryz.cloneFd i0 _ 2 32 hi hy0 hy1 hy2 rfl (by decide) Tryz.sizeOf38 g 0 F.length cap (cellsF F) w (cellsF_len F) (by unfold maxLen;omega) (by omega) ?_ (cellsF_one F)).mono ?_
  ·intro j u hu
   have:=World.ownsRow.cells h (g:=g) rfl j u hu
   rw[add_off] at this
   rw[Nat.zero_add]
   exact this
  ·rintro e w' ⟨v',rfl,ho,-,hb⟩
   exact⟨v',rfl,ho,hb⟩
theorem grown_sets (g:Nat):∀(vs:List Value)(o:Nat)(w:World),w.grownBy (w.setCells g o vs) (some g)
 | [],_,_=>⟨rfl,rfl,rfl,Nat.le_refl _,fun _ _ _=>rfl⟩
 | v::r,o,w=>grown_trans (grown_set w g o v) (grown_sets g r (o+1) _)
theorem run_clear_two {P:Program} (w:World)(t e ty:TypeId)(z u:Value)(ht:P.underlying t=some (.slice e))(hv:∀w,(zeroValue e).run P w=.ok z w)(hz:z.cells=#[u,u])(h1:u.oneCell'=true)(b o n c:Nat)(hn:0<n)
  (hc:∀j,j<n*2→(w.cell? ⟨b,o+j,none⟩).isSome=true) (hf:∀j,j<n*2→w.frozen? ⟨b,o+j,none⟩=false) :
  (Builtin.clear_ #[t] ty #[.slice (some ⟨b,o,none⟩) n c]).run P w=.ok (.tuple #[]) (w.setCells b o (List.replicate (n*2) u)):=by
 have hzc:(Builtin.zeroCells z.cells n).toList=List.replicate (n*2) u:=by
  rw[hz]
  simp[Builtin.zeroCells]
  apply List.ext_getElem
  ·simp
  ·intro i h1 h2
   simp
   rcases Nat.mod_two_eq_zero_or_one i with h|h<;>simp[h]
 have hst:=run_storeCells_cells (P:=P) b o (List.replicate (n*2) u) 0 w (by simpa using hc) (by simpa using hf) (by intro v hv';rw[List.eq_of_mem_replicate hv'];exact h1)
 simp only[Nat.add_zero] at hst
 obtain⟨m,rfl⟩:∃m,n=m+1:=⟨n-1,by omega⟩
 simp[Builtin.clear_,run_underlying ht,hv,hzc,hst]
theorem OwnF.row {B:Nat} {v:Value} {F:List Fl} {w:World} (h:OwnF B v F w)(hn:0<F.length):∃g cap f,v=.slice (some ⟨g,0,none⟩) F.length cap∧B≤g∧F.length≤cap∧cap≤maxLen∧w.rowIs g 38 (cap*2) f∧∀j u,(cellsF F)[j]?=some u→f j=u:=by
 rcases h.2 with ⟨rfl,h0⟩|⟨g,cap,cur,rfl,hB,hg,hc1,hc2,hc3,hc4⟩
 ·omega
 ·refine⟨g,cap,fun j=>cur[j]?.getD default,rfl,hB,hc1,hc2,⟨cur,hg,hc3,fun i hi=>?_⟩,?_⟩
  ·have hlt:i<cur.size:=by omega
   show cur[i]?=some (cur[i]?.getD default)
   rw[Array.getElem?_eq_getElem hlt,Option.getD_some]
  ·intro j u hj
   rw[← hc4,List.getElem?_take] at hj
   split at hj
   ·rw[Array.getElem?_toList] at hj
    show cur[j]?.getD default=u
    rw[hj];rfl
   ·cases hj
theorem OwnF.of_row {B g cap:Nat} {F:List Fl} {w:World} {f:Nat→Value} (h:w.rowIs g 38 (cap*2) f)(hB:B≤g)(hn:F.length≤cap)(hc:cap≤maxLen)(hf:∀j u,(cellsF F)[j]?=some u→f j=u):OwnF B (.slice (some ⟨g,0,none⟩) F.length cap) F w:=by
 obtain⟨cur,hg,hs,hcu⟩:=h
 have hl:=cellsF_len F
 refine⟨hl,.inr ⟨g,cap,cur,rfl,hB,hg,hn,hc,hs,?_⟩⟩
 apply List.ext_getElem?
 intro j
 rw[List.getElem?_take]
 split
 ·rename_i hj
  rw[Array.getElem?_toList,hcu j (by omega)]
  cases hu:(cellsF F)[j]? with
  | none=>have:=List.getElem?_eq_none_iff.1 hu;omega
  | some u=>rw[hf j u hu]
 ·rename_i hj
  rw[List.getElem?_eq_none (by omega)]
theorem zeroFd:∀w,(zeroValue 38).run Tryz.prog w=.ok (.agg #[.string ⟨#[]⟩,.string ⟨#[]⟩]) w:=Tryz.zeroValue38
set_option maxRecDepth 100000 in
theorem implDelete (B:Nat)(v:Value)(F:List Fl)(k:Nat)(w:World)(h:OwnF B v F w)(hk:k<F.length)(hl:F.length≤1000000) :
  Calls Tryz.prog 67 #[v,.int .i64 k,.int .i64 ((k:Int)+1)] w fun e w'=>∃ v',e=.returned v'∧OwnF B v' (F.eraseIdx k) w'∧v'.ownBlock=v.ownBlock∧w.grownBy w' v.ownBlock:=by
 obtain⟨i0,hi,hy0,hy1,hy2⟩:=info_parts Tryz.info43
 obtain⟨g,cap,f,rfl,hB,hc1,hc2,hrow,hcell⟩:=h.row (by omega)
 have hc2':cap≤9223372036854775807:=by unfold maxLen at hc2;omega
 obtain⟨n,hn⟩:∃n,F.length=n+1:=⟨F.length-1,by omega⟩
 obtain⟨news,hnews⟩:∃news,news=cellsF (F.drop (k+1)):=⟨_,rfl⟩
 have hlen:news.length=(n-k)*2:=by rw[hnews,cellsF_len,List.length_drop,hn];omega
 have hsplit:cellsF F=cellsF (F.take (k+1))++news:=by rw[hnews,← cellsF_app,List.take_append_drop]
 have htl:(cellsF (F.take (k+1))).length=(k+1)*2:=by rw[cellsF_len,List.length_take];omega
 have hget:∀t u,news[t]?=some u→f ((k+1)*2+t)=u:=by
  intro t u hu
  refine hcell _ _ ?_
  rw[hsplit,List.getElem?_append_right (by omega),htl,Nat.add_sub_cancel_left]
  exact hu
 have hnl:∀t,t<news.length→(k+1)*2+t<cap*2:=by intro t ht;omega
 have hone:∀u ∈ news,u.oneCell'=true:=by rw[hnews];exact cellsF_one _
 obtain⟨A,hA,hsrc⟩:∃A:Addr,(if cap=k+1 then some (⟨g,0,none⟩:Addr) else some ⟨g,(k+1)*2,none⟩)=some A∧Hid (∀t u,news[t]?=some u→w.drew.cell? (A.add t)=some u):=by
  by_cases hcap:cap=k+1
  ·refine⟨⟨g,0,none⟩,by rw[if_pos hcap],fun t u hu=>?_⟩
   have:t<news.length:=(List.getElem?_eq_some_iff.1 hu).1
   omega
  ·refine⟨⟨g,(k+1)*2,none⟩,by rw[if_neg hcap],fun t u hu=>?_⟩
   have ht:t<news.length:=(List.getElem?_eq_some_iff.1 hu).1
   rw[Addr.add_lit]
   show w.cell? _=_
   rw[hrow.cell (hnl t ht),hget t u hu]
 have s1:Hid (news.length=(n-k)*2):=hlen
 have s3:Hid (∀t,t<news.length→(w.drew.cell? ⟨g,0+k*2+t,none⟩).isSome=true∧w.drew.frozen? ⟨g,0+k*2+t,none⟩=false):=by
  intro t ht
  have:=hnl t ht
  rw[Nat.zero_add]
  exact⟨by show(w.cell? _).isSome=true;rw[hrow.cell (by omega)];rfl,by show w.frozen? _=false;exact hrow.frozen _⟩
 obtain⟨W1,hW1⟩:∃W1,W1=w.drew.setCells g (0+k*2) news:=⟨_,rfl⟩
 have hr1:W1.rowIs g 38 (cap*2) (fun j=>if 0+k*2≤j∧j<0+k*2+news.length then news[j-(0+k*2)]?.getD default else f j):=by
  rw[hW1];exact rowIs_setCells news _ _ _ hrow.drew
 have hg1:w.grownBy W1 (some g):=by
  rw[hW1]
  have h2:=grown_sets g news (0+k*2) w.drew
  exact⟨h2.os,h2.tape,h2.output,h2.size,h2.block⟩
 obtain⟨W2,hW2⟩:∃W2,W2=W1.setCells g (n*2) (List.replicate (1*2) (.string ⟨#[]⟩)):=⟨_,rfl⟩
 have hcl:∀ty c,(Builtin.clear_ #[39] ty #[.slice (some ⟨g,n*2,none⟩) 1 c]).run Tryz.prog W1=.ok (.tuple #[]) W2:=by
  intro ty c
  rw[hW2]
  exact run_clear_two W1 _ _ ty _ _ Tryz.underlying39 zeroFd rfl rfl g (n*2) 1 c (by omega) (fun j hj=>by rw[hr1.cell (by omega)];rfl) (fun j hj=>hr1.frozen _)
 have hr2:=rowIs_setCells (List.replicate (1*2) (.string ⟨#[]⟩)) (n*2) W1 _ hr1
 rw[← hW2] at hr2
 have hfin:OwnF B (.slice (some ⟨g,0,none⟩) n cap) (F.eraseIdx k) W2:=by
  have hle:(F.eraseIdx k).length=n:=by rw[List.length_eraseIdx_of_lt hk,hn];rfl
  have:=OwnF.of_row (B:=B) (F:=F.eraseIdx k) hr2 hB (by omega) hc2 ?_
  ·rw[hle] at this;exact this
  ·intro j u hj
   have hjl:j<n*2:=by
    have:=(List.getElem?_eq_some_iff.1 hj).1
    rw[cellsF_len,hle] at this;exact this
   have he:cellsF (F.eraseIdx k)=cellsF (F.take k)++news:=by rw[hnews,← cellsF_app,List.eraseIdx_eq_take_drop_succ]
   have htk:(cellsF (F.take k)).length=k*2:=by rw[cellsF_len,List.length_take];omega
   rw[he] at hj
   show(if n*2≤j∧_ then _ else _)=u
   rw[if_neg (by omega)]
   by_cases hjk:k*2≤j
   ·rw[if_pos (by omega)]
    rw[List.getElem?_append_right (by omega),htk] at hj
    rw[Nat.zero_add,hj];rfl
   ·rw[if_neg (by omega)]
    rw[List.getElem?_append_left (by omega)] at hj
    refine hcell j u ?_
    have:cellsF F=cellsF (F.take k)++cellsF (F.drop k):=by rw[← cellsF_app,List.take_append_drop]
    rw[this,List.getElem?_append_left (by omega)]
    exact hj
 have hg2:w.grownBy W2 (some g):=by
  rw[hW2];exact grown_trans hg1 (grown_sets g _ _ _)
 have HW1:=mkHid hW1
 have Hfin:=mkHid hfin
 have Hg2:=mkHid hg2
 have hkn:k≤n:=by omega
 have hkc:k+1≤cap:=by omega
 have hkc0:k≤cap:=by omega
 have hk0:(0:Int)≤(k:Int)+1:=by omega
 have mixed:Tryz.prog.follows Departure.mixedOrders=true:=by kernel_rfl
 rw[hn]
 have hnc:n+1≤cap:=by omega
 clear hW1 hW2 hfin hg2 hr1 hr2 hg1 hrow hcell hget hnl hsplit htl hnews hlen hn h hk hc1
 go_enter Tryz.func67,Tryz.ntmps67
 go_wp2_with fail
 go_region_law_o (refine step_append_room rfl (.tmp 22) (.tmp 25) 39 rfl 38 i0 2 Tryz.underlying39 hi hy1 g 0 k cap (by simp[Act.eval,Act.put]) A (n-k) (cap-(k+1)) news (by simp[Act.eval,Act.put]) s1.out hsrc.out hone (by omega) s3.out ?_;rw[← HW1.out])
 have hcn:¬cap=n:=by omega
 have hnc0:n≤cap:=by omega
 go_wp2
 go_ret
 exact⟨_,rfl,Hfin.out,rfl,Hg2.out⟩
namespace Pl
def oneSp (p:List UInt8)(c:UInt8):List UInt8:=if blank c then (if lastSp p then p else p ++ [32]) else p ++ [c]
theorem oneSp_step (l p X:List UInt8)(k:Nat)(hk:k<l.length)(h:Hid (p++rn (lastSp p) (l.drop k)=X)):Hid (oneSp p l[k]++rn (lastSp (oneSp p l[k])) (l.drop (k+1))=X):=by
 unfold oneSp
 cases hb:blank l[k]
 ·rw[if_neg (by simp)]
  exact rn_byte l p X k hk hb h
 ·rw[if_pos rfl]
  cases hs:lastSp p
  ·rw[if_neg (by simp)]
   exact rn_space l p X k hk hb hs h
  ·rw[if_pos rfl]
   exact rn_skip l p X k hk hb hs h
theorem oneSp_len (p:List UInt8)(c:UInt8):(oneSp p c).length≤p.length+1:=by
 unfold oneSp
 split
 ·split<;>simp
 ·simp
end Pl
theorem implOneSp (B:Nat)(v:Value)(p:List UInt8)(c:UInt8)(W w:World)(hp:p.length≤1100000)(hown:Own B v p w)(hB:B≤W.heap.size)(hb:Below B W w) :
  Calls Tryz.prog 104 #[v,.int .u8 (c.toNat:Int)] w fun e w'=>∃ v',e=.returned v'∧Own B v' (Pl.oneSp p c) w'∧Below B W w':=by
 obtain⟨i0,hi,hy0,hy1,hy2⟩:=info_parts Tryz.info5
 have h8:c.toNat<256:=UInt8.toNat_lt _
 have hBl:=implBlank c
 unfold Pl.oneSp
 cases hbl:Pl.blank c
 ·rw[hbl] at hBl
  rw[if_neg (by simp)]
  go_enter Tryz.func104,Tryz.ntmps104
  go_wp2_with fail
  refine(hBl _).mono ?_
  rintro e w2 ⟨rfl,rfl⟩
  go_wp2_with (at_builtin;go_must (refine wp_app (W:=W) rfl _ _ 22 rfl i0 Tryz.underlying22 hi hy0 hy1 hy2 B v p rfl hown _ [c] rfl 1 1 rfl rfl (by simp;omega) hB hb ?_;intro v' w' hown' hb'))
  go_ret
  exact⟨_,rfl,hown',hb'⟩
 ·rw[hbl] at hBl
  rw[if_pos rfl]
  rcases hown.form with ⟨rfl,rfl⟩|⟨g,cap,rfl⟩
  ·rw[if_neg (by simp[Pl.lastSp])]
   go_enter Tryz.func104,Tryz.ntmps104
   go_wp2_with fail
   refine(hBl _).mono ?_
   rintro e w2 ⟨rfl,rfl⟩
   go_wp2_with (at_builtin;go_must (refine wp_app (W:=W) rfl _ _ 22 rfl i0 Tryz.underlying22 hi hy0 hy1 hy2 B (.slice none 0 0) [] rfl hown _ [32] rfl 1 1 rfl rfl (by simp) hB hb ?_;intro v' w' hown' hb'))
   go_ret
   exact⟨_,rfl,hown',hb'⟩
  ·by_cases h0:p.length=0
   ·obtain rfl:p=[]:=List.length_eq_zero_iff.1 h0
    rw[if_neg (by simp[Pl.lastSp])]
    clear h0
    go_enter Tryz.func104,Tryz.ntmps104
    go_wp2_with fail
    refine(hBl _).mono ?_
    rintro e w2 ⟨rfl,rfl⟩
    go_wp2_with (at_builtin;go_must (refine wp_app (W:=W) rfl _ _ 22 rfl i0 Tryz.underlying22 hi hy0 hy1 hy2 B (.slice (some ⟨g,0,none⟩) 0 cap) [] rfl hown _ [32] rfl 1 1 rfl rfl (by simp) hB hb ?_;intro v' w' hown' hb'))
    go_ret
    exact⟨_,rfl,hown',hb'⟩
   ·obtain⟨m,hm⟩:∃m,p.length=m+1:=⟨p.length-1,by omega⟩
    have hml:m<p.length:=by omega
    have hc:=hown.cell m hml
    have hidx:(p.length:Int)-1=(m:Int):=by omega
    have hls:Pl.lastSp p=(p[m]==32):=by rw[Pl.last_get p (by omega)];simp[hm]
    cases h32:((p[m].toNat:Int)==32)
    ·have e32:(p[m]==32)=false:=beq_eq_false_iff_ne.2 (Pl.byte_ne p[m] 32 _ rfl h32)
     rw[hls,e32,if_neg (by simp)]
     clear hls e32 hm
     generalize p[m]=pm at *
     go_enter Tryz.func104,Tryz.ntmps104
     go_wp2_with fail
     refine(hBl _).mono ?_
     rintro e w2 ⟨rfl,rfl⟩
     go_wp2_with (at_builtin;go_must (refine wp_app (W:=W) rfl _ _ 22 rfl i0 Tryz.underlying22 hi hy0 hy1 hy2 B (.slice (some ⟨g,0,none⟩) p.length cap) p rfl hown _ [32] rfl 1 1 rfl rfl (by simp;omega) hB hb ?_;intro v' w' hown' hb'))
     go_ret
     exact⟨_,rfl,hown',hb'⟩
    ·have e32:(p[m]==32)=true:=beq_iff_eq.2 (Pl.byte_eq p[m] 32 _ rfl h32)
     rw[hls,e32,if_pos rfl]
     clear hls e32 hm
     generalize p[m]=pm at *
     go_enter Tryz.func104,Tryz.ntmps104
     go_wp2_with fail
     refine(hBl _).mono ?_
     rintro e w2 ⟨rfl,rfl⟩
     go_wp2
     go_ret
     exact⟨_,rfl,hown,hb⟩
theorem entersOneSp:∀(args:Array Value)(w:World),(callFunc 104 args).run Tryz.prog w=.ok (.enter 104 args) w:=Go.Proofs.enters_of Tryz.func104 (by kernel_rfl) rfl
theorem implGatherB (s:ByteArray)(w:World)(hs:s.size≤100000) :
  Calls Tryz.prog 103 #[.string s,.slice none 0 0,.func (.func 104) #[] #[]] w fun e w'=>∃ v',e=.returned v'∧Own w.heap.size v' (Pl.rn false s.data.toList) w'∧Below w.heap.size w w':=by
 have hE:=entersOneSp
 obtain⟨X,hX⟩:∃X,Pl.rn false s.data.toList=X:=⟨_,rfl⟩
 have HX:Hid (([]:List UInt8)++Pl.rn (Pl.lastSp []) (s.data.toList.drop 0)=X):=hX
 rw[hX]
 clear hX
 go_enter Tryz.func103,Tryz.ntmps103
 go_wp2
 go_loopw [1,7,10] (fun v _ i wr=>∃ (k:Nat) (p:List UInt8),k≤s.size∧i=.int .i64 k∧p.length≤k∧Hid (p++Pl.rn (Pl.lastSp p) (s.data.toList.drop k)=X)∧Own w.heap.size v p wr∧Below w.heap.size w wr) (fun _ _ i _=>s.size-(Lib.intOf i).toNat)
 case atStart=>exact⟨0,[],Nat.zero_le _,rfl,by simp,HX,Own.nil _ _,Below.refl _ _⟩
 case round=>
  clear HX
  obtain⟨k,p,hk,rfl,hpl,hp,hown,hb⟩:=hrel
  by_cases hlt:k<s.size
  ·have hll:k<s.data.toList.length:=by simpa using hlt
   have h8:s[k].toNat<256:=UInt8.toNat_lt _
   have Hn:Hid (Pl.oneSp p s[k]++Pl.rn (Pl.lastSp (Pl.oneSp p s[k])) (s.data.toList.drop (k+1))=X):=Pl.oneSp_step s.data.toList p X k hll hp
   have hC:=implOneSp w.heap.size u1 p s[k] w wr (by omega) hown (Nat.le_refl _) hb
   have hlen:=Pl.oneSp_len p s[k]
   clear hp
   go_wp2_with fail
   refine hC.mono ?_
   rintro e w2 ⟨v2,rfl,hown2,hb2⟩
   go_wp2
   go_roundw
   case rel=>exact⟨k+1,_,by omega,by go_num,by omega,Hn,hown2,hb2⟩
   case measure=>simp[Lib.intOf];omega
  ·have hpX:=Pl.rn_end s.data.toList p X k (by simp;omega) hp
   have HpX:Hid (p=X):=hpX
   clear hp hpX
   go_wp2
   go_ret
   exact⟨_,rfl,by rw[← HpX.out];exact hown,hb⟩
theorem implOneSpaced (s:ByteArray)(w:World)(hs:s.size≤100000) :
  Calls Tryz.prog 60 #[.string s] w fun e w'=>e=.returned (.string ⟨(Pl.rn false s.data.toList).toArray⟩)∧Below w.heap.size w w':=by
 have hG:=implGatherB s w hs
 go_enter Tryz.func60,Tryz.ntmps60
 go_wp2_with fail
 refine hG.mono ?_
 rintro e w2 ⟨v2,rfl,hown2,hb2⟩
 have hbk:=hown2.back (P:=Tryz.prog) 22 9 Tryz.underlying22 Tryz.underlying5 Tryz.underlying9
 go_wp2
 go_ret
 exact⟨rfl,hb2⟩
end Go.Proofs.YtacaoiedcfelcaaGreatDoor
