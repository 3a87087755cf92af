import Derived.Test.YtacaoiedcfelcaaGreatDoorOwnF
import Derived.Deep.CutBlock
import Derived.Deep.DeepCutAuto
import Derived.Test.YtacaoiedcfelcaaGreatDoorReadLine
set_option maxRecDepth 20000
namespace Go.Proofs.YtacaoiedcfelcaaGreatDoor
open Go.RowKit Go.Lib
structure HR where
 code:Nat
 at_:Nat
 body:Nat
 fields:List Fl
namespace Pl
def rd (l:List UInt8):Nat→Nat→List Fl→HR
 | 0,_,_=>⟨0,0,0,[]⟩
 | f+1,k,fs=>
  if l.length≤k then ⟨0,0,l.length,fs⟩ else if crlf l k then ⟨0,0,k+2,fs⟩ else
  match implF l k with
  | .inl p=>⟨3,p,0,[]⟩
  | .inr (n,v,x)=>if fs.length=200 then ⟨4,k,0,[]⟩ else rd l f x (fs ++ [(n,v)])
def readHead (l:List UInt8):HR:=rd l (l.length+1) 0 []
theorem rd_end (l:List UInt8)(k:Nat)(fs:List Fl)(R:HR)(h:l.length≤k)(hr:∃g,l.length+1≤g+k∧rd l g k fs=R)(hk:k≤l.length):R=⟨0,0,l.length,fs⟩:=by
 obtain⟨g,h1,h2⟩:=hr
 obtain⟨g',rfl⟩:∃g',g=g'+1:=⟨g-1,by omega⟩
 rw[rd,if_pos h] at h2
 exact h2.symm
theorem rd_crlf (l:List UInt8)(k:Nat)(fs:List Fl)(R:HR)(h:k<l.length)(hc:crlf l k=true)(hr:∃g,l.length+1≤g+k∧rd l g k fs=R):R=⟨0,0,k+2,fs⟩:=by
 obtain⟨g,h1,h2⟩:=hr
 obtain⟨g',rfl⟩:∃g',g=g'+1:=⟨g-1,by omega⟩
 rw[rd,if_neg (by omega),if_pos hc] at h2
 exact h2.symm
theorem rd_fault (l:List UInt8)(k p:Nat)(fs:List Fl)(R:HR)(h:k<l.length)(hc:crlf l k=false)(hf:implF l k=.inl p)(hr:∃g,l.length+1≤g+k∧rd l g k fs=R):R=⟨3,p,0,[]⟩:=by
 obtain⟨g,h1,h2⟩:=hr
 obtain⟨g',rfl⟩:∃g',g=g'+1:=⟨g-1,by omega⟩
 rw[rd,if_neg (by omega),if_neg (by rw[hc];simp),hf] at h2
 exact h2.symm
theorem rd_many (l:List UInt8)(k x:Nat)(n v:List UInt8)(fs:List Fl)(R:HR)(h:k<l.length)(hc:crlf l k=false)(hf:implF l k=.inr (n,v,x))(hl:fs.length=200)(hr:∃g,l.length+1≤g+k∧rd l g k fs=R):R=⟨4,k,0,[]⟩:=by
 obtain⟨g,h1,h2⟩:=hr
 obtain⟨g',rfl⟩:∃g',g=g'+1:=⟨g-1,by omega⟩
 rw[rd,if_neg (by omega),if_neg (by rw[hc];simp),hf] at h2
 simp only[hl,if_true] at h2
 exact h2.symm
theorem rd_step (l:List UInt8)(k x:Nat)(n v:List UInt8)(fs:List Fl)(R:HR)(h:k<l.length)(hc:crlf l k=false)(hf:implF l k=.inr (n,v,x))(hx:k<x)(hl:fs.length≠200)(hr:∃g,l.length+1≤g+k∧rd l g k fs=R) :
  ∃ g,l.length+1≤g+x∧rd l g x (fs ++ [(n,v)])=R:=by
 obtain⟨g,h1,h2⟩:=hr
 obtain⟨g',rfl⟩:∃g',g=g'+1:=⟨g-1,by omega⟩
 rw[rd,if_neg (by omega),if_neg (by rw[hc];simp),hf] at h2
 simp only[hl,if_false] at h2
 exact⟨g',by omega,h2⟩
theorem nx_lt (l:List UInt8)(k:Nat)(hk:k<l.length):k<nx l (fe l k)∧nx l (fe l k)≤l.length:=by
 have h0:=first_ge (fun j=>crlf l j && !fold l j) l.length k (by omega)
 have h1:=first_le (fun j=>crlf l j && !fold l j) l.length k (by omega)
 have h2:=first_is (fun j=>crlf l j && !fold l j) l.length k (by omega)
 change k≤fe l k at h0
 change fe l k≤_ at h1
 change fe l k<_→(crlf l (fe l k) && !fold l (fe l k))=true at h2
 unfold nx
 split
 ·rename_i h
  have h3:=h2 h
  rw[Bool.and_eq_true] at h3
  have:=(crlf_b l _ h3.1).2.2
  omega
 ·omega
theorem nx_cases (l:List UInt8)(E:Nat)(h:nx l E<l.length):E<l.length∧nx l E=E+2:=by
 unfold nx at h ⊢
 split
 ·rename_i h1;exact⟨h1,rfl⟩
 ·rename_i h1;rw[if_neg h1] at h;omega
theorem fe_on (l:List UInt8)(E:Nat)(hN:nx l E<l.length)(hc:E<l.length→crlf l E=true)(hb:blank (b l (nx l E))=true):fe l E=fe l (nx l E):=by
 obtain⟨h1,h2⟩:=nx_cases l E hN
 rw[h2] at hN hb ⊢
 have hcr:=hc h1
 have hf:fold l E=true:=by
  unfold fold
  rw[hcr,blankAt_lt l (E+2) hN,← b_lt l (E+2) hN,hb];rfl
 refine first_skip _ _ _ _ (by omega) (by omega) (fun j h3 h4=>?_)
 by_cases hj:j=E
 ·rw[hj,hf,Bool.not_true,Bool.and_false]
 ·rw[show j=E+1 by omega,no_crlf l (E+1) (by rw[(crlf_b l E hcr).2.1];decide)];rfl
theorem fe_le (l:List UInt8)(N:Nat)(h:N≤l.length):fe l N=fe l (le l N):=
 first_skip _ _ _ _ (first_ge _ _ _ h) (first_le _ _ _ h) (fun j h1 h2=>by rw[first_none (crlf l) l.length N h j h1 h2];rfl)
theorem fe_stop (l:List UInt8)(E:Nat)(hE:E≤l.length)(hc:E<l.length→crlf l E=true)(hb:nx l E<l.length→blank (b l (nx l E))=false):fe l E=E:=by
 by_cases h:E<l.length
 ·refine first_hit _ _ _ ?_
  have hcr:=hc h
  rw[hcr,Bool.true_and,Bool.not_eq_true']
  have hnx:nx l E=E+2:=by unfold nx;rw[if_pos h]
  rw[hnx] at hb
  unfold fold
  rw[hcr,Bool.true_and]
  by_cases h2:E+2<l.length
  ·rw[blankAt_lt l _ h2,← b_lt l _ h2];exact hb h2
  ·exact blankAt_ge l _ (by omega)
 ·exact first_end _ _ _ (by omega)
theorem le_facts (l:List UInt8)(N:Nat)(h:N≤l.length):N≤le l N∧le l N≤l.length∧(le l N<l.length→crlf l (le l N)=true):=⟨first_ge _ _ _ h,first_le _ _ _ h,first_is (crlf l) _ _ h⟩
theorem nx_facts (l:List UInt8)(N:Nat)(h:N<l.length):N<nx l (le l N)∧nx l (le l N)≤l.length:=by
 obtain⟨h1,h2,h3⟩:=le_facts l N (by omega)
 unfold nx
 split
 ·rename_i h4
  have:=(crlf_b l _ (h3 h4)).2.2
  omega
 ·omega
theorem trimR_front (t:ByteArray)(h:0<t.size)(hb:blank t[t.size-1]=true):trimR (t.extract 0 (t.size-1)).data.toList=trimR t.data.toList:=by
 have e:t.data.toList=t.data.toList.take (t.size-1) ++ [t[t.size-1]]:=by
  have:=List.take_append_drop (t.size-1) t.data.toList
  rw[drop_cons _ _ (by simp;omega),List.drop_eq_nil_of_le (by simp;omega)] at this
  exact this.symm
 rw[ext_take]
 generalize t[t.size-1]=c at e hb
 generalize t.data.toList.take (t.size-1)=q at e ⊢
 rw[e]
 unfold trimR
 rw[List.reverse_append,List.reverse_singleton,List.singleton_append,List.dropWhile_cons_of_pos hb]
theorem trimR_last (t:ByteArray)(h:0<t.size)(hb:blank t[t.size-1]=false):trimR t.data.toList=t.data.toList:=by
 have e:t.data.toList=t.data.toList.take (t.size-1) ++ [t[t.size-1]]:=by
  have:=List.take_append_drop (t.size-1) t.data.toList
  rw[drop_cons _ _ (by simp;omega),List.drop_eq_nil_of_le (by simp;omega)] at this
  exact this.symm
 have:=trimR_app t.data.toList [] rfl (fun x hx=>by
  rw[e] at hx
  simp only[List.getLast?_append,List.getLast?_singleton,Option.some_or,Option.mem_some_iff] at hx
  rw[← hx];exact hb)
 simpa using this
theorem trimR_none (t:ByteArray)(h:t.size=0):trimR t.data.toList=t.data.toList:=by
 have:t.data.toList=[]:=List.length_eq_zero_iff.1 (by rw[len_list];exact h)
 rw[this];rfl
end Pl
theorem OwnF.shape {B:Nat} {v:Value} {F:List Fl} {w:World} (h:OwnF B v F w):∃o cap,v=.slice o F.length cap:=by
 rcases h.form with ⟨rfl,rfl⟩|⟨g,cap,rfl⟩
 ·exact⟨none,0,rfl⟩
 ·exact⟨_,cap,rfl⟩
theorem txt_eta (t:ByteArray):txt t.data.toList=.string t:=by unfold txt;simp
theorem res_cells {w:World} {g:Nat} {a b c d:Value} {t:TypeId} (h:w.heap[g]?=some (.cells #[a,b,c,d] t (0,0))) :
  (w.cell? ⟨g,0,none⟩=some a∧w.cell? ⟨g,1,none⟩=some b∧w.cell? ⟨g,2,none⟩=some c∧w.cell? ⟨g,3,none⟩=some d) ∧
  w.frozen? ⟨g,0,none⟩=false∧w.frozen? ⟨g,1,none⟩=false∧w.frozen? ⟨g,2,none⟩=false∧w.frozen? ⟨g,3,none⟩=false:=by
 refine⟨⟨?_,?_,?_,?_⟩,?_,?_,?_,?_⟩<;>simp[World.cell?,World.frozen?,h]
theorem OwnF.setOther {B:Nat} {v:Value} {F:List Fl} {w:World} (h:OwnF B v F w)(a:Addr)(u:Value)(hne:v.ownBlock≠some a.block):OwnF B v F (w.setCell a u):=by
 obtain⟨h1,h2⟩:=h
 refine⟨h1,?_⟩
 rcases h2 with h2|⟨g,cap,cur,e1,e2,e3,e4⟩
 ·exact .inl h2
 ·refine .inr ⟨g,cap,cur,e1,e2,?_,e4⟩
  rw[Below.heap_setCell w a u g (fun e=>hne (by rw[e1,← e];rfl))]
  exact e3
set_option maxHeartbeats 2000000 in
set_option maxRecDepth 8000 in
theorem specReadHead (s:ByteArray)(w:World)(hs:s.size≤100000) :
  Calls Tryz.prog 9 #[.string s] w fun e w'=>∃ v,e=.returned (.agg #[.int .i64 (Pl.readHead s.data.toList).code,.int .i64 (Pl.readHead s.data.toList).at_,v,.int .i64 (Pl.readHead s.data.toList).body]) ∧
   OwnF w.heap.size v (Pl.readHead s.data.toList).fields w'∧Below w.heap.size w w':=by
 obtain⟨i0,hi,hy0,hy1,hy2⟩:=info_parts Tryz.info43
 have hc0:decide ((100000:Int)<(s.size:Int))=false:=by simp;omega
 obtain⟨R,hR⟩:∃R,Pl.readHead s.data.toList=R:=⟨_,rfl⟩
 rw[hR]
 have HR0:Hid (∃g,s.data.toList.length+1≤g+0∧Pl.rd s.data.toList g 0 []=R):=show ∃g,_∧_ from ⟨_,Nat.le_refl _,hR⟩
 clear hR
 go_enter Tryz.func9,Tryz.ntmps9
 go_wp2
 go_loopw [3,4,5,6,7,8,9,10,11] (fun v i _ _ _ _ _ _ _ wr=>∃ (k:Nat) (fs:List Fl),k≤s.size∧i=.int .i64 k∧fs.length≤200∧Hid (∃g,s.data.toList.length+1≤g+k∧Pl.rd s.data.toList g k fs=R)∧OwnF w.heap.size v fs wr ∧
   wr.heap[w.heap.size]?=some (.cells #[.int .i64 0,.int .i64 0,.slice none 0 0,.int .i64 0] 41 (0,0))∧Below w.heap.size w wr) (fun _ i _ _ _ _ _ _ _ _=>s.size-(Lib.intOf i).toNat)
 case atStart=>
  refine⟨0,[],Nat.zero_le _,rfl,by simp,HR0,?_,?_,?_⟩
  ·have h:=OwnF.made w.heap.size (w.alloc (.cells #[.int .i64 0,.int .i64 0,.slice none 0 0,.int .i64 0] 41)) (by simp)
   simpa using h
  ·rw[Below.heap_alloc _ _ _ (by simp)]
   exact heap_alloc_at _ _
  ·exact((Below.refl _ _).alloc (Nat.le_refl _) _).alloc (by simp) _
 case round=>
  clear HR0
  obtain⟨k,fs,hk,rfl,hfl,hp,hown,hres,hb⟩:=hrel
  by_cases hlt:k<s.size
  ·have hln:=fun w=>specLine s k w (by omega) hk
   cases hcr:Pl.crlf s.data.toList k
   ·have hE0:Hid (Pl.le s.data.toList k≠k∧k≤Pl.le s.data.toList k∧Pl.le s.data.toList k≤s.size∧(Pl.le s.data.toList k<s.size→Pl.crlf s.data.toList (Pl.le s.data.toList k)=true)∧Pl.fe s.data.toList k=Pl.fe s.data.toList (Pl.le s.data.toList k)):=show _∧_∧_∧_∧_ from by
     have a1:=Pl.first_ge (Pl.crlf s.data.toList) s.data.toList.length k (by simpa using hk)
     have a2:=Pl.first_le (Pl.crlf s.data.toList) s.data.toList.length k (by simpa using hk)
     have a3:=Pl.first_is (Pl.crlf s.data.toList) s.data.toList.length k (by simpa using hk)
     have a4:=Pl.first_none (Pl.crlf s.data.toList) s.data.toList.length k (by simpa using hk)
     change k≤Pl.le s.data.toList k at a1
     change Pl.le s.data.toList k≤_ at a2
     change Pl.le s.data.toList k<_→Pl.crlf s.data.toList (Pl.le s.data.toList k)=true at a3
     change ∀j,k≤j→j<Pl.le s.data.toList k→_ at a4
     refine⟨fun e=>?_,a1,by simpa using a2,fun h=>a3 (by simpa using h),?_⟩
     ·have:=a3 (by rw[e,Pl.len_list];exact hlt)
      rw[e,hcr] at this
      cases this
     ·exact Pl.first_skip _ _ _ _ a1 a2 (fun j h1 h2=>by rw[a4 j h1 h2];rfl)
    obtain⟨E0,hEE⟩:∃E0,Pl.le s.data.toList k=E0:=⟨_,rfl⟩
    obtain⟨N0,hNN⟩:∃N0,Pl.nx s.data.toList E0=N0:=⟨_,rfl⟩
    have hNb:N0≤s.size∧k<N0:=by
     obtain⟨b1,b2,b3,b4,-⟩:=hE0.out
     rw[hEE] at b1 b2 b3 b4
     rw[← hNN,Pl.nx,Pl.len_list]
     split
     ·rename_i h
      have:=(Pl.crlf_b _ _ (b4 h)).2.2
      simp at this
      omega
     ·omega
    have hkE:((E0:Int)==(k:Int))=false:=by rw[Bool.eq_false_iff];intro e;have:=beq_iff_eq.1 e;exact hE0.out.1 (by rw[hEE];omega)
    simp only[hEE,hNN] at hln
    have HE0:Hid (Pl.le s.data.toList k=E0):=hEE
    have HN0:Hid (Pl.nx s.data.toList E0=N0):=hNN
    have Hcr:Hid (Pl.crlf s.data.toList k=false):=hcr
    clear hEE hNN hcr
    go_upto_block 2 with (go_at_call 33;go_must (refine(hln _).mono ?_;rintro e w2 ⟨rfl,rfl⟩))
    go_cut [5,6] (fun e n wx=>∃ E N:Nat,e=.int .i64 E∧n=.int .i64 N∧E≤s.size∧N≤s.size∧Hid (E=Pl.fe s.data.toList k∧N=Pl.nx s.data.toList E)∧wx=wr)
    case first=>
     go_wp2_with fail
     go_loopw [5,6] (fun e n wx=>∃ E N:Nat,e=.int .i64 E∧n=.int .i64 N∧E≤s.size∧N≤s.size∧Hid (N=Pl.nx s.data.toList E∧(E<s.data.toList.length→Pl.crlf s.data.toList E=true)∧Pl.fe s.data.toList k=Pl.fe s.data.toList E)∧wx=wr) (fun _ n _=>s.size-(Lib.intOf n).toNat)
     case atStart=>
      obtain⟨b1,b2,b3,b4,b5⟩:=hE0.out
      rw[HE0.out] at b2 b3 b4 b5
      exact⟨E0,N0,rfl,rfl,b3,hNb.1,⟨HN0.out.symm,fun h=>b4 (by simpa using h),b5⟩,rfl⟩
     case round=>
      obtain⟨E,N,rfl,rfl,hE,hN,hEN,rfl⟩:=hrel
      by_cases hltN:N<s.size
      ·have h8:s[N].toNat<256:=UInt8.toNat_lt _
       have hbN:=b_at s N hltN
       have hcb:=fun w=>specBlank s[N] w
       cases hbl:Pl.blank s[N]<;>simp only[hbl] at hcb
       ·have hg:Hid (E=Pl.fe s.data.toList k∧N=Pl.nx s.data.toList E):=show _∧_ from by
         obtain⟨h1,h2,h3⟩:=hEN.out
         refine⟨?_,h1⟩
         rw[h3]
         exact(Pl.fe_stop _ E (by simpa using hE) h2 (fun _=>by rw[← h1,hbN];exact hbl)).symm
        clear hEN hbl hbN
        go_wp2_with (go_at_call 34;go_must (refine(hcb _).mono ?_;rintro e w2 ⟨rfl,rfl⟩))
        go_meet
        exact⟨E,N,rfl,rfl,hE,hN,hg,rfl⟩
       ·have hl2:=fun w=>specLine s N w (by omega) hN
        have hg:Hid (Pl.nx s.data.toList (Pl.le s.data.toList N)=Pl.nx s.data.toList (Pl.le s.data.toList N)∧(Pl.le s.data.toList N<s.data.toList.length→Pl.crlf s.data.toList (Pl.le s.data.toList N)=true)∧Pl.fe s.data.toList k=Pl.fe s.data.toList (Pl.le s.data.toList N)):=show _∧_∧_ from by
         obtain⟨h1,h2,h3⟩:=hEN.out
         refine⟨rfl,(Pl.le_facts _ N (by simpa using hN)).2.2,?_⟩
         rw[h3,Pl.fe_on _ E (by rw[← h1];simpa using hltN) h2 (by rw[← h1,hbN];exact hbl),← h1]
         exact Pl.fe_le _ N (by simpa using hN)
        obtain⟨c1,c2⟩:=Pl.nx_facts s.data.toList N (by simpa using hltN)
        obtain⟨-,c3,-⟩:=Pl.le_facts s.data.toList N (by simpa using hN)
        rw[Pl.len_list] at c2 c3
        clear hEN hbl hbN
        obtain⟨E',hE'⟩:∃E',Pl.le s.data.toList N=E':=⟨_,rfl⟩
        obtain⟨N',hN'⟩:∃N',Pl.nx s.data.toList E'=N':=⟨_,rfl⟩
        rw[hE'] at hg c1 c2 c3
        rw[hN'] at c1 c2
        simp only[hE',hN'] at hl2
        have hg2:Hid (N'=Pl.nx s.data.toList E'∧(E'<s.data.toList.length→Pl.crlf s.data.toList E'=true)∧Pl.fe s.data.toList k=Pl.fe s.data.toList E'):=⟨hN'.symm,hg.out.2⟩
        clear hg hE' hN'
        go_wp2_with (first|(go_at_call 34;go_must (refine(hcb _).mono ?_;rintro e w2 ⟨rfl,rfl⟩))|(go_at_call 33;go_must (refine(hl2 _).mono ?_;rintro e w2 ⟨rfl,rfl⟩)))
        go_roundw
        case rel=>exact⟨E',N',rfl,rfl,c3,c2,hg2,trivial⟩
        case measure=>simp[Lib.intOf];omega
      ·have hg:Hid (E=Pl.fe s.data.toList k∧N=Pl.nx s.data.toList E):=show _∧_ from by
        obtain⟨h1,h2,h3⟩:=hEN.out
        refine⟨?_,h1⟩
        rw[h3]
        exact(Pl.fe_stop _ E (by simpa using hE) h2 (fun h=>by rw[← h1,Pl.len_list] at h;omega)).symm
       clear hEN
       go_wp2
       go_meet
       exact⟨E,N,rfl,rfl,hE,hN,hg,rfl⟩
    case rest=>
     clear hE0 HN0 hNb
     obtain⟨E,N,rfl,rfl,hE,hN,hEN,hw0⟩:=hcut
     obtain⟨hEf,hNf⟩:=hEN.out
     have hkE2:k≤E:=by rw[hEf];exact Pl.first_ge _ _ _ (by simpa using hk)
     have HEf:Hid (E=Pl.fe s.data.toList k):=hEf
     have HNf:Hid (N=Pl.nx s.data.toList E):=hNf
     clear hEf hNf hEN
     subst hw0
     go_upto_block 4 with fail
     go_cut [8] (fun x wx=>∃ c:Nat,x=.int .i64 c∧k≤c∧c≤E∧Hid (c=Pl.colon s.data.toList E k)∧wx=wc)
     case first=>
      go_wp2_with fail
      go_loopw [8] (fun x wx=>∃ c:Nat,x=.int .i64 c∧k≤c∧c≤E∧Hid (Pl.colon s.data.toList E k=Pl.colon s.data.toList E c)∧wx=wc) (fun x _=>s.size-(Lib.intOf x).toNat)
      case atStart=>exact⟨k,rfl,Nat.le_refl _,hkE2,rfl,rfl⟩
      case round=>
       obtain⟨c,rfl,hkc,hcE,hcl,rfl⟩:=hrel
       by_cases hce:c<E
       ·have h8:s[c].toNat<256:=UInt8.toNat_lt _
        have hbc:=b_at s c (by omega)
        cases h58:((s[c].toNat:Int)==58)
        ·have hn58:((s[c].toNat:Int) != 58)=true:=by rw[bne,h58];rfl
         have hg:Hid (Pl.colon s.data.toList E k=Pl.colon s.data.toList E (c+1)):=show _=_ from hcl.out.trans (Pl.first_miss _ _ _ hce (by rw[hbc];simpa using Pl.byte_ne _ 58 _ rfl h58)).symm
         clear hcl hbc
         go_wp2
         go_roundw
         case rel=>exact⟨c+1,by go_num,by omega,by omega,hg,trivial⟩
         case measure=>simp[Lib.intOf];omega
        ·have hn58:((s[c].toNat:Int) != 58)=false:=by rw[bne,h58];rfl
         have hg:Hid (c=Pl.colon s.data.toList E k):=show _=_ from by rw[hcl.out];exact(Pl.first_hit _ _ _ (by rw[hbc,Pl.byte_eq _ 58 _ rfl h58];rfl)).symm
         clear hcl hbc
         go_wp2
         go_meet
         exact⟨c,rfl,hkc,hcE,hg,rfl⟩
       ·have hg:Hid (c=Pl.colon s.data.toList E k):=show _=_ from by rw[hcl.out];exact(Pl.first_end _ _ _ (by omega)).symm
        clear hcl
        go_wp2
        go_meet
        exact⟨c,rfl,hkc,hcE,hg,rfl⟩
     case rest=>
      obtain⟨c,rfl,hkc,hcE,Hc,hw1⟩:=hcut
      subst hw1
      go_upto_block 6 with fail
      go_cut [9] (fun x wx=>∃ t:ByteArray,x=.string t∧t.size≤s.size∧Hid (t.data.toList=Pl.trimR (Pl.sl s.data.toList k c))∧wx=wc)
      case first=>
       go_wp2_with fail
       go_loopw [9] (fun x wx=>∃ t:ByteArray,x=.string t∧t.size≤s.size∧Hid (Pl.trimR t.data.toList=Pl.trimR (Pl.sl s.data.toList k c))∧wx=wc) (fun x _=>match x with | .string t=>t.size|_=>0)
       case atStart=>exact⟨_,rfl,by simp;omega,show _=_ from by rw[Pl.ext_data];rfl,rfl⟩
       case round=>
        obtain⟨t,rfl,ht,hp2,rfl⟩:=hrel
        by_cases h0:0<t.size
        ·have h8:t[t.size-1].toNat<256:=UInt8.toNat_lt _
         have hcb:=fun w=>specBlank t[t.size-1] w
         cases hbl:Pl.blank t[t.size-1]<;>simp only[hbl] at hcb
         ·have hg:Hid (t.data.toList=Pl.trimR (Pl.sl s.data.toList k c)):=show _=_ from (Pl.trimR_last t h0 hbl).symm.trans hp2.out
          clear hp2 hbl
          go_wp2_with (go_at_call 34;go_must (refine(hcb _).mono ?_;rintro e w2 ⟨rfl,rfl⟩))
          go_meet
          exact⟨t,rfl,ht,hg,rfl⟩
         ·have hg:Hid (Pl.trimR (t.extract 0 (t.size-1)).data.toList=Pl.trimR (Pl.sl s.data.toList k c)):=show _=_ from (Pl.trimR_front t h0 hbl).trans hp2.out
          clear hp2 hbl
          go_wp2_with (go_at_call 34;go_must (refine(hcb _).mono ?_;rintro e w2 ⟨rfl,rfl⟩))
          go_roundw
          case rel=>exact⟨_,rfl,by simp;omega,hg,trivial⟩
          case measure=>simp;omega
        ·have hg:Hid (t.data.toList=Pl.trimR (Pl.sl s.data.toList k c)):=show _=_ from (Pl.trimR_none t (by omega)).symm.trans hp2.out
         clear hp2
         go_wp2
         go_meet
         exact⟨t,rfl,ht,hg,rfl⟩
      case rest=>
       obtain⟨t,rfl,ht,Ht,hw2⟩:=hcut
       subst hw2
       obtain⟨⟨q0,q1,q2,q3⟩,z0,z1,z2,z3⟩:=res_cells hres
       have hE0s:E0≤s.size:=by have:=(Pl.le_facts s.data.toList k (by simpa using hk)).2.1;rw[HE0.out] at this;simpa using this
       have HS:Hid (Pl.implF s.data.toList k=if decide (E0≤c) || !Pl.nameOk t.data.toList then .inl k else if Pl.val (Pl.sl s.data.toList (c+1) E) then .inr (t.data.toList,Pl.sl s.data.toList (c+1) E,N) else .inl (Pl.whr s.data.toList E k (s.data.toList.length+1) k (c+1))):=show _=_ from by
        rw[← Pl.field_same s.data.toList k (by simpa using hlt)]
        unfold Pl.specF
        dsimp only
        rw[← HEf.out,← Hc.out,← Ht.out,HE0.out,← HNf.out]
       have hcn:=fun w=>specName t w (by omega)
       by_cases hA:E0≤c
       ·have hRe:Hid (R=⟨3,k,0,[]⟩):=show _=_ from Pl.rd_fault _ k k fs R (by simpa using hlt) Hcr.out (by rw[HS.out,decide_eq_true hA,Bool.true_or,if_pos rfl]) hp.out
        have hwh:=fun w=>whereName s t k E c E0 w (by omega) (by omega) (by omega) (by omega) (.inl hA)
        clear HS hp hcn
        go_wp2_with (first|(go_at_call 33;go_must (refine(hln _).mono ?_;rintro e w2 ⟨rfl,rfl⟩))|(go_at_call 37;go_must (refine(hwh _).mono ?_;rintro e w2 ⟨rfl,rfl⟩)))
        refine bodyPost_ret (v:=.agg #[.int .i64 3,.int .i64 k,.slice none 0 0,.int .i64 0]) (by simp[results,Tryz.results9,go_sem,q0,q1,q2,q3]) rfl ⟨.slice none 0 0,by rw[hRe.out];rfl,by rw[hRe.out];exact OwnF.nil _ _,?_⟩
        exact(((hb.setCell (p:=⟨w.heap.size,0,none⟩) (Nat.le_refl _) _).setCell (p:=⟨w.heap.size,1,none⟩) (Nat.le_refl _) _).setCell (p:=⟨w.heap.size,2,none⟩) (Nat.le_refl _) _).setCell (p:=⟨w.heap.size,3,none⟩) (Nat.le_refl _) _
       ·cases hN2:Pl.nameOk t.data.toList
        ·have hRe:Hid (R=⟨3,k,0,[]⟩):=show _=_ from Pl.rd_fault _ k k fs R (by simpa using hlt) Hcr.out (by rw[HS.out,hN2,Bool.not_false,Bool.or_true,if_pos rfl]) hp.out
         have hwh:=fun w=>whereName s t k E c E0 w (by omega) (by omega) (by omega) (by omega) (.inr hN2)
         simp only[hN2] at hcn
         clear HS hp hN2
         go_wp2_with (first|(go_at_call 33;go_must (refine(hln _).mono ?_;rintro e w2 ⟨rfl,rfl⟩))|(go_at_call 35;go_must (refine(hcn _).mono ?_;rintro e w2 ⟨rfl,rfl⟩))|(go_at_call 37;go_must (refine(hwh _).mono ?_;rintro e w2 ⟨rfl,rfl⟩)))
         refine bodyPost_ret (v:=.agg #[.int .i64 3,.int .i64 k,.slice none 0 0,.int .i64 0]) (by simp[results,Tryz.results9,go_sem,q0,q1,q2,q3]) rfl ⟨.slice none 0 0,by rw[hRe.out];rfl,by rw[hRe.out];exact OwnF.nil _ _,?_⟩
         exact(((hb.setCell (p:=⟨w.heap.size,0,none⟩) (Nat.le_refl _) _).setCell (p:=⟨w.heap.size,1,none⟩) (Nat.le_refl _) _).setCell (p:=⟨w.heap.size,2,none⟩) (Nat.le_refl _) _).setCell (p:=⟨w.heap.size,3,none⟩) (Nat.le_refl _) _
        ·have hleE:E0≤E:=by rw[← HE0.out,HEf.out];exact Pl.le_fe _ _ (by simpa using hk)
         have hcv:=fun w=>specValue (s.extract (c+1) E) w (by simp;omega)
         have hxd:(s.extract (c+1) E).data.toList=Pl.sl s.data.toList (c+1) E:=Pl.ext_data s (c+1) E
         simp only[hN2] at hcn
         cases hV:Pl.val (Pl.sl s.data.toList (c+1) E)
         ·have hRe:Hid (R=⟨3,Pl.whr s.data.toList E k (s.data.toList.length+1) k (c+1),0,[]⟩):=show _=_ from Pl.rd_fault _ k _ fs R (by simpa using hlt) Hcr.out (by rw[HS.out,hN2,decide_eq_false hA,hV];rfl) hp.out
          have hwh:=fun w=>whereLine s t k E c E0 w (by omega) (by omega) hkc (by omega) hE (by omega) (by omega) hN2
          simp only[hxd,hV] at hcv
          obtain⟨P,hP⟩:∃P,Pl.whr s.data.toList E k (s.data.toList.length+1) k (c+1)=P:=⟨_,rfl⟩
          simp only[hP] at hwh
          rw[hP] at hRe
          clear HS hp hN2 hV hP hxd
          go_wp2_with (first|(go_at_call 33;go_must (refine(hln _).mono ?_;rintro e w2 ⟨rfl,rfl⟩))|(go_at_call 35;go_must (refine(hcn _).mono ?_;rintro e w2 ⟨rfl,rfl⟩))|(go_at_call 36;go_must (refine(hcv _).mono ?_;rintro e w2 ⟨rfl,rfl⟩))|(go_at_call 37;go_must (refine(hwh _).mono ?_;rintro e w2 ⟨rfl,rfl⟩)))
          refine bodyPost_ret (v:=.agg #[.int .i64 3,.int .i64 P,.slice none 0 0,.int .i64 0]) (by simp[results,Tryz.results9,go_sem,q0,q1,q2,q3]) rfl ⟨.slice none 0 0,by rw[hRe.out];rfl,by rw[hRe.out];exact OwnF.nil _ _,?_⟩
          exact(((hb.setCell (p:=⟨w.heap.size,0,none⟩) (Nat.le_refl _) _).setCell (p:=⟨w.heap.size,1,none⟩) (Nat.le_refl _) _).setCell (p:=⟨w.heap.size,2,none⟩) (Nat.le_refl _) _).setCell (p:=⟨w.heap.size,3,none⟩) (Nat.le_refl _) _
         ·have hF:Pl.implF s.data.toList k=.inr (t.data.toList,Pl.sl s.data.toList (c+1) E,N):=by rw[HS.out,hN2,decide_eq_false hA,hV];rfl
          obtain⟨o,cap,rfl⟩:=hown.shape
          simp only[hxd,hV] at hcv
          have hkN:k<N:=by rw[HNf.out,HEf.out];exact(Pl.nx_lt _ k (by simpa using hlt)).1
          by_cases h200:fs.length=200
          ·have hRe:Hid (R=⟨4,k,0,[]⟩):=show _=_ from Pl.rd_many _ k _ _ _ fs R (by simpa using hlt) Hcr.out hF h200 hp.out
           have hb2:((fs.length:Int)==200)=true:=by rw[h200];rfl
           clear HS hp hN2 hV hF hxd
           go_wp2_with (first|(go_at_call 33;go_must (refine(hln _).mono ?_;rintro e w2 ⟨rfl,rfl⟩))|(go_at_call 35;go_must (refine(hcn _).mono ?_;rintro e w2 ⟨rfl,rfl⟩))|(go_at_call 36;go_must (refine(hcv _).mono ?_;rintro e w2 ⟨rfl,rfl⟩)))
           refine bodyPost_ret (v:=.agg #[.int .i64 4,.int .i64 k,.slice none 0 0,.int .i64 0]) (by simp[results,Tryz.results9,go_sem,q0,q1,q2,q3]) rfl ⟨.slice none 0 0,by rw[hRe.out];rfl,by rw[hRe.out];exact OwnF.nil _ _,?_⟩
           exact(((hb.setCell (p:=⟨w.heap.size,0,none⟩) (Nat.le_refl _) _).setCell (p:=⟨w.heap.size,1,none⟩) (Nat.le_refl _) _).setCell (p:=⟨w.heap.size,2,none⟩) (Nat.le_refl _) _).setCell (p:=⟨w.heap.size,3,none⟩) (Nat.le_refl _) _
          ·have hRe:Hid (∃g,s.data.toList.length+1≤g+N∧Pl.rd s.data.toList g N (fs ++ [(t.data.toList,Pl.sl s.data.toList (c+1) E)])=R):=Pl.rd_step _ k N _ _ fs R (by simpa using hlt) Hcr.out hF hkN h200 hp.out
           have hb2:((fs.length:Int)==200)=false:=by rw[Bool.eq_false_iff];intro e;have:=beq_iff_eq.1 e;omega
           have hcs:#[Value.string t,Value.string (s.extract (c+1) E)]=#[txt t.data.toList,txt (Pl.sl s.data.toList (c+1) E)]:=by rw[← hxd,txt_eta,txt_eta]
           clear HS hp hN2 hV hF hxd q0 q1 q2 q3 z0 z1 z2 z3
           go_wp2_with (first|(go_at_call 33;go_must (refine(hln _).mono ?_;rintro e w2 ⟨rfl,rfl⟩))|(go_at_call 35;go_must (refine(hcn _).mono ?_;rintro e w2 ⟨rfl,rfl⟩))|(go_at_call 36;go_must (refine(hcv _).mono ?_;rintro e w2 ⟨rfl,rfl⟩))|(at_builtin;go_must (refine wp_appF (W:=w) rfl _ _ 39 rfl i0 Tryz.underlying39 hi hy0 hy1 hy2 w.heap.size (.slice o fs.length cap) fs rfl hown (t.data.toList,Pl.sl s.data.toList (c+1) E) _ rfl _ rfl (by omega) (Nat.le_refl _) hb w.heap.size _ 41 (0,0) (by decide) hres ?_;intro v' w' hown' hb' hres')))
           go_roundw
           case rel=>exact⟨N,_,hN,rfl,by simp;omega,hRe,hown',hres',hb'⟩
           case measure=>simp[Lib.intOf];omega
   ·obtain⟨o,cap,rfl⟩:=hown.shape
    obtain⟨⟨q0,q1,q2,q3⟩,z0,z1,z2,z3⟩:=res_cells hres
    have hbes:=hown.beside (by decide) hres
    have hE0:Pl.le s.data.toList k=k:=Pl.first_hit _ _ _ hcr
    have hN0:Pl.nx s.data.toList k=k+2:=by rw[Pl.nx,if_pos (by simpa using hlt)]
    have hRe:Hid (R=⟨0,0,k+2,fs⟩):=show _=_ from Pl.rd_crlf _ k fs R (by simpa using hlt) hcr hp.out
    simp only[hE0,hN0] at hln
    have hkk:((k:Int)==(k:Int))=true:=by simp
    have hk2:decide ((k:Int)<((k+2:Nat):Int))=true:=by simp;omega
    clear hp hcr hE0 hN0
    go_wp2_with (go_at_call 33;go_must (refine(hln _).mono ?_;rintro e w2 ⟨rfl,rfl⟩))
    refine bodyPost_ret (v:=.agg #[.int .i64 0,.int .i64 0,.slice o fs.length cap,.int .i64 ((k+2:Nat):Int)]) (by simp[results,Tryz.results9,go_sem,q0,q1,q2,q3]) rfl ⟨.slice o fs.length cap,by rw[hRe.out];rfl,?_,?_⟩
    ·rw[hRe.out]
     exact(((hown.setOther ⟨w.heap.size,0,none⟩ _ hbes).setOther ⟨w.heap.size,1,none⟩ _ hbes).setOther ⟨w.heap.size,2,none⟩ _ hbes).setOther ⟨w.heap.size,3,none⟩ _ hbes
    ·exact(((hb.setCell (p:=⟨w.heap.size,0,none⟩) (Nat.le_refl _) _).setCell (p:=⟨w.heap.size,1,none⟩) (Nat.le_refl _) _).setCell (p:=⟨w.heap.size,2,none⟩) (Nat.le_refl _) _).setCell (p:=⟨w.heap.size,3,none⟩) (Nat.le_refl _) _
  ·obtain⟨o,cap,rfl⟩:=hown.shape
   obtain⟨⟨q0,q1,q2,q3⟩,z0,z1,z2,z3⟩:=res_cells hres
   have hbes:=hown.beside (by decide) hres
   have hRe:Hid (R=⟨0,0,s.size,fs⟩):=show _=_ from by have:=Pl.rd_end _ k fs R (by simp;omega) hp.out (by simpa using hk);rwa [Pl.len_list] at this
   clear hp
   go_wp2
   refine bodyPost_ret (v:=.agg #[.int .i64 0,.int .i64 0,.slice o fs.length cap,.int .i64 s.size]) (by simp[results,Tryz.results9,go_sem,q0,q1,q2,q3]) rfl ⟨.slice o fs.length cap,by rw[hRe.out];rfl,?_,?_⟩
   ·rw[hRe.out]
    exact(((hown.setOther ⟨w.heap.size,0,none⟩ _ hbes).setOther ⟨w.heap.size,1,none⟩ _ hbes).setOther ⟨w.heap.size,2,none⟩ _ hbes).setOther ⟨w.heap.size,3,none⟩ _ hbes
   ·exact(((hb.setCell (p:=⟨w.heap.size,0,none⟩) (Nat.le_refl _) _).setCell (p:=⟨w.heap.size,1,none⟩) (Nat.le_refl _) _).setCell (p:=⟨w.heap.size,2,none⟩) (Nat.le_refl _) _).setCell (p:=⟨w.heap.size,3,none⟩) (Nat.le_refl _) _
namespace Pl
theorem b_mid (z v t:List UInt8)(j:Nat)(h:j<v.length):b (z++(v++t)) (z.length+j)=b v j:=by
 unfold b
 rw[List.getD_eq_getElem?_getD,List.getD_eq_getElem?_getD,List.getElem?_append_right (by omega),Nat.add_sub_cancel_left,List.getElem?_append_left h]
theorem b_at (z t:List UInt8)(j:Nat):b (z++t) (z.length+j)=b t j:=by
 unfold b
 rw[List.getD_eq_getElem?_getD,List.getD_eq_getElem?_getD,List.getElem?_append_right (by omega),Nat.add_sub_cancel_left]
theorem sl_mid (z v t:List UInt8)(i j:Nat)(hi:i=z.length)(hj:j=z.length+v.length):sl (z++(v++t)) i j=v:=by
 subst hi hj
 unfold sl
 rw[List.drop_left,Nat.add_sub_cancel_left,List.take_left]
theorem fold_of_b (l:List UInt8)(k:Nat)(h:k+2<l.length):fold l k=(b l k==13 && (b l (k+1)==10 && blank (b l (k+2)))):=by
 rw[b_lt l k (by omega),b_lt l (k+1) (by omega),b_lt l (k+2) h,Bool.eq_iff_iff,fold_iff]
 simp only[Bool.and_eq_true,beq_iff_eq]
 constructor
 ·rintro⟨_,h0,h1,h2⟩;exact⟨h0,h1,h2⟩
 ·rintro⟨h0,h1,h2⟩;exact⟨h,h0,h1,h2⟩
theorem vend_val (z v t:List UInt8)(L:List UInt8)(e:Nat)(hL:L=z++(v++(13::10::t)))(he:e=z.length+v.length)(hnf:fold L e=false) :
  ∀(f i:Nat) (beg:Nat),i≤v.length→v.length<f+i→val (v.drop i)=true→(vend L f (z.length+i) beg).1=e:=by
 have hlen:L.length=z.length+v.length+2+t.length:=by rw[hL];simp;omega
 have hb:∀j,j<v.length→b L (z.length+j)=b v j:=fun j hj=>by rw[hL];exact b_mid z v _ j hj
 have hb13:b L e=13:=by
  rw[hL,he,← List.append_assoc,← List.length_append]
  have:=b_at (z++v) (13::10::t) 0
  rw[Nat.add_zero] at this
  rw[this];rfl
 intro f
 induction f with
 | zero=>intro i beg hi hf hv;omega
 | succ f ih=>
  intro i beg hi hf hv
  rw[vend]
  obtain⟨j,hj⟩:∃j,stop lb L (z.length+i)=j:=⟨_,rfl⟩
  have hk:z.length+i≤L.length:=by omega
  have h1:=stop_ge lb L _ hk
  have h2:=stop_le lb L _ hk
  have h3:=stop_all lb L _ hk
  have h4:=stop_not lb L _ hk
  rw[hj] at h1 h2 h3 h4 ⊢
  have hje:j≤e:=by
   by_cases h:j≤e
   ·exact h
   ·have:=h3 e (by omega) (by omega)
    rw[hb13] at this
    exact absurd this (by decide)
  by_cases hlt:j<e
  ·obtain⟨m,hm⟩:∃m,j=z.length+m:=⟨j-z.length,by omega⟩
   have hmv:m<v.length:=by omega
   have hrun:=val_run v _ m i rfl (by omega) (by omega) (fun q hq1 hq2=>by
    rw[← hb q (by omega)]
    exact h3 (z.length+q) (by omega) (by omega))
   rw[hv] at hrun
   have hnl:lb (b v m)=false:=by
    rw[← hb m hmv,← hm]
    exact h4 (by omega)
   have hfv:fold v m=true:=by
    cases hfm:fold v m
    ·rw[val_other v m hmv hfm,← b_lt v m hmv,hnl,Bool.false_and] at hrun
     cases hrun
    ·rfl
   have hm2:=fold_lt v m hfv
   have hfL:fold L j=true:=by
    rw[fold_of_b L j (by omega),hm,Nat.add_assoc,Nat.add_assoc,hb m hmv,hb (m+1) (by omega),hb (m+2) hm2,← fold_of_b v m hm2]
    exact hfv
   rw[if_pos hfL,hm,Nat.add_assoc]
   refine ih (m+2) _ (by omega) (by omega) ?_
   rw[val_fold v m hfv]
   exact hrun.symm
  ·have hje2:j=e:=by omega
   rw[hje2,hnf,if_neg (by simp)]
theorem implF_line (z n v t:List UInt8)(L:List UInt8)(hL:L=z++(n++(58::(v++(13::10::t)))))(hn:nameOk n=true)(hv:val v=true)(ht:blank (b t 0)=false∨t=[]) :
  implF L z.length=.inr (n,v,z.length+n.length+1+v.length+2):=by
 have hlen:L.length=z.length+n.length+1+v.length+2+t.length:=by rw[hL];simp;omega
 have hnn:n.length≠0∧n.all nb=true:=by
  unfold nameOk at hn
  simp only[Bool.and_eq_true] at hn
  refine⟨?_,hn.2.2⟩
  intro e
  rw[List.length_eq_zero_iff] at e
  rw[e] at hn
  exact absurd hn.1 (by decide)
 have hbn:∀j,j<n.length→b L (z.length+j)=b n j:=fun j hj=>by rw[hL];exact b_mid z n _ j hj
 have h58:b L (z.length+n.length)=58:=by
  have e:L=(z++n)++(58::(v++(13::10::t))):=by rw[hL];simp
  have:=b_at (z++n) (58::(v++(13::10::t))) 0
  rw[← e,Nat.add_zero,List.length_append] at this
  rw[this];rfl
 have hs1:stop nb L z.length=z.length+n.length:=stop_eq nb L _ _ (by omega) (by omega) (fun j h1 h2=>by
  obtain⟨m,rfl⟩:∃m,j=z.length+m:=⟨j-z.length,by omega⟩
  rw[hbn m (by omega),b_lt n m (by omega)]
  exact List.all_eq_true.1 hnn.2 _ (List.getElem_mem _)) (fun _=>by rw[h58];decide)
 have hs2:stop blank L (z.length+n.length)=z.length+n.length:=stop_eq blank L _ _ (Nat.le_refl _) (by omega) (fun j h1 h2=>by omega) (fun _=>by rw[h58];decide)
 have hsl:sl L z.length (z.length+n.length)=n:=by rw[hL];exact sl_mid z n _ _ _ rfl rfl
 have hgood:nameGood L z.length=true:=by
  unfold nameGood
  rw[hs1,hs2,hsl,hn,h58,decide_eq_true (by omega)]
  rfl
 have hL2:L=(z++n ++ [58])++(v++(13::10::t)):=by rw[hL];simp
 have hzl:(z++n ++ [58]).length=z.length+n.length+1:=by simp;omega
 obtain⟨e,he⟩:∃e,e=z.length+n.length+1+v.length:=⟨_,rfl⟩
 have hL3:L=(z++n ++ [58]++v)++(13::10::t):=by rw[hL];simp
 have hl3:(z++n ++ [58]++v).length=e:=by simp;omega
 have hbe:∀j,b L (e+j)=b (13::10::t) j:=fun j=>by
  have:=b_at (z++n ++ [58]++v) (13::10::t) j
  rw[← hL3,hl3] at this
  exact this
 have hcr:crlf L e=true:=by
  rw[crlf_iff]
  have e0:=hbe 0
  have e1:=hbe 1
  rw[Nat.add_zero] at e0
  refine⟨by omega,?_,?_⟩
  ·rw[← b_lt L e (by omega),e0];rfl
  ·rw[← b_lt L (e+1) (by omega),e1];rfl
 have hnf:fold L e=false:=by
  rw[Bool.eq_false_iff]
  intro hf
  have h2:=fold_b L e hf
  rw[hbe 2] at h2
  rcases ht with ht|ht
  ·have:b (13::10::t) 2=b t 0:=rfl
   rw[this,ht] at h2
   exact absurd h2.1 (by decide)
  ·subst ht
   have:=h2.2
   simp at hlen
   omega
 have hve:=vend_val (z++n ++ [58]) v t L e hL2 (by rw[hzl];exact he) hnf (L.length+1) 0 z.length (Nat.zero_le _) (by omega) (by rw[List.drop_zero];exact hv)
 rw[Nat.add_zero,hzl] at hve
 unfold implF
 rw[if_pos hgood]
 simp only[hs1,hs2,hve,hsl]
 rw[if_neg (by omega),if_pos hcr]
 have hsv:sl L (z.length+n.length+1) e=v:=by
  rw[hL2]
  exact sl_mid (z++n ++ [58]) v _ _ _ (by rw[hzl]) (by rw[hzl];exact he)
 rw[hsv,he]
def lineL (f:Fl):List UInt8:=f.1++(58::(f.2 ++ [13,10]))
end Pl
end Go.Proofs.YtacaoiedcfelcaaGreatDoor
