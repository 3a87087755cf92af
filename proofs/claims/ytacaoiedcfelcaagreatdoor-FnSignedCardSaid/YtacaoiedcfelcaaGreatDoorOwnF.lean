import Derived.Test.YtacaoiedcfelcaaGreatDoorReadLine
import Derived.Test.YtacaoiedcfelcaaGreatDoorAllOf
import Derived.WalkKit
import Derived.OrdersHeld
import Derived.Laws.MakeOwn
import Derived.Laws.OwnMore
import Derived.Deep.QuietTactic
import Derived.BigQuiet
import Derived.Deep.RegionWith
set_option maxRecDepth 20000
set_option maxHeartbeats 2000000
namespace Go.Proofs.YtacaoiedcfelcaaGreatDoor
open Go.RowKit Go.Lib
theorem whereName (s n:ByteArray)(B e c f:Nat)(w:World)(hn:n.size≤1100000)(_hB:B≤1100000)(_hc:c≤1100000)(_hf:f≤1100000)(h:f≤c∨Pl.nameOk n.data.toList=false) :
  Calls Tryz.prog 37 #[.string s,.int .i64 B,.int .i64 e,.int .i64 c,.int .i64 f,.string n] w fun x w'=>x=.returned (.int .i64 B)∧w=w':=by
 by_cases hfc:f≤c
 ·clear h
  go_enter Tryz.func37,Tryz.ntmps37
  go_wp2
  go_ret
  exact⟨rfl,rfl⟩
 ·have hN:=h.resolve_left hfc
  have hcn:=fun w=>specName n w hn
  simp only[hN] at hcn
  clear h hN
  go_enter Tryz.func37,Tryz.ntmps37
  go_wp2_with (go_at_call 35;go_must (refine(hcn _).mono ?_;rintro x w2 ⟨rfl,rfl⟩))
  go_ret
  exact⟨rfl,rfl⟩
set_option maxRecDepth 8000 in
theorem whereLine (s n:ByteArray)(B e c f:Nat)(w:World)(hs:s.size≤1100000)(hn:n.size≤1100000)(hBc:B≤c)(hce:c+1≤e)(hes:e≤s.size)(hf:f≤1100000)(hcf:c<f)(hN:Pl.nameOk n.data.toList=true) :
  Calls Tryz.prog 37 #[.string s,.int .i64 B,.int .i64 e,.int .i64 c,.int .i64 f,.string n] w fun x w'=>x=.returned (.int .i64 (Pl.whr s.data.toList e B (s.data.toList.length+1) B (c+1):Nat))∧w=w':=by
 have hcn:=fun w=>specName n w hn
 simp only[hN] at hcn
 obtain⟨R,hR⟩:∃R,Pl.whr s.data.toList e B (s.data.toList.length+1) B (c+1)=R:=⟨_,rfl⟩
 rw[hR]
 have HR:Hid (∃g,s.size+1≤g+B∧Pl.whr s.data.toList e B g B (c+1)=R):=show ∃g,_∧_ from ⟨_,by rw[Pl.len_list];omega,hR⟩
 clear hR hN
 have hd:decide (f≤c)=false:=by simp;omega
 have hd':decide ((f:Int)≤(c:Int))=false:=by simp;omega
 go_enter Tryz.func37,Tryz.ntmps37
 go_wp2_with (go_at_call 35;go_must (refine(hcn _).mono ?_;rintro x w2 ⟨rfl,rfl⟩))
 go_loopw [13,14,15,16,17] (fun a fr _ _ _ wr=>∃ (k r:Nat),k≤s.size∧r≤s.size∧a=.int .i64 k∧fr=.int .i64 r∧Hid (∃g,s.size+1≤g+k∧Pl.whr s.data.toList e B g k r=R)∧wr=w) (fun a _ _ _ _ _=>s.size-(Lib.intOf a).toNat)
 case atStart=>exact⟨B,c+1,by omega,by omega,rfl,by go_num,HR,rfl⟩
 case round=>
  clear HR hcn
  obtain⟨k,r,hk,hr,rfl,rfl,hg,rfl⟩:=hrel
  by_cases hke:k<e
  ·have hln:=fun w=>specLine s k w hs hk
   have hle0:=Pl.first_ge (Pl.crlf s.data.toList) s.data.toList.length k (by simpa using hk)
   have hle1:=Pl.first_le (Pl.crlf s.data.toList) s.data.toList.length k (by simpa using hk)
   have Hnx:Hid (Pl.nx s.data.toList (Pl.le s.data.toList k)=if Pl.le s.data.toList k<s.size then Pl.le s.data.toList k+2 else s.size):=show _=_ from by rw[Pl.nx,Pl.len_list]
   have Hst:Hid (∃g,s.size+1≤g+1+k∧(if Pl.first (fun j=>!Pl.lb (Pl.b s.data.toList j)) (min (Pl.le s.data.toList k) e) r<min (Pl.le s.data.toList k) e then k else Pl.whr s.data.toList e B g (Pl.nx s.data.toList (Pl.le s.data.toList k)) (Pl.nx s.data.toList (Pl.le s.data.toList k)))=R):=show ∃g,_∧_ from by
    obtain⟨g,h1,h2⟩:=hg.out
    obtain⟨g',rfl⟩:∃g',g=g'+1:=⟨g-1,by omega⟩
    rw[Pl.whr,if_pos hke] at h2
    exact⟨g',h1,h2⟩
   have Hcr:Hid (Pl.le s.data.toList k<s.size→Pl.le s.data.toList k+2≤s.size):=show _→_ from fun h=>by
    have:=(Pl.crlf_b _ _ (Pl.first_is (Pl.crlf s.data.toList) s.data.toList.length k (by simpa using hk) (by show Pl.le s.data.toList k<_;rw[Pl.len_list];exact h))).2.2
    simp at this
    exact this
   change k≤Pl.le s.data.toList k at hle0
   change Pl.le s.data.toList k≤_ at hle1
   rw[Pl.len_list] at hle1
   clear hg
   generalize Pl.nx s.data.toList (Pl.le s.data.toList k)=N at hln Hnx Hst
   generalize Pl.le s.data.toList k=E at hln Hnx Hst Hcr hle0 hle1
   have hN0:k<N:=by have:=Hnx.out;split at this<;>omega
   have hN1:N≤s.size:=by have a:=Hnx.out;have c:=Hcr.out;split at a<;>omega
   obtain⟨M,hM⟩:∃M,M=min E e:=⟨_,rfl⟩
   have hMe:M≤e:=by omega
   have HM:Hid (M=min E e):=hM
   rw[← hM] at Hst
   clear Hnx Hcr
   by_cases hEe:e<E
   ·have hMv:e=M:=by omega
    clear hM
    subst hMv
    go_wp2_with (go_at_call 33;go_must (refine(hln _).mono ?_;rintro x w2 ⟨rfl,rfl⟩))
    go_loopw [17] (fun i wx=>∃ j:Nat,j≤s.size∧r≤j∧i=.int .i64 j∧Hid (Pl.first (fun j=>!Pl.lb (Pl.b s.data.toList j)) e r=Pl.first (fun j=>!Pl.lb (Pl.b s.data.toList j)) e j)∧wx=wr) (fun i _=>s.size-(Lib.intOf i).toNat)
    case atStart=>exact⟨r,hr,Nat.le_refl _,rfl,rfl,rfl⟩
    case round=>
     obtain⟨j,hj,hrj,rfl,hp,rfl⟩:=hrel
     by_cases hlt:j<e
     ·have h8:s[j].toNat<256:=UInt8.toNat_lt _
      have hbj:=b_at s j (by omega)
      cases h13:((s[j].toNat:Int)==13)
      ·cases h10:((s[j].toNat:Int)==10)
       ·have hlb:Pl.lb s[j]=true:=by simp[Pl.lb,Pl.byte_ne _ 13 _ rfl h13,Pl.byte_ne _ 10 _ rfl h10]
        have hg:Hid (Pl.first (fun j=>!Pl.lb (Pl.b s.data.toList j)) e r=Pl.first (fun j=>!Pl.lb (Pl.b s.data.toList j)) e (j+1)):=show _=_ from hp.out.trans (Pl.first_miss _ _ _ hlt (by rw[hbj,hlb];rfl)).symm
        clear hp hlb hbj
        go_wp2
        go_roundw
        case rel=>exact⟨j+1,by omega,by omega,by go_num,hg,trivial⟩
        case measure=>simp[Lib.intOf];omega
       ·have hE:Hid (R=k):=show _=_ from by
         obtain⟨g,-,h2⟩:=Hst.out
         rw[hp.out,Pl.first_hit _ _ _ (by rw[hbj,Pl.byte_eq _ 10 _ rfl h10];rfl),if_pos hlt] at h2
         exact h2.symm
        clear hp hbj
        go_wp2
        go_ret
        rw[hE.out]
        exact⟨rfl,rfl⟩
      ·have hE:Hid (R=k):=show _=_ from by
        obtain⟨g,-,h2⟩:=Hst.out
        rw[hp.out,Pl.first_hit _ _ _ (by rw[hbj,Pl.byte_eq _ 13 _ rfl h13];rfl),if_pos hlt] at h2
        exact h2.symm
       clear hp hbj
       go_wp2
       go_ret
       rw[hE.out]
       exact⟨rfl,rfl⟩
     ·have hE:Hid (∃g,s.size+1≤g+N∧Pl.whr s.data.toList e B g N N=R):=show ∃g,_∧_ from by
       obtain⟨g,h1,h2⟩:=Hst.out
       rw[hp.out,Pl.first_end _ _ _ (by omega),if_neg hlt] at h2
       exact⟨g,by omega,h2⟩
      clear hp
      go_wp2
      go_roundw
      case rel=>exact⟨N,N,by omega,by omega,rfl,rfl,hE,trivial⟩
      case measure=>simp[Lib.intOf];omega
   ·have hMv:E=M:=by omega
    clear hM
    subst hMv
    go_wp2_with (go_at_call 33;go_must (refine(hln _).mono ?_;rintro x w2 ⟨rfl,rfl⟩))
    go_loopw [17] (fun i wx=>∃ j:Nat,j≤s.size∧r≤j∧i=.int .i64 j∧Hid (Pl.first (fun j=>!Pl.lb (Pl.b s.data.toList j)) E r=Pl.first (fun j=>!Pl.lb (Pl.b s.data.toList j)) E j)∧wx=wr) (fun i _=>s.size-(Lib.intOf i).toNat)
    case atStart=>exact⟨r,hr,Nat.le_refl _,rfl,rfl,rfl⟩
    case round=>
     obtain⟨j,hj,hrj,rfl,hp,rfl⟩:=hrel
     by_cases hlt:j<E
     ·have h8:s[j].toNat<256:=UInt8.toNat_lt _
      have hbj:=b_at s j (by omega)
      cases h13:((s[j].toNat:Int)==13)
      ·cases h10:((s[j].toNat:Int)==10)
       ·have hlb:Pl.lb s[j]=true:=by simp[Pl.lb,Pl.byte_ne _ 13 _ rfl h13,Pl.byte_ne _ 10 _ rfl h10]
        have hg:Hid (Pl.first (fun j=>!Pl.lb (Pl.b s.data.toList j)) E r=Pl.first (fun j=>!Pl.lb (Pl.b s.data.toList j)) E (j+1)):=show _=_ from hp.out.trans (Pl.first_miss _ _ _ hlt (by rw[hbj,hlb];rfl)).symm
        clear hp hlb hbj
        go_wp2
        go_roundw
        case rel=>exact⟨j+1,by omega,by omega,by go_num,hg,trivial⟩
        case measure=>simp[Lib.intOf];omega
       ·have hE:Hid (R=k):=show _=_ from by
         obtain⟨g,-,h2⟩:=Hst.out
         rw[hp.out,Pl.first_hit _ _ _ (by rw[hbj,Pl.byte_eq _ 10 _ rfl h10];rfl),if_pos hlt] at h2
         exact h2.symm
        clear hp hbj
        go_wp2
        go_ret
        rw[hE.out]
        exact⟨rfl,rfl⟩
      ·have hE:Hid (R=k):=show _=_ from by
        obtain⟨g,-,h2⟩:=Hst.out
        rw[hp.out,Pl.first_hit _ _ _ (by rw[hbj,Pl.byte_eq _ 13 _ rfl h13];rfl),if_pos hlt] at h2
        exact h2.symm
       clear hp hbj
       go_wp2
       go_ret
       rw[hE.out]
       exact⟨rfl,rfl⟩
     ·have hE:Hid (∃g,s.size+1≤g+N∧Pl.whr s.data.toList e B g N N=R):=show ∃g,_∧_ from by
       obtain⟨g,h1,h2⟩:=Hst.out
       rw[hp.out,Pl.first_end _ _ _ (by omega),if_neg hlt] at h2
       exact⟨g,by omega,h2⟩
      clear hp
      go_wp2
      go_roundw
      case rel=>exact⟨N,N,by omega,by omega,rfl,rfl,hE,trivial⟩
      case measure=>simp[Lib.intOf];omega
  ·have hE:Hid (R=B):=show _=_ from by
    obtain⟨g,h1,h2⟩:=hg.out
    obtain⟨g',rfl⟩:∃g',g=g'+1:=⟨g-1,by omega⟩
    rw[Pl.whr,if_neg hke] at h2
    exact h2.symm
   clear hg
   go_wp2
   go_ret
   rw[hE.out]
   exact⟨rfl,rfl⟩
theorem mkHid {p:Prop} (h:p):Hid p:=h
theorem heap_alloc_at (w:World)(o:Obj):(w.alloc o).heap[w.heap.size]?=some o:=by
 show(w.heap.push o)[w.heap.size]?=some o
 simp
theorem tk {P:Program} {ops:Array Oper} {Q:Exit→Act→World→Prop} {md:Region.Mode} {S:World→Prop} {oi:Oper} {fuel:Nat} {listed:Array Bool} {a:Act} {w:World} (i:Nat)(v:Value)(hS:S w)(hy:∀w,S w→(execOp a.eval oi).run P w=.ok (.value v) w)
  (h:wpAnyH P md ops Q S fuel (listed.setIfInBounds i true) (a.put oi.dst v) w) (hi:ops[i]?=some oi:=by rfl) (hw:Region.wanted oi (yielded ops a.tmps)=true:=by rfl) (hs:Region.noSelect ops=true:=by kernel_rfl) (hf:Region.free md ops listed i=true:=by kernel_rfl) (hr:(Region.ready md ops listed).contains i=true:=by kernel_rfl)
  (hQ:∀c a w,Q (.panic c) (a.put oi.dst v) w→Q (.panic c) a w:=by exact fun _ _ _ h=>h):wpAnyH P md ops Q S (fuel+1) listed a w:=
 wpAnyH_take hi hs hf hr hQ (Or.inl ⟨hw,hy⟩) hS h
theorem tn {P:Program} {ops:Array Oper} {Q:Exit→Act→World→Prop} {md:Region.Mode} {S:World→Prop} {oi:Oper} {fuel:Nat} {listed:Array Bool} {a:Act} {w:World} (i:Nat)(hS:S w)
  (h:wpAnyH P md ops Q S fuel (listed.setIfInBounds i true) (a.put oi.dst undef) w) (hi:ops[i]?=some oi:=by rfl) (hw:Region.wanted oi (yielded ops a.tmps)=false:=by kernel_rfl) (hs:Region.noSelect ops=true:=by kernel_rfl) (hf:Region.free md ops listed i=true:=by kernel_rfl) (hr:(Region.ready md ops listed).contains i=true:=by kernel_rfl)
  (hQ:∀c a w,Q (.panic c) (a.put oi.dst undef) w→Q (.panic c) a w:=by exact fun _ _ _ h=>h):wpAnyH P md ops Q S (fuel+1) listed a w:=
 wpAnyH_take hi hs hf hr hQ (Or.inr ⟨hw,rfl⟩) hS h
abbrev Fd:=ByteArray × ByteArray
def Fld (B:Nat)(w:World)(o:Option Addr)(F:List Fd):Prop:=
 ∀i (h:i<F.length),∃ a,o=some a∧a.block<B∧w.cell? (a.add (i*2))=some (.string F[i].1)∧w.cell? ⟨(a.add (i*2)).block,(a.add (i*2)).off+1,none⟩=some (.string F[i].2)
theorem add_block (a:Addr)(n:Nat):(a.add n).block=a.block:=by unfold Addr.add;split<;>rfl
theorem Fld.below {B:Nat} {w w':World} {o:Option Addr} {F:List Fd} (h:Fld B w o F)(hb:Below B w w'):Fld B w' o F:=by
 intro i hi
 obtain⟨a,ho,ha,h0,h1⟩:=h i hi
 exact⟨a,ho,ha,(hb.cell (by rw[add_block];exact ha)).trans h0,(hb.cell (p:=⟨(a.add (i*2)).block,(a.add (i*2)).off+1,none⟩) (show(a.add (i*2)).block<B from by rw[add_block];exact ha)).trans h1⟩
theorem Fld.mono {B B':Nat} {w:World} {o:Option Addr} {F:List Fd} (h:Fld B w o F)(hB:B≤B'):Fld B' w o F:=by
 intro i hi
 obtain⟨a,ho,ha,h0,h1⟩:=h i hi
 exact⟨a,ho,by omega,h0,h1⟩
theorem Tryz.info43:(Tryz.prog.info? 38).map (fun i=>(i.zero,i.size,i.bytes))=some (some (.agg #[.string ⟨#[]⟩,.string ⟨#[]⟩]),2,32):=by kernel_rfl
theorem var_cells {w:World} {g:Nat} {n v:ByteArray} {t:TypeId} {z:Nat × Nat} (h:w.heap[g]?=some (.cells #[.string n,.string v] t z)) :
  w.cell? ⟨g,0,none⟩=some (.string n)∧w.cell? ⟨g,1,none⟩=some (.string v):=by
 constructor<;>simp[World.cell?,h]
theorem Own.some_len {B:Nat} {v:Value} {p:List UInt8} {w:World} (h:Own B v p w)(hp:0<p.length):∃g cap L,v=.slice (some ⟨g,0,none⟩) L cap∧L=p.length:=by
 rcases h.form with ⟨rfl,rfl⟩|⟨g,cap,rfl⟩
 ·simp at hp
 ·exact⟨g,cap,_,rfl,rfl⟩
set_option maxRecDepth 40000 in
theorem specWriteHead (o:Option Addr)(F:List Fd)(cap:Nat)(w:World)(hF:Fld w.heap.size w o F)(hlen:F.length≤200)(hsz:∀f ∈ F,f.1.size≤1048576∧f.2.size≤1048576) :
  Calls Tryz.prog 44 #[.slice o F.length cap] w fun e w'=>e=.returned (.string ⟨(Pl.hd [] F).toArray⟩)∧Below w.heap.size w w':=by
 obtain⟨i0,hi,hy0,hy1,hy2⟩:=info_parts Tryz.info5
 have HF:Hid (Fld w.heap.size w o F):=hF
 have Hsz:Hid (∀f ∈ F,f.1.size≤1048576∧f.2.size≤1048576):=hsz
 clear hF hsz
 go_enter Tryz.func44,Tryz.ntmps44
 go_wp2
 go_loopw [3,4,5] (fun v i _ wr=>∃ (k:Nat) (p:List UInt8),k≤F.length∧i=.int .i64 k∧p.length≤100000∧Hid (Pl.hd p (F.drop k)=Pl.hd [] F)∧Own w.heap.size v p wr∧Below w.heap.size w wr) (fun _ i _ _=>F.length-(Lib.intOf i).toNat)
 case atStart=>exact⟨0,[],Nat.zero_le _,rfl,by simp,rfl,Own.made _ _ (Nat.le_refl _),(Below.refl _ _).alloc (Nat.le_refl _) _⟩
 case round=>
  obtain⟨k,p,hk,rfl,hpl,hp,hown,hb⟩:=hrel
  by_cases hlt:k<F.length
  ·obtain⟨a,rfl,ha,hc0,hc1⟩:=(HF.out.below hb) k hlt
   obtain⟨hs0,hs1⟩:=Hsz.out F[k] (List.getElem_mem _)
   have Hbad:Hid (Pl.okF F[k]=false→Pl.hd [] F=[]):=show _→_ from fun h=>Pl.hd_bad p _ F k hlt h hp.out
   have Hlong:Hid (Pl.okF F[k]=true→100000<(p++Pl.line F[k]).length→Pl.hd [] F=[]):=show _→_→_ from fun h hl=>Pl.hd_long p _ F k hlt h hl hp.out
   have Hstep:Hid (Pl.okF F[k]=true→¬100000<(p++Pl.line F[k]).length→Pl.hd (p++Pl.line F[k]) (F.drop (k+1))=Pl.hd [] F):=show _→_→_ from fun h hl=>Pl.hd_step p _ F k hlt h hl hp.out
   clear hp
   generalize F[k]=f at hc0 hc1 hs0 hs1 Hbad Hlong Hstep
   obtain⟨n,v⟩:=f
   dsimp only at hc0 hc1 hs0 hs1
   have hcn:=fun w=>specName n w (by omega)
   have hcv:=fun w=>specValue v w (by omega)
   have hbs:=hb.size
   by_cases hA:100000<v.size
   ·have hE:Hid (Pl.hd [] F=[]):=Hbad.out (Pl.okF_size _ (by dsimp only;omega))
    clear Hbad Hlong Hstep
    go_wp2
    go_ret
    exact⟨by rw[hE.out];rfl,hb.alloc hbs _⟩
   ·cases hN:Pl.nameOk n.data.toList
    ·have hE:Hid (Pl.hd [] F=[]):=Hbad.out (Pl.okF_name _ hN)
     simp only[hN] at hcn
     clear Hbad Hlong Hstep hN
     go_wp2_with (go_at_call 35;go_must (refine(hcn _).mono ?_;rintro e w2 ⟨rfl,rfl⟩))
     go_ret
     exact⟨by rw[hE.out];rfl,hb.alloc hbs _⟩
    ·cases hV:Pl.val v.data.toList
     ·have hE:Hid (Pl.hd [] F=[]):=Hbad.out (Pl.okF_val _ hV)
      simp only[hN] at hcn
      simp only[hV] at hcv
      clear Hbad Hlong Hstep hN hV
      go_wp2_with (first|(go_at_call 35;go_must (refine(hcn _).mono ?_;rintro e w2 ⟨rfl,rfl⟩))|(go_at_call 36;go_must (refine(hcv _).mono ?_;rintro e w2 ⟨rfl,rfl⟩)))
      go_ret
      exact⟨by rw[hE.out];rfl,hb.alloc hbs _⟩
     ·have hok:Pl.okF (n,v)=true:=Pl.okF_mk _ (by dsimp only;omega) hN hV
      have hn7:=Pl.nameOk_size n hN
      simp only[hN] at hcn
      simp only[hV] at hcv
      clear hN hV Hbad
      have hownA:=hown.alloc (.cells #[.string n,.string v] 38)
      have hbA:=hb.alloc hbs (.cells #[.string n,.string v] 38)
      have hfvA:(wr.alloc (.cells #[.string n,.string v] 38)).heap[wr.heap.size]?=some (.cells #[.string n,.string v] 38 (0,0)):=heap_alloc_at _ _
      have hll:=Pl.line_len (n,v)
      dsimp only at hll
      by_cases hT:100000<p.length+n.size+v.size+3
      ·have hE:Hid (Pl.hd [] F=[]):=Hlong.out hok (by rw[List.length_append,hll];omega)
       clear Hlong Hstep hok
       go_wp2_with (first|(go_at_call 35;go_must (refine(hcn _).mono ?_;rintro e wx ⟨rfl,rfl⟩))|(go_at_call 36;go_must (refine(hcv _).mono ?_;rintro e wx ⟨rfl,rfl⟩))|(at_builtin;go_must (first|(refine wp_app_v (W:=w) rfl _ _ 22 rfl i0 Tryz.underlying22 hi hy0 hy1 hy2 w.heap.size v3 (p++n.data.toList ++ [58]++v.data.toList) rfl hown3 _ [13,10] rfl 2 2 rfl rfl (by simp;omega) (Nat.le_refl _) hb3 wr.heap.size _ 38 (0,0) (by decide) hf3 ?_;intro v4 w4 hown4 hb4 hf4;obtain⟨g4,cap4,L,rfl,hL⟩:=hown4.some_len (by simp;omega);have hLd:decide ((100000:Int)<(L:Int))=true:=(by have e:=hL;simp only[List.length_append,List.length_cons,List.length_nil,Pl.len_list] at e;first|exact decide_eq_true (by omega)|exact decide_eq_false (by omega));clear hL)|(refine wp_apps_v (W:=w) rfl _ _ 22 9 rfl i0 Tryz.underlying22 Tryz.underlying9 hi hy0 hy1 hy2 w.heap.size v2 (p++n.data.toList ++ [58]) rfl hown2 v rfl (by simp;omega) (Nat.le_refl _) hb2 wr.heap.size _ 38 (0,0) (by decide) hf2 ?_;intro v3 w3 hown3 hb3 hf3)|(refine wp_app_v (W:=w) rfl _ _ 22 rfl i0 Tryz.underlying22 hi hy0 hy1 hy2 w.heap.size v1 (p++n.data.toList) rfl hown1 _ [58] rfl 1 1 rfl rfl (by simp;omega) (Nat.le_refl _) hb1 wr.heap.size _ 38 (0,0) (by decide) hf1 ?_;intro v2 w2 hown2 hb2 hf2;obtain⟨he0,he1⟩:=var_cells hf2)|(refine wp_apps_v (W:=w) rfl _ _ 22 9 rfl i0 Tryz.underlying22 Tryz.underlying9 hi hy0 hy1 hy2 w.heap.size u3 p rfl hownA n rfl (by omega) (Nat.le_refl _) hbA wr.heap.size _ 38 (0,0) (by decide) hfvA ?_;intro v1 w1 hown1 hb1 hf1;obtain⟨hd0,hd1⟩:=var_cells hf1))))
       go_ret
       exact⟨by rw[hE.out];rfl,hb4⟩
      ·have hE:Hid (Pl.hd (p++n.data.toList ++ [58]++v.data.toList ++ [13,10]) (F.drop (k+1))=Pl.hd [] F):=show _=_ from by
        have:=Hstep.out hok (by rw[List.length_append,hll];omega)
        rw[← this]
        simp[Pl.line]
       clear Hlong Hstep hok
       go_wp2_with (first|(go_at_call 35;go_must (refine(hcn _).mono ?_;rintro e wx ⟨rfl,rfl⟩))|(go_at_call 36;go_must (refine(hcv _).mono ?_;rintro e wx ⟨rfl,rfl⟩))|(at_builtin;go_must (first|(refine wp_app_v (W:=w) rfl _ _ 22 rfl i0 Tryz.underlying22 hi hy0 hy1 hy2 w.heap.size v3 (p++n.data.toList ++ [58]++v.data.toList) rfl hown3 _ [13,10] rfl 2 2 rfl rfl (by simp;omega) (Nat.le_refl _) hb3 wr.heap.size _ 38 (0,0) (by decide) hf3 ?_;intro v4 w4 hown4 hb4 hf4;obtain⟨g4,cap4,L,rfl,hL⟩:=hown4.some_len (by simp;omega);have hLd:decide ((100000:Int)<(L:Int))=false:=(by have e:=hL;simp only[List.length_append,List.length_cons,List.length_nil,Pl.len_list] at e;first|exact decide_eq_true (by omega)|exact decide_eq_false (by omega));clear hL)|(refine wp_apps_v (W:=w) rfl _ _ 22 9 rfl i0 Tryz.underlying22 Tryz.underlying9 hi hy0 hy1 hy2 w.heap.size v2 (p++n.data.toList ++ [58]) rfl hown2 v rfl (by simp;omega) (Nat.le_refl _) hb2 wr.heap.size _ 38 (0,0) (by decide) hf2 ?_;intro v3 w3 hown3 hb3 hf3)|(refine wp_app_v (W:=w) rfl _ _ 22 rfl i0 Tryz.underlying22 hi hy0 hy1 hy2 w.heap.size v1 (p++n.data.toList) rfl hown1 _ [58] rfl 1 1 rfl rfl (by simp;omega) (Nat.le_refl _) hb1 wr.heap.size _ 38 (0,0) (by decide) hf1 ?_;intro v2 w2 hown2 hb2 hf2;obtain⟨he0,he1⟩:=var_cells hf2)|(refine wp_apps_v (W:=w) rfl _ _ 22 9 rfl i0 Tryz.underlying22 Tryz.underlying9 hi hy0 hy1 hy2 w.heap.size u3 p rfl hownA n rfl (by omega) (Nat.le_refl _) hbA wr.heap.size _ 38 (0,0) (by decide) hfvA ?_;intro v1 w1 hown1 hb1 hf1;obtain⟨hd0,hd1⟩:=var_cells hf1))))
       go_roundw
       case rel=>exact⟨k+1,_,by omega,by go_num,by simp;omega,hE,hown4,hb4⟩
       case measure=>simp[Lib.intOf];omega
  ·have hpn:Hid (Pl.hd [] F=p):=show _=_ from Pl.hd_done p _ F k (by omega) hp.out
   clear hp
   have hbk:=hown.back (P:=Tryz.prog) 22 9 Tryz.underlying22 Tryz.underlying5 Tryz.underlying9
   go_wp2
   go_ret
   rw[hpn.out]
   exact⟨rfl,hb⟩
abbrev Fl:=List UInt8 × List UInt8
def txt (l:List UInt8):Value:=.string ⟨l.toArray⟩
def cellsF (F:List Fl):List Value:=F.flatMap fun f=>[txt f.1,txt f.2]
theorem cellsF_len (F:List Fl):(cellsF F).length=F.length*2:=by
 induction F with
 | nil=>rfl
 | cons f r ih=>simp[cellsF,List.flatMap_cons] at ih ⊢;omega
theorem cellsF_app (F G:List Fl):cellsF (F++G)=cellsF F++cellsF G:=by simp[cellsF]
theorem cellsF_get (F:List Fl)(j:Nat)(h:j<F.length):(cellsF F)[j*2]?=some (txt F[j].1)∧(cellsF F)[j*2+1]?=some (txt F[j].2):=by
 induction F generalizing j with
 | nil=>simp at h
 | cons f r ih=>
  cases j with
  | zero=>simp[cellsF]
  | succ j=>
   have:=ih j (by simpa using h)
   rw[show(j+1)*2=j*2+1+1 by omega]
   simpa [cellsF] using this
def OwnF (B:Nat)(v:Value)(F:List Fl)(w:World):Prop:=w.ownsRow B 38 2 v F.length (cellsF F)
theorem OwnF.nil (B:Nat)(w:World):OwnF B (.slice none 0 0) [] w:=World.ownsRow_nil _ _ _ _
theorem OwnF.made (B:Nat)(w:World)(h:B≤w.heap.size):OwnF B (.slice (some ⟨w.heap.size,0,none⟩) 0 0) [] (w.alloc (.cells #[] 38)):=
 World.ownsRow_made w #[] 0 h (by unfold maxLen;omega) rfl
theorem OwnF.form {B:Nat} {v:Value} {F:List Fl} {w:World} (h:OwnF B v F w):(v=.slice none 0 0∧F=[])∨∃ g cap,v=.slice (some ⟨g,0,none⟩) F.length cap:=by
 rcases h.2 with ⟨rfl,h0⟩|⟨g,cap,cur,rfl,-⟩
 ·exact .inl ⟨rfl,List.length_eq_zero_iff.1 h0⟩
 ·exact .inr ⟨g,cap,rfl⟩
theorem OwnF.beside {B:Nat} {v:Value} {F:List Fl} {w:World} (h:OwnF B v F w) {fv:Nat} {cs:Array Value} {t:TypeId} {z:Nat × Nat} (ht:t≠38)(hf:w.heap[fv]?=some (.cells cs t z)):v.ownBlock≠some fv:=by
 intro e
 rcases h.2 with ⟨rfl,-⟩|⟨g,cap,cur,rfl,-,hg,-⟩
 ·cases e
 ·cases e
  rw[hf] at hg
  simp only[Option.some.injEq,Obj.cells.injEq] at hg
  exact ht hg.2.1
theorem wp_appF {P:Program} {W w:World} {ops:Array Oper} {rest:List Oper} {o:Oper} {a:Act} {Q:Exit→Act→World→Prop} (hgd:o.guard=none)(s x:Operand)(t:TypeId)
  (ho:o.op=.call { callee:=.builtin .append,args:=#[s,x],argTypes:=#[t,t] })
  (i:TypeInfo) (ht:P.underlying t=some (.slice 38)) (hi:P.info? 38=some i) (hz:i.zero=some (.agg #[.string ⟨#[]⟩,.string ⟨#[]⟩])) (hsize:i.size=2) (hby:i.bytes=32)
  (B:Nat) (v:Value) (F:List Fl) (hs:a.eval s=v) (hown:OwnF B v F w) (f:Fl) (cs:Array Value) (hcs:cs=#[txt f.1,txt f.2])
  (c:Nat) (hx:a.eval x=.slice (some ⟨w.heap.size,0,none⟩) 1 c) (hlen:F.length≤1000000) (hB:B≤W.heap.size) (hb:Below B W w)
  (fv:Nat) (ob:Array Value) (tv:TypeId) (z:Nat × Nat) (htv:tv≠38) (hfv:w.heap[fv]?=some (.cells ob tv z))
  (h:∀v' w',OwnF B v' (F ++ [f]) w'→Below B W w'→w'.heap[fv]?=some (.cells ob tv z)→wpList P ops Q rest (a.put o.dst v') w'):wpList P ops Q (o::rest) a (w.alloc (.cells cs 38)):=by
 subst hcs
 have hsz:=hb.size
 have hlt:fv<w.heap.size:=by
  by_cases h:fv<w.heap.size
  ·exact h
  ·rw[Array.getElem?_eq_none (by omega)] at hfv;cases hfv
 refine wpList_append_own _ hgd s x t ho B 38 i _ 2 32 ht hi hz hsize hby rfl (by decide) v F.length (cellsF F) hs (hown.alloc _) ⟨w.heap.size,0,none⟩ 1 c [txt f.1,txt f.2] hx
  rfl ?_ ?_ (by unfold maxLen;omega) (by omega) (by simp;omega) ?_
 ·intro j u hj
  rw[add_off]
  match j,hj with
  | 0,hj=>simp at hj;subst hj;simp
  | 1,hj=>simp at hj;subst hj;simp
 ·intro u hu
  simp at hu
  rcases hu with rfl|rfl<;>rfl
 ·intro v' w' h1 h2 _
  refine h v' w' ?_ ?_ ?_
  ·unfold OwnF
   rw[cellsF_app,List.length_append]
   exact h1
  ·exact(hb.alloc (by omega) _).grown h2 (by simp;omega) (fun k hk=>(World.ownsRow.lt hown k hk).1)
  ·exact grown_beside h2 ((Below.heap_alloc w _ fv hlt).trans hfv) (hown.beside htv hfv)
end Go.Proofs.YtacaoiedcfelcaaGreatDoor
