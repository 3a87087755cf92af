import Derived.Test.YtacaoiedcfelcaaGreatDoorSpecAddrs
import Derived.Test.YtacaoiedcfelcaaGreatDoorOwnF
set_option maxRecDepth 20000
namespace Go.Proofs.YtacaoiedcfelcaaGreatDoor
open Go.RowKit Go.Lib Go.Maps
def fdCells (F:List Fd):List Value:=F.flatMap fun f=>[.string f.1,.string f.2]
theorem fdCells_join (F G:List Fd):fdCells (F++G)=fdCells F++fdCells G:=by simp[fdCells]
theorem fdCells_at (F:List Fd):∀(i:Nat)(h:i<F.length),(fdCells F)[i*2]?=some (.string F[i].1)∧(fdCells F)[i*2+1]?=some (.string F[i].2):=by
 induction F with
 | nil=>intro i h;exact absurd h (Nat.not_lt_zero _)
 | cons r t ih=>
  intro i h
  have e:fdCells (r::t)=.string r.1 :: .string r.2::fdCells t:=rfl
  rw[e]
  cases i with
  | zero=>exact⟨rfl,rfl⟩
  | succ i=>
   have:=ih i (by simpa using h)
   rw[show(i+1)*2=i*2+1+1 by omega]
   simpa using this
def OwnFd (B:Nat)(v:Value)(F:List Fd)(w:World):Prop:=w.ownsRow B 38 2 v F.length (fdCells F)
theorem OwnFd.made (B:Nat)(w:World)(hB:B≤w.heap.size):OwnFd B (.slice (some ⟨w.heap.size,0,none⟩) 0 0) [] (w.alloc (.cells #[] 38)):=
 ⟨rfl,.inr ⟨w.heap.size,0,#[],rfl,hB,hp_alloc _ _,Nat.le_refl _,Nat.zero_le _,rfl,rfl⟩⟩
theorem OwnFd.shape {B:Nat} {v:Value} {F:List Fd} {w:World} (h:OwnFd B v F w):∃o c,v=.slice o F.length c:=by
 rcases h.2 with ⟨hv,h0⟩|⟨g,cap,cur,hv,_⟩
 ·exact⟨none,0,by rw[hv,h0]⟩
 ·exact⟨_,_,hv⟩
theorem OwnFd.gr {B g:Nat} {v:Value} {F:List Fd} {w w':World} (h:OwnFd B v F w)(hg:w.grownBy w' (some g))(hB:g<B):OwnFd B v F w':=row_same h (Same.gr hg hB (Nat.le_refl _))
theorem OwnFd.below {B:Nat} {v:Value} {F:List Fd} {w w':World} (h:OwnFd B v F w)(hb:Below w.heap.size w w'):OwnFd B v F w':=row_same h (Same.of_below hb (Nat.le_refl _))
theorem OwnFd.fld {B:Nat} {o:Option Addr} {cap:Nat} {F:List Fd} {w:World} (h:OwnFd B (.slice o F.length cap) F w):Fld w.heap.size w o F:=by
 intro i hi
 have hl:=World.ownsRow.lt h
 rcases h.2 with ⟨h1,h0⟩|⟨g,cap',cur,h1,hB,-⟩
 ·omega
 ·simp only[Value.slice.injEq] at h1
  obtain⟨rfl,-⟩:=h1
  have d0:=World.ownsRow.cells h (g:=g) rfl (i*2) _ (fdCells_at F i hi).1
  have d1:=World.ownsRow.cells h (g:=g) rfl (i*2+1) _ (fdCells_at F i hi).2
  have e:∀q,((⟨g,0,none⟩:Addr).add q)=⟨g,q,none⟩:=fun q=>by rw[Addr.add_lit,Nat.zero_add]
  rw[e] at d0 d1
  exact⟨⟨g,0,none⟩,rfl,(hl g rfl).2,by rw[e];exact d0,by rw[e];exact d1⟩
theorem Tryz.infoFd:(Tryz.prog.info? 38).map (fun i=>(i.zero,i.size,i.bytes))=some (some (.agg #[.string ⟨#[]⟩,.string ⟨#[]⟩]),2,32):=by kernel_rfl
theorem fd_one (R:List Fd):∀u ∈ fdCells R,u.oneCell'=true:=by
 intro u hu
 simp only[fdCells,List.mem_flatMap] at hu
 obtain⟨m,_,hm⟩:=hu
 simp at hm
 rcases hm with rfl|rfl<;>rfl
theorem fd_cells {w V:World} {n v:ByteArray} (hV:w.alloc (.cells #[.string n,.string v] 38)=V):∀j u,(fdCells [(n,v)])[j]?=some u→V.cell? ((⟨w.heap.size,0,none⟩:Addr).add j)=some u:=by
 intro j u hj
 have n2:V.heap[w.heap.size]?=some (.cells #[.string n,.string v] 38 (0,0)):=by rw[← hV];exact hp_alloc _ _
 rw[Addr.add_lit,Nat.zero_add]
 match j,hj with
 | 0,hj=>cases hj;simp[World.cell?,n2]
 | 1,hj=>cases hj;simp[World.cell?,n2]
theorem wp_appFd {w:World} {ops:Array Oper} {rest:List Oper} {o:Oper} {a:Act} {Q:Exit→Act→World→Prop} (hgd:o.guard=none)(s x:Operand)
  (ho:o.op=.call { callee:=.builtin .append,args:=#[s,x],argTypes:=#[39,39] })
  (B:Nat) (v:Value) (C:List Fd) (hs:a.eval s=v) (hown:OwnFd B v C w) (n t:ByteArray)
  (c:Nat) (hx:a.eval x=.slice (some ⟨w.heap.size,0,none⟩) 1 c) (hlen:C.length≤1000) (hB:B≤w.heap.size)
  (h:∀v' w',OwnFd B v' (C ++ [(n,t)]) w'→(w.alloc (.cells #[.string n,.string t] 38)).grownBy w' v.ownBlock→wpList Tryz.prog ops Q rest (a.put o.dst v') w'):wpList Tryz.prog ops Q (o::rest) a (w.alloc (.cells #[.string n,.string t] 38)):=by
 obtain⟨i0,hi0,hz0,hz1,hz2⟩:=info_parts Tryz.infoFd
 unfold OwnFd at hown
 refine wpList_append_own _ hgd s x 39 ho B 38 i0 _ 2 32 Tryz.underlying39 hi0 hz0 hz1 hz2 rfl (by decide) v C.length (fdCells C) hs (World.ownsRow.alloc hown _) ⟨w.heap.size,0,none⟩ 1 c (fdCells [(n,t)]) hx
  rfl (fd_cells rfl) (fd_one _) (by unfold maxLen;omega) (by omega) (by simp;omega) ?_
 intro v' w' h1 h2 _
 refine h v' w' ?_ h2
 unfold OwnFd
 rw[fdCells_join,List.length_append]
 exact h1
theorem opAppFd {w:World} {o:Oper} {a:Act} {K:Act→World→Prop} {Q:Exit→Act→World→Prop} (s x:Operand)
  (ho:o.op=.call { callee:=.builtin .append,args:=#[s,x],argTypes:=#[39,39] })
  (B:Nat) (v:Value) (C:List Fd) (hs:a.eval s=v) (hown:OwnFd B v C w) (n t:ByteArray) (b c:Nat) (hx:a.eval x=.slice (some ⟨b,0,none⟩) 1 c) (hb:w.heap[b]?=some (.cells #[.string n,.string t] 38 (0,0))) (hlen:C.length≤1000) (hB:B≤w.heap.size)
  (h:∀v' w',OwnFd B v' (C ++ [(n,t)]) w'→w.grownBy w' v.ownBlock→K (a.put o.dst v') w'):o.wp Tryz.prog a w K Q:=by
 obtain⟨i0,hi0,hz0,hz1,hz2⟩:=info_parts Tryz.infoFd
 unfold OwnFd at hown
 obtain⟨v',w',hr,h2,h3,h4,h5⟩:=run_append_own_at (P:=Tryz.prog) w B 39 o.type 38 i0 _ 2 32 Tryz.underlying39 hi0 hz0 hz1 hz2 rfl (by decide) v C.length (fdCells C) hown ⟨b,0,none⟩ 1 c (fdCells [(n,t)]) rfl (by
  intro j u hj
  rw[Addr.add_lit,Nat.zero_add]
  match j,hj with
  | 0,hj=>cases hj;simp[World.cell?,hb]
  | 1,hj=>cases hj;simp[World.cell?,hb]) (fd_one _) (by unfold maxLen;omega) (by omega) hB
 unfold Oper.wp execOp
 simp only[ho,resolve,invoke,builtin,Sem.run_bind,Sem.run_pure,Result.andThen_ok,List.map_toArray,List.map_cons,List.map_nil,hs,hx,hr]
 refine h v' w' ?_ h3
 unfold OwnFd
 rw[fdCells_join,List.length_append]
 exact h2
def OwnQ (B:Nat)(v:Value)(F:List Fd)(w:World):Prop:=w.ownsRow B 180 2 v F.length (fdCells F)
theorem OwnQ.nil (B:Nat)(w:World):OwnQ B (.slice none 0 0) [] w:=World.ownsRow_nil w B _ 2
theorem OwnQ.shape {B:Nat} {v:Value} {F:List Fd} {w:World} (h:OwnQ B v F w):∃o c,v=.slice o F.length c:=by
 rcases h.2 with ⟨hv,h0⟩|⟨g,cap,cur,hv,_⟩
 ·exact⟨none,0,by rw[hv,h0]⟩
 ·exact⟨_,_,hv⟩
theorem OwnQ.base {B B':Nat} {v:Value} {F:List Fd} {w:World} (h:OwnQ B v F w)(hB:B'≤B):OwnQ B' v F w:=by
 refine⟨h.1,?_⟩
 rcases h.2 with h0|⟨g,cap,cur,hv,hg,hr⟩
 ·exact .inl h0
 ·exact .inr ⟨g,cap,cur,hv,Nat.le_trans hB hg,hr⟩
theorem OwnQ.same {B:Nat} {v:Value} {F:List Fd} {w w':World} (h:OwnQ B v F w)(hs:Same B w.heap.size w w'):OwnQ B v F w':=row_same h hs
theorem OwnQ.below {B:Nat} {v:Value} {F:List Fd} {w w':World} (h:OwnQ B v F w)(hb:Below w.heap.size w w'):OwnQ B v F w':=h.same (Same.of_below hb (Nat.le_refl _))
theorem OwnQ.gr {B g:Nat} {v:Value} {F:List Fd} {w w':World} (h:OwnQ B v F w)(hg:w.grownBy w' (some g))(hB:g<B):OwnQ B v F w':=h.same (Same.gr hg hB (Nat.le_refl _))
theorem OwnQ.cellsAt {B:Nat} {oo:Option Addr} {cc:Nat} {F:List Fd} {w:World} (h:OwnQ B (.slice oo F.length cc) F w)(hn:0<F.length):∃gL,gL<w.heap.size∧oo=some ⟨gL,0,none⟩∧∀j (hj:j<F.length),w.cell? ⟨gL,j*2,none⟩=some (.string F[j].1)∧w.cell? ⟨gL,j*2+1,none⟩=some (.string F[j].2):=by
 rcases h.2 with ⟨h1,h0⟩|⟨g,cap',cur,h1,-⟩
 ·omega
 ·simp only[Value.slice.injEq] at h1
  obtain⟨rfl,-⟩:=h1
  have hl:=World.ownsRow.lt h g rfl
  refine⟨g,hl.2,rfl,fun j hj=>?_⟩
  have k:=fun q u hu=>World.ownsRow.cells h (g:=g) rfl q u hu
  have e:∀q,((⟨g,0,none⟩:Addr).add q)=⟨g,q,none⟩:=fun q=>by rw[Addr.add_lit,Nat.zero_add]
  obtain⟨k0,k1⟩:=fdCells_at F j hj
  have a0:=k _ _ k0
  have a1:=k _ _ k1
  rw[e] at a0 a1
  exact⟨a0,a1⟩
theorem Tryz.infoQ:(Tryz.prog.info? 180).map (fun i=>(i.zero,i.size,i.bytes))=some (some (.agg #[.string ⟨#[]⟩,.string ⟨#[]⟩]),2,32):=by kernel_rfl
theorem wp_appQ {w:World} {ops:Array Oper} {rest:List Oper} {o:Oper} {a:Act} {Q:Exit→Act→World→Prop} (hgd:o.guard=none)(s x:Operand)
  (ho:o.op=.call { callee:=.builtin .append,args:=#[s,x],argTypes:=#[139,139] })
  (B:Nat) (v:Value) (C:List Fd) (hs:a.eval s=v) (hown:OwnQ B v C w) (n t:ByteArray) (ad:Addr) (c:Nat) (hx:a.eval x=.slice (some ad) 1 c)
  (hR:∀j u,(fdCells [(n,t)])[j]?=some u→w.cell? (ad.add j)=some u) (hlen:C.length≤1000) (hB:B≤w.heap.size)
  (h:∀v' w',OwnQ B v' (C ++ [(n,t)]) w'→w.grownBy w' v.ownBlock→wpList Tryz.prog ops Q rest (a.put o.dst v') w'):wpList Tryz.prog ops Q (o::rest) a w:=by
 obtain⟨i0,hi0,hz0,hz1,hz2⟩:=info_parts Tryz.infoQ
 unfold OwnQ at hown
 refine wpList_append_own _ hgd s x 139 ho B 180 i0 _ 2 32 Tryz.underlying139 hi0 hz0 hz1 hz2 rfl (by decide) v C.length (fdCells C) hs hown ad 1 c (fdCells [(n,t)]) hx
  rfl hR (fd_one _) (by unfold maxLen;omega) (by omega) hB ?_
 intro v' w' h1 h2 _
 refine h v' w' ?_ h2
 unfold OwnQ
 rw[fdCells_join,List.length_append]
 exact h1
structure Md where
 dep:Nat
 ty:ByteArray
 su:ByteArray
 P:List Fd
 cd:Nat
 da:ByteArray
def Md.ok (e:Md):Prop:=e.dep≤3∧e.ty.size≤100∧e.su.size≤100∧e.P.length≤10∧(∀f ∈ e.P,f.1.size≤9∧f.2.size≤160)∧e.cd≤2∧e.da.size≤1000
abbrev MdE:=Md × Value
def mdC (e:MdE):List Value:=[.int .i64 e.1.dep,.string e.1.ty,.string e.1.su,e.2,.int .i64 e.1.cd,.string e.1.da]
def mdCells (E:List MdE):List Value:=E.flatMap mdC
theorem mdCells_join (L R:List MdE):mdCells (L++R)=mdCells L++mdCells R:=by simp[mdCells]
theorem mdCells_at (E:List MdE):∀(i:Nat)(h:i<E.length),(mdCells E)[i*6]?=some (.int .i64 E[i].1.dep)∧(mdCells E)[i*6+1]?=some (.string E[i].1.ty)∧(mdCells E)[i*6+2]?=some (.string E[i].1.su)∧(mdCells E)[i*6+3]?=some E[i].2∧(mdCells E)[i*6+4]?=some (.int .i64 E[i].1.cd)∧(mdCells E)[i*6+5]?=some (.string E[i].1.da):=by
 induction E with
 | nil=>intro i h;exact absurd h (Nat.not_lt_zero _)
 | cons r t ih=>
  intro i h
  have e:mdCells (r::t)=.int .i64 r.1.dep :: .string r.1.ty :: .string r.1.su::r.2 :: .int .i64 r.1.cd :: .string r.1.da::mdCells t:=rfl
  rw[e]
  cases i with
  | zero=>exact⟨rfl,rfl,rfl,rfl,rfl,rfl⟩
  | succ i=>
   have:=ih i (by simpa using h)
   rw[show(i+1)*6=i*6+1+1+1+1+1+1 by omega]
   simpa using this
structure Mds (B:Nat)(v:Value)(E:List MdE)(w:World):Prop where
 row:w.ownsRow B 143 6 v E.length (mdCells E)
 own:∀e ∈ E,OwnQ B e.2 e.1.P w
theorem Mds.made (B:Nat)(w:World)(hB:B≤w.heap.size):Mds B (.slice (some ⟨w.heap.size,0,none⟩) 0 0) [] (w.alloc (.cells #[] 143)):=
 ⟨⟨rfl,.inr ⟨w.heap.size,0,#[],rfl,hB,hp_alloc _ _,Nat.le_refl _,Nat.zero_le _,rfl,rfl⟩⟩,fun _ h=>by simp at h⟩
theorem Mds.shape {B:Nat} {v:Value} {F:List MdE} {w:World} (h:Mds B v F w):∃o c,v=.slice o F.length c:=by
 rcases h.row.2 with ⟨hv,h0⟩|⟨g,cap,cur,hv,_⟩
 ·exact⟨none,0,by rw[hv,h0]⟩
 ·exact⟨_,_,hv⟩
theorem Mds.same {B:Nat} {v:Value} {E:List MdE} {w w':World} (h:Mds B v E w)(hs:Same B w.heap.size w w'):Mds B v E w':=
 ⟨row_same h.row hs,fun e he=>(h.own e he).same hs⟩
theorem Mds.below {B:Nat} {v:Value} {E:List MdE} {w w':World} (h:Mds B v E w)(hb:Below w.heap.size w w'):Mds B v E w':=h.same (Same.of_below hb (Nat.le_refl _))
theorem Mds.gr {B g:Nat} {v:Value} {E:List MdE} {w w':World} (h:Mds B v E w)(hg:w.grownBy w' (some g))(hB:g<B):Mds B v E w':=h.same (Same.gr hg hB (Nat.le_refl _))
theorem Mds.cellsAt {B:Nat} {oo:Option Addr} {cc:Nat} {F:List MdE} {w:World} (h:Mds B (.slice oo F.length cc) F w)(hn:0<F.length):∃gL,gL<w.heap.size∧oo=some ⟨gL,0,none⟩∧∀j (hj:j<F.length),w.cell? ⟨gL,j*6,none⟩=some (.int .i64 F[j].1.dep)∧w.cell? ⟨gL,j*6+1,none⟩=some (.string F[j].1.ty)∧w.cell? ⟨gL,j*6+2,none⟩=some (.string F[j].1.su)∧w.cell? ⟨gL,j*6+3,none⟩=some F[j].2∧w.cell? ⟨gL,j*6+4,none⟩=some (.int .i64 F[j].1.cd)∧w.cell? ⟨gL,j*6+5,none⟩=some (.string F[j].1.da):=by
 rcases h.row.2 with ⟨h1,h0⟩|⟨g,cap',cur,h1,-⟩
 ·omega
 ·simp only[Value.slice.injEq] at h1
  obtain⟨rfl,-⟩:=h1
  have hl:=World.ownsRow.lt h.row g rfl
  refine⟨g,hl.2,rfl,fun j hj=>?_⟩
  have k:=fun q u hu=>World.ownsRow.cells h.row (g:=g) rfl q u hu
  have e:∀q,((⟨g,0,none⟩:Addr).add q)=⟨g,q,none⟩:=fun q=>by rw[Addr.add_lit,Nat.zero_add]
  obtain⟨k0,k1,k2,k3,k4,k5⟩:=mdCells_at F j hj
  have a0:=k _ _ k0
  have a1:=k _ _ k1
  have a2:=k _ _ k2
  have a3:=k _ _ k3
  have a4:=k _ _ k4
  have a5:=k _ _ k5
  rw[e] at a0 a1 a2 a3 a4 a5
  exact⟨a0,a1,a2,a3,a4,a5⟩
theorem Tryz.infoMd:(Tryz.prog.info? 143).map (fun i=>(i.zero,i.size,i.bytes))=some (some (.agg #[.int .i64 0,.string ⟨#[]⟩,.string ⟨#[]⟩,.slice none 0 0,.int .i64 0,.string ⟨#[]⟩]),6,88):=by kernel_rfl
end Go.Proofs.YtacaoiedcfelcaaGreatDoor
