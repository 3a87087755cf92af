import Derived.Test.YtkcajnjledldnaaGreatDoorGenSignKey
import Derived.Test.YtkcajnjledldnaaGreatDoorTk
import Derived.Test.YtkcajnjledldnaaGreatDoorGenBase
import Derived.OrdersHeld
import Derived.Deep.OwnRows
import Derived.Laws.IdiomStrings
import Derived.Lib.UnsafeStr
import Derived.WalkSmall
import Derived.Test.YtkcajnjledldnaaGreatDoorGenQueueConfig
import Derived.Maps.Own
import Derived.Maps.OwnSet
import Derived.Maps.Views
import Derived.StringKeys
import Derived.Lib.SplitLaws
import Derived.Laws.OwnMore
set_option maxRecDepth 20000
set_option maxHeartbeats 4000000
namespace Go.Proofs.YtkcajnjledldnaaGreatDoor
open Go.RowKit Go.Lib Go.Maps
namespace Wf
def vis (F:List GWorldUser):List GAccessUser:=F.map fun u=>⟨u.name,u.password,u.readOnly⟩
theorem vis_len (F:List GWorldUser):(vis F).length=F.length:=by simp[vis]
theorem vis_step (F:List GWorldUser)(k:Nat)(h:k<F.length):vis (F.take (k+1))=vis (F.take k) ++ [⟨F[k].name,F[k].password,F[k].readOnly⟩]:=by
 unfold vis
 rw[List.take_succ_eq_append_getElem h,List.map_append]
 rfl
end Wf
def auCells (L:List GAccessUser):List Value:=L.flatMap fun u=>[.string u.name,.string u.password,.bool u.readOnly]
theorem auCells_join (L R:List GAccessUser):auCells (L++R)=auCells L++auCells R:=by simp[auCells]
theorem auCells_at (E:List GAccessUser):∀(i:Nat)(h:i<E.length),(auCells E)[i*3]?=some (.string E[i].name)∧(auCells E)[i*3+1]?=some (.string E[i].password)∧(auCells E)[i*3+2]?=some (.bool E[i].readOnly):=by
 induction E with
 | nil=>intro i h;exact absurd h (Nat.not_lt_zero _)
 | cons r t ih=>
  intro i h
  have e:auCells (r::t)=.string r.name :: .string r.password :: .bool r.readOnly::auCells t:=rfl
  rw[e]
  cases i with
  | zero=>exact⟨rfl,rfl,rfl⟩
  | succ i=>
   have:=ih i (by simpa using h)
   rw[show(i+1)*3=i*3+1+1+1 by omega]
   simpa using this
def OwnAu (B:Nat)(v:Value)(F:List GAccessUser)(w:World):Prop:=w.ownsRow B 97 3 v F.length (auCells F)
theorem OwnAu.nil (B:Nat)(w:World):OwnAu B (.slice none 0 0) [] w:=World.ownsRow_nil w B _ 3
theorem OwnAu.made (B:Nat)(w:World)(hB:B≤w.heap.size):OwnAu B (.slice (some ⟨w.heap.size,0,none⟩) 0 0) [] (w.alloc (.cells #[] 97)):=
 ⟨rfl,.inr ⟨w.heap.size,0,#[],rfl,hB,heap_alloc_at _ _,Nat.le_refl _,Nat.zero_le _,rfl,rfl⟩⟩
theorem OwnAu.shape {B:Nat} {v:Value} {F:List GAccessUser} {w:World} (h:OwnAu B v F w):∃o c,v=.slice o F.length c:=by
 rcases h.2 with ⟨hv,h0⟩|⟨g,cap,cur,hv,_⟩
 ·exact⟨none,0,by rw[hv,h0]⟩
 ·exact⟨_,_,hv⟩
theorem OwnAu.below {B:Nat} {v:Value} {P:List GAccessUser} {w w':World} (h:OwnAu B v P w)(hb:Below w.heap.size w w'):OwnAu B v P w':=World.ownsRow.kept h (row:=none) ⟨hb.os,hb.tape,hb.output,hb.size,fun k hk _=>hb.block k hk⟩ (by
 cases hv:v.ownBlock with
 | none=>exact .inl rfl
 | some k=>exact .inr (by simp))
theorem OwnAu.usersL {B:Nat} {o:Option Addr} {c:Nat} {F:List GAccessUser} {w:World} (h:OwnAu B (.slice o F.length c) F w):GAccessUsersL 0 w.heap.size w o F:=by
 intro i hi
 rcases h.2 with ⟨hv,h0⟩|⟨g,cap,cur,hv,-⟩
 ·omega
 ·simp only[Value.slice.injEq] at hv
  obtain⟨rfl,-⟩:=hv
  have hl:=World.ownsRow.lt h g rfl
  have k:=fun q u hu=>World.ownsRow.cells h (g:=g) rfl q u hu
  obtain⟨k0,k1,k2⟩:=auCells_at F i hi
  have a0:=k _ _ k0
  have a1:=k _ _ k1
  have a2:=k _ _ k2
  have e:∀q,((⟨g,0,none⟩:Addr).add q)=⟨g,q,none⟩:=fun q=>by rw[Addr.add_lit,Nat.zero_add]
  rw[e] at a0 a1 a2
  refine⟨⟨g,0,none⟩,rfl,Nat.zero_le _,hl.2,?_⟩
  rw[e]
  exact⟨a0,a1,a2⟩
theorem Tryz.infoAu:(Tryz.prog.info? 97).map (fun i=>(i.zero,i.size,i.bytes))=some (some (.agg #[.string ⟨#[]⟩,.string ⟨#[]⟩,.bool false]),3,40):=by kernel_rfl
theorem wp_appAu {w:World} {ops:Array Oper} {rest:List Oper} {o:Oper} {a:Act} {Q:Exit→Act→World→Prop} (hgd:o.guard=none)(s x:Operand)
  (ho:o.op=.call { callee:=.builtin .append,args:=#[s,x],argTypes:=#[61,61] })
  (B:Nat) (v:Value) (C:List GAccessUser) (hs:a.eval s=v) (hown:OwnAu B v C w) (u:GAccessUser)
  (c:Nat) (hx:a.eval x=.slice (some ⟨w.heap.size,0,none⟩) 1 c) (hlen:C.length≤1048576) (hB:B≤w.heap.size)
  (h:∀v' w',OwnAu B v' (C ++ [u]) w'→Below B w w'→wpList Tryz.prog ops Q rest (a.put o.dst v') w'):wpList Tryz.prog ops Q (o::rest) a (w.alloc (.cells #[.string u.name,.string u.password,.bool u.readOnly] 97)):=by
 obtain⟨i0,hi0,hz0,hz1,hz2⟩:=info_parts Tryz.infoAu
 refine wpList_append_own _ hgd s x 61 ho B 97 i0 _ 3 40 Tryz.underlying61 hi0 hz0 hz1 hz2 rfl (by decide) v C.length (auCells C) hs (World.ownsRow.alloc hown _) ⟨w.heap.size,0,none⟩ 1 c [.string u.name,.string u.password,.bool u.readOnly] hx
  rfl ?_ ?_ (by unfold maxLen;omega) (by omega) (by simp;omega) ?_
 ·intro j y hj
  rw[add_off]
  match j,hj with
  | 0,hj=>simp at hj;subst hj;simp
  | 1,hj=>simp at hj;subst hj;simp
  | 2,hj=>simp at hj;subst hj;simp
 ·intro y hy
  simp at hy
  rcases hy with rfl|rfl|rfl<;>rfl
 ·intro v' w' h1 h2 _
  refine h v' w' ?_ ?_
  ·unfold OwnAu
   rw[auCells_join,List.length_append]
   exact h1
  ·exact((Below.refl w.heap.size w).mono hB |>.alloc hB _).grown h2 (by simp;omega) (fun k hk=>(World.ownsRow.lt hown k hk).1)
set_option maxRecDepth 40000 in
theorem implVisitors (o:Option Addr)(F:List GWorldUser)(cap lo:Nat)(w:World)(hF:GWorldUsersL lo w.heap.size w o F)(hl:F.length≤1048576) :
  Calls Tryz.prog 63 #[.slice o F.length cap] w fun e w'=>∃ v,e=.returned v∧OwnAu w.heap.size v (Wf.vis F) w'∧Below w.heap.size w w':=by
 have HF:=mkHid hF
 clear hF
 go_enter Tryz.func63,Tryz.ntmps63
 go_wp2
 go_loopw [3,8] (fun v i wr=>∃ k:Nat,i=.int .i64 k∧k≤F.length∧Hid (OwnAu w.heap.size v (Wf.vis (F.take k)) wr)∧Hid (Below w.heap.size w wr)) (fun _ i _=>F.length-(Lib.intOf i).toNat)
 case atStart=>exact⟨0,rfl,Nat.zero_le _,OwnAu.nil _ _,Below.refl _ _⟩
 case round=>
  obtain⟨k,rfl,hk,HO,HB⟩:=hrel
  by_cases hlt:k<F.length
  ·obtain⟨a,rfl,ha1,ha2,hA⟩:=(HF.out.same (Same.of_below HB.out (Nat.le_refl _))) k hlt
   have HS:=mkHid (Wf.vis_step F k hlt)
   obtain⟨c0,c1,c2,c3⟩:=hA
   generalize F[k]=u at *
   have hsz:=HB.out.size
   obtain⟨ov,cv,rfl⟩:=HO.out.shape
   have hkl:(Wf.vis (F.take k)).length=k:=by rw[Wf.vis_len,List.length_take];omega
   obtain⟨R,hR⟩:∃R,R=Wf.vis (F.take k):=⟨_,rfl⟩
   rw[← hR] at HO HS hkl ⊢
   have HR:=mkHid hR
   obtain⟨W1,hW1⟩:∃V,V=wr.alloc (.cells #[.string u.name,.string u.password,.bool u.readOnly,.string u.filter] 66):=⟨_,rfl⟩
   have b1:Below wr.heap.size wr W1:=by rw[hW1];exact(Below.refl _ _).alloc (Nat.le_refl _) _
   have HO1:=mkHid (HO.out.below b1)
   have hs1:w.heap.size≤W1.heap.size:=Nat.le_trans hsz b1.size
   have HB1:=mkHid (HB.out.trans (b1.mono hsz))
   have HW1:=mkHid hW1
   clear hR hW1 b1
   go_wp2_with (at_builtin;go_must (refine wp_appAu (w:=wr.alloc (.cells #[.string u.name,.string u.password,.bool u.readOnly,.string u.filter] 66)) rfl _ _ rfl w.heap.size (.slice ov R.length cv) R rfl (by rw[← HW1.out];exact HO1.out) ⟨u.name,u.password,u.readOnly⟩ 1 (by show Value.slice (some ⟨wr.heap.size+1,0,none⟩) 1 1=_;simp) (by omega) (by rw[← HW1.out];exact hs1) ?_;intro v' w' hO' hB';refine Hid.out ?_))
   rw[HW1.out] at HB1
   have HO2:Hid (OwnAu w.heap.size v' (R ++ [⟨u.name,u.password,u.readOnly⟩]) w'):=hO'
   have HB2:Hid (Below w.heap.size w w'):=by
    have h1:=HB1.out.trans hB'
    exact h1
   clear hO' hB' HO1 HB1 HO HB
   refine mkHid ?_
   go_wp2
   go_roundw
   case rel=>exact⟨k+1,by go_num,by omega,by rw[HS.out];exact HO2,HB2⟩
   case measure=>simp[Lib.intOf];omega
  ·have hke:k=F.length:=by omega
   subst hke
   rw[List.take_length] at HO
   go_wp2
   go_ret
   exact⟨_,rfl,HO.out,HB.out⟩
theorem opAppAu {w:World} {o:Oper} {a:Act} {K:Act→World→Prop} {Q:Exit→Act→World→Prop} (s x:Operand)
  (ho:o.op=.call { callee:=.builtin .append,args:=#[s,x],argTypes:=#[61,61] })
  (B:Nat) (v:Value) (C:List GAccessUser) (hs:a.eval s=v) (hown:OwnAu B v C w) (u:GAccessUser) (g c:Nat) (hx:a.eval x=.slice (some ⟨g,0,none⟩) 1 c) (hnew:w.heap[g]?=some (.cells #[.string u.name,.string u.password,.bool u.readOnly] 97 (0,0))) (hlen:C.length≤1000000) (hB:B≤w.heap.size)
  (h:∀v' w',OwnAu B v' (C ++ [u]) w'→w.grownBy w' v.ownBlock→K (a.put o.dst v') w'):o.wp Tryz.prog a w K Q:=by
 obtain⟨i0,hi0,hz0,hz1,hz2⟩:=info_parts Tryz.infoAu
 unfold OwnAu at hown
 obtain⟨v',w',hr,h2,h3,h4,h5⟩:=run_append_own_at (P:=Tryz.prog) w B 61 o.type 97 i0 (.agg #[.string ⟨#[]⟩,.string ⟨#[]⟩,.bool false]) 3 40 Tryz.underlying61 hi0 hz0 hz1 hz2 rfl (by decide) v C.length (auCells C) hown ⟨g,0,none⟩ 1 c [.string u.name,.string u.password,.bool u.readOnly] rfl (by
  intro j y hj
  match j,hj with
  | 0,hj=>simp at hj;subst hj;simp[Addr.add,World.cell?,hnew]
  | 1,hj=>simp at hj;subst hj;simp[Addr.add,World.cell?,hnew]
  | 2,hj=>simp at hj;subst hj;simp[Addr.add,World.cell?,hnew]) (by
  intro y hy
  simp at hy
  rcases hy with rfl|rfl|rfl<;>rfl) (by unfold maxLen;omega) (by omega) hB
 unfold Oper.wp execOp
 simp only[ho,resolve,invoke,builtin,Sem.run_bind,Sem.run_pure,Result.andThen_ok,List.map_toArray,List.map_cons,List.map_nil,hs,hx,hr]
 refine h v' w' ?_ h3
 unfold OwnAu
 rw[auCells_join,List.length_append]
 exact h2
set_option maxRecDepth 40000 in
theorem specVisitors (o:Option Addr)(F:List GWorldUser)(cap lo:Nat)(w:World)(hF:GWorldUsersL lo w.heap.size w o F) :
  Calls Tryz.prog 16 #[.slice o F.length cap] w fun e w'=>∃ v,e=.returned v∧OwnAu w.heap.size v (Wf.vis (F.take 21)) w'∧Below w.heap.size w w':=by
 have HF:=mkHid hF
 clear hF
 go_enter Tryz.func16,Tryz.ntmps16
 go_wp2
 have O0:=mkHid (OwnAu.made w.heap.size w (Nat.le_refl _))
 have B0:=mkHid ((Below.refl w.heap.size w).alloc (Nat.le_refl _) (.cells #[] 97))
 go_loopw [3,4] (fun v i wr=>∃ k:Nat,i=.int .i64 k∧k≤F.length∧k≤21∧Hid (OwnAu w.heap.size v (Wf.vis (F.take k)) wr)∧Hid (Below w.heap.size w wr)) (fun _ i _=>F.length-(Lib.intOf i).toNat)
 case atStart=>exact⟨0,rfl,Nat.zero_le _,by omega,O0,B0⟩
 case round=>
  clear O0 B0
  obtain⟨k,rfl,hk,hk21,HO,HB⟩:=hrel
  by_cases hlt:k<F.length∧k≤20
  ·obtain⟨hlt,hk20⟩:=hlt
   obtain⟨a,rfl,ha1,ha2,hA⟩:=HF.out k hlt
   have HS:=mkHid (Wf.vis_step F k hlt)
   obtain⟨d0,d1,d2,-⟩:=hA
   generalize F[k]=u at *
   have hab:(a.add (k*4)).block<w.heap.size:=by rw[add_blockG];exact ha2
   have c0:∀W,Below w.heap.size w W→W.cell? (a.add (k*4))=some (.string u.name):=fun W s0=>(s0.cell hab).trans d0
   have c1:∀W,Below w.heap.size w W→W.cell? ⟨(a.add (k*4)).block,(a.add (k*4)).off+1,none⟩=some (.string u.password):=fun W s0=>(s0.cell (p:=⟨(a.add (k*4)).block,(a.add (k*4)).off+1,none⟩) hab).trans d1
   have c2:∀W,Below w.heap.size w W→W.cell? ⟨(a.add (k*4)).block,(a.add (k*4)).off+2,none⟩=some (.bool u.readOnly):=fun W s0=>(s0.cell (p:=⟨(a.add (k*4)).block,(a.add (k*4)).off+2,none⟩) hab).trans d2
   have hsz:=HB.out.size
   obtain⟨ov,cv,rfl⟩:=HO.out.shape
   have hkl:(Wf.vis (F.take k)).length=k:=by rw[Wf.vis_len,List.length_take];omega
   obtain⟨R,hR⟩:∃R,R=Wf.vis (F.take k):=⟨_,rfl⟩
   rw[← hR] at HO HS hkl ⊢
   have HR:=mkHid hR
   have hlt':(k:Int)<(F.length:Int):=by omega
   have hk20':(k:Int)≤20:=by omega
   clear hR d0 d1 d2
   have C0:=mkHid c0
   have C1:=mkHid c1
   have C2:=mkHid c2
   clear c0 c1 c2
   go_wp2
   have hS:Below w.heap.size w wr.drew:=HB.out.drew
   have HO1:=mkHid (HO.out.below (Below.refl _ _).drew)
   refine wp_region_held (S:=fun W=>Below w.heap.size w W) (by kernel_rfl) ?_
   refine tk 0 (.slice ov R.length cv) hS ?_ ?_
   ·intro W s0
    go_simp
   go_simp
   refine tk 1 (.slice (some a) F.length cap) hS ?_ ?_
   ·intro W s0
    go_simp
   go_simp
   refine tk 2 (.int .i64 k) hS ?_ ?_
   ·intro W s0
    go_simp
   go_simp
   refine tk 3 (.pointer (some (a.add (k*4)))) hS ?_ ?_
   ·intro W s0
    go_simp
   go_simp
   refine tk 4 (.pointer (some (a.add (k*4)))) hS ?_ ?_
   ·intro W s0
    go_simp
   go_simp
   refine tk 5 (.string u.name) hS ?_ ?_
   ·intro W s0
    have x0:=C0.out W s0
    go_simp
   go_simp
   refine tk 6 (.slice (some a) F.length cap) hS ?_ ?_
   ·intro W s0
    go_simp
   go_simp
   refine tk 7 (.int .i64 k) hS ?_ ?_
   ·intro W s0
    go_simp
   go_simp
   refine tk 8 (.pointer (some (a.add (k*4)))) hS ?_ ?_
   ·intro W s0
    go_simp
   go_simp
   refine tk 9 (.pointer (some ⟨(a.add (k*4)).block,(a.add (k*4)).off+1,none⟩)) hS ?_ ?_
   ·intro W s0
    go_simp
   go_simp
   refine tk 10 (.string u.password) hS ?_ ?_
   ·intro W s0
    have x0:=C1.out W s0
    go_simp
   go_simp
   refine tk 11 (.slice (some a) F.length cap) hS ?_ ?_
   ·intro W s0
    go_simp
   go_simp
   refine tk 12 (.int .i64 k) hS ?_ ?_
   ·intro W s0
    go_simp
   go_simp
   refine tk 13 (.pointer (some (a.add (k*4)))) hS ?_ ?_
   ·intro W s0
    go_simp
   go_simp
   refine tk 14 (.pointer (some ⟨(a.add (k*4)).block,(a.add (k*4)).off+2,none⟩)) hS ?_ ?_
   ·intro W s0
    go_simp
   go_simp
   refine tk 15 (.bool u.readOnly) hS ?_ ?_
   ·intro W s0
    have x0:=C2.out W s0
    go_simp
   go_simp
   refine tk 16 (.agg #[.string u.name,.string u.password,.bool u.readOnly]) hS ?_ ?_
   ·intro W s0
    go_simp
   go_simp
   refine wpAnyH_all (rs:=[17]) (by kernel_rfl) (by simp) ?_
   intro j hj
   simp only[List.mem_cons,List.not_mem_nil,or_false] at hj
   subst hj
   refine wpOp_step rfl (fun K hK=>?_)
   go_simp
   have hnew:(wr.drew.alloc (.cells #[.string u.name,.string u.password,.bool u.readOnly] 97)).heap[wr.drew.heap.size]?=some (.cells #[.string u.name,.string u.password,.bool u.readOnly] 97 (0,0)):=heap_alloc_at _ _
   have HO2:=mkHid (HO1.out.below ((Below.refl wr.drew.heap.size wr.drew).alloc (Nat.le_refl _) (.cells #[.string u.name,.string u.password,.bool u.readOnly] 97)))
   have hS2:Below w.heap.size w (wr.drew.alloc (.cells #[.string u.name,.string u.password,.bool u.readOnly] 97)):=hS.alloc hS.size _
   refine hK _ _ ⟨hS2,?_⟩
   clear hK K
   go_simp
   refine wpAnyH_all (rs:=[18]) (by kernel_rfl) (by simp) ?_
   intro j hj
   simp only[List.mem_cons,List.not_mem_nil,or_false] at hj
   subst hj
   refine wpOp_step rfl (fun K hK=>?_)
   refine opAppAu _ _ rfl w.heap.size (.slice ov R.length cv) R (by rw[hkl];rfl) HO2.out ⟨u.name,u.password,u.readOnly⟩ wr.drew.heap.size 1 rfl hnew (by omega) hS2.size ?_
   intro v' w' hO' hG'
   have hS3:Below w.heap.size w w':=hS2.grown hG' hS2.size (fun q hq=>(World.ownsRow.lt HO2.out q hq).1)
   refine hK _ _ ⟨hS3,?_⟩
   clear hK K
   go_simp
   refine tk 19 v' hS3 ?_ ?_
   ·intro W s0
    go_simp
   go_simp
   refine wpAnyH_done (by kernel_rfl) ?_ _
   have HO3:Hid (OwnAu w.heap.size v' (R ++ [⟨u.name,u.password,u.readOnly⟩]) w'):=hO'
   have HS3:=mkHid hS3
   clear hO' hG' hS3 HO2 hS2 hnew HO1 hS HO HB
   go_wp2
   go_roundw
   case rel=>exact⟨k+1,by go_num,by omega,by omega,by rw[HS.out];exact HO3,HS3⟩
   case measure=>simp[Lib.intOf];omega
  ·have hT:F.take k=F.take 21:=by
    rcases (show k=F.length∨k=21 by omega) with h|h
    ·rw[List.take_of_length_le (by omega),List.take_of_length_le (by omega)]
    ·rw[h]
   rw[hT] at HO
   have HT:=mkHid hT
   clear hT
   by_cases hke:k<F.length
   ·have h1:(k:Int)<(F.length:Int):=by omega
    have h2:¬(k:Int)≤20:=by omega
    go_wp2
    go_ret
    exact⟨_,rfl,HO.out,HB.out⟩
   ·have h1:¬(k:Int)<(F.length:Int):=by omega
    go_wp2
    go_ret
    exact⟨_,rfl,HO.out,HB.out⟩
open Go.RowKit Go.Lib
theorem mkH {p:Prop} (h:p):Hid p:=h
def small (c:UInt8):UInt8:=if 65≤c.toNat∧c.toNat≤90 then UInt8.ofNat (c.toNat+32) else c
def lower (l:List UInt8):List UInt8:=l.map small
theorem small_yes (c:UInt8)(h:65≤c.toNat∧c.toNat≤90):((small c).toNat:Int)=(c.toNat:Int)+32:=by
 unfold small
 rw[if_pos h,UInt8.toNat_ofNat_of_lt' (by simp[UInt8.size];omega)]
 omega
theorem small_no (c:UInt8)(h:¬(65≤c.toNat∧c.toNat≤90)):small c=c:=by
 unfold small
 rw[if_neg h]
def lowTo (l:List UInt8)(k:Nat):List UInt8:=lower (l.take k)++l.drop k
theorem lowTo_len (l:List UInt8)(k:Nat):(lowTo l k).length=l.length:=by
 simp only[lowTo,lower,List.length_append,List.length_map,List.length_take,List.length_drop];omega
theorem lowTo_zero (l:List UInt8):lowTo l 0=l:=by simp[lowTo,lower]
theorem lowTo_all (l:List UInt8)(k:Nat)(h:l.length≤k):lowTo l k=lower l:=by
 rw[lowTo,List.take_of_length_le h,List.drop_eq_nil_of_le h,List.append_nil]
theorem lowTo_get (l:List UInt8)(k:Nat)(h:k<l.length):(lowTo l k)[k]'(by rw[lowTo_len];exact h)=l[k]:=by
 simp only[lowTo,lower]
 rw[List.getElem_append_right (by simp;omega)]
 simp[List.length_take,Nat.min_eq_left (Nat.le_of_lt h)]
theorem lowTo_set (l:List UInt8)(k:Nat)(h:k<l.length):(lowTo l k).set k (small l[k])=lowTo l (k+1):=by
 have e1:l.take (k+1)=l.take k ++ [l[k]]:=by rw[List.take_succ_eq_append_getElem h]
 have hl:(lower (l.take k)).length=k:=by simp[lower];omega
 rw[lowTo,List.set_append,if_neg (by omega),hl,Nat.sub_self,List.drop_eq_getElem_cons h,List.set_cons_zero,lowTo,e1,lower,lower,List.map_append,List.append_assoc]
 rfl
theorem lowTo_same (l:List UInt8)(k:Nat)(h:k<l.length)(hs:small l[k]=l[k]):lowTo l k=lowTo l (k+1):=by
 rw[← lowTo_set l k h,hs,← lowTo_get l k h,List.set_getElem_self]
def HoldsB (g:Nat)(p:List UInt8)(w:World):Prop:=∀(j:Nat)(hj:j<p.length),w.cell? ⟨g,j,none⟩=some (.int .u8 (p[j].toNat:Int))∧w.frozen? ⟨g,j,none⟩=false
theorem HoldsB.back {P:Program} {g cap:Nat} {p:List UInt8} {w:World} (h:HoldsB g p w)(src dst:TypeId)(hs:P.underlying src=some (.slice 5))(he:P.underlying 5=some (.int .u8))(hd:P.underlying dst=some .string) :
  (convert src dst (.slice (some ⟨g,0,none⟩) p.length cap)).run P w=.ok (.string ⟨p.toArray⟩) w:=
 run_convert_bytes_back w src dst 5 ⟨g,0,none⟩ cap p hs he hd (fun j hj=>by rw[add_off];exact(h j hj).1)
theorem bytesOf {P:Program} (src dst:TypeId)(hs:P.underlying src=some .string)(hd:P.underlying dst=some (.slice 5))(he:P.underlying 5=some (.int .u8))(s:ByteArray)(w:World) :
  ∃ cap W,(convert src dst (.string s)).run P w=.ok (.slice (some ⟨w.heap.size,0,none⟩) s.size cap) W∧HoldsB w.heap.size s.data.toList W∧Below w.heap.size w W:=by
 refine⟨_,_,run_bytes_of_string w src dst 5 s hs hd he,?_,(Below.refl _ _).drew.alloc (Nat.le_refl _) _⟩
 intro j hj
 have hj':j<s.data.size:=by simpa using hj
 have hsz:j<(bytesRow s (grownCap w s.size 0 5)).size:=by
  simp only[bytesRow,Array.size_append,Array.size_map];omega
 constructor
 ·have e:=World.cell?_alloc_mark w.drew (bytesRow s (grownCap w s.size 0 5)) 5 ((bytesRow s (grownCap w s.size 0 5)).size,(bytesRow s (grownCap w s.size 0 5)).size+1) j
  refine e.trans ?_
  unfold bytesRow
  rw[Array.getElem?_append_left (by simpa using hj')]
  rw[Array.getElem?_map,Array.getElem?_eq_getElem hj']
  rfl
 ·have e:=World.frozen?_alloc_mark w.drew (bytesRow s (grownCap w s.size 0 5)) 5 (bytesRow s (grownCap w s.size 0 5)).size ((bytesRow s (grownCap w s.size 0 5)).size+1) j
  refine e.trans ?_
  simp only[Bool.and_eq_false_imp,decide_eq_true_eq,decide_eq_false_iff_not]
  omega
theorem HoldsB.set {g:Nat} {p:List UInt8} {w:World} (h:HoldsB g p w)(k:Nat)(hk:k<p.length)(c:UInt8):HoldsB g (p.set k c) (w.setCell ⟨g,k,none⟩ (.int .u8 (c.toNat:Int))):=by
 intro j hj
 have hj':j<p.length:=by simpa using hj
 refine⟨?_,by rw[World.frozen?_setCell];exact(h j hj').2⟩
 by_cases e:k=j
 ·subst e
  rw[World.cell?_setCell_same w _ _ (h k hk).1,List.getElem_set_self]
 ·rw[World.cell?_setCell_other w ⟨g,k,none⟩ ⟨g,j,none⟩ _ (by simp),List.getElem_set_ne e]
  exact(h j hj').1
theorem implLoweredB (s:ByteArray)(w:World)(hs:s.size≤4000000) :
  Calls Tryz.prog 64 #[.string s] w fun e w'=>e=.returned (.string ⟨(lower s.data.toList).toArray⟩)∧Below w.heap.size w w':=by
 obtain⟨cap,W,hcv,hh,hbW⟩:=bytesOf (P:=Tryz.prog) 9 100 Tryz.underlying9 Tryz.underlying100 Tryz.underlying5 s w
 go_enter Tryz.func64,Tryz.ntmps64
 go_wp2
 clear hcv
 go_loopw [10] (fun i wr=>∃ k:Nat,k≤s.size∧i=.int .i64 k∧HoldsB w.heap.size (lowTo s.data.toList k) wr∧Below w.heap.size w wr) (fun i _=>s.size-(Lib.intOf i).toNat)
 case atStart=>exact⟨0,by omega,rfl,by rw[lowTo_zero];exact hh,hbW⟩
 case round=>
  obtain⟨k,hk,rfl,hold,hb⟩:=hrel
  have hll:s.data.toList.length=s.size:=by simp
  by_cases hlt:k<s.size
  ·obtain⟨hc,hf⟩:=hold k (by rw[lowTo_len];omega)
   rw[lowTo_get _ _ (by omega)] at hc
   have hset:=lowTo_set s.data.toList k (by omega)
   have hsame:=lowTo_same s.data.toList k (by omega)
   have hst:=fun c=>hold.set k (by rw[lowTo_len];omega) c
   generalize s.data.toList[k]=c at hc hset hsame
   have h8:c.toNat<256:=UInt8.toNat_lt _
   by_cases hc1:65≤c.toNat∧c.toNat≤90
   ·have hv:=small_yes c hc1
    have hst':=mkH (hst (small c))
    rw[hset,hv] at hst'
    obtain⟨h65,h90⟩:=hc1
    clear hset hsame hst hold hv hll
    have hb':=hb.setCell (p:=⟨w.heap.size,k,none⟩) (Nat.le_refl _) (.int .u8 ((c.toNat:Int)+32))
    have hb'':=mkH hb'
    clear hb'
    go_wp2
    rw[show(c.toNat:Int)-65+97=(c.toNat:Int)+32 by omega]
    go_roundw
    case rel=>exact⟨k+1,by omega,by go_num,hst'.out,hb''.out⟩
    case measure=>simp[Lib.intOf];omega
   ·have hv:=mkH (hsame (small_no c hc1))
    clear hset hsame hst hll
    by_cases h65:65≤c.toNat
    ·have h90:90<c.toNat:=by omega
     clear hc1
     go_wp2
     go_roundw
     case rel=>exact⟨k+1,by omega,by go_num,by rw[← hv.out];exact hold,hb⟩
     case measure=>simp[Lib.intOf];omega
    ·clear hc1
     go_wp2
     go_roundw
     case rel=>exact⟨k+1,by omega,by go_num,by rw[← hv.out];exact hold,hb⟩
     case measure=>simp[Lib.intOf];omega
  ·rw[lowTo_all _ _ (by omega)] at hold
   have hlen:(lower s.data.toList).length=s.size:=by simp[lower]
   have hbk:=hold.back (P:=Tryz.prog) (cap:=cap) 100 9 Tryz.underlying100 Tryz.underlying5 Tryz.underlying9
   rw[hlen] at hbk
   clear hlen hll hold
   go_wp2
   go_ret
   exact⟨rfl,hb⟩
theorem implLowered (s:ByteArray)(w:World)(hs:s.size≤100000) :
  Calls Tryz.prog 64 #[.string s] w fun e w'=>e=.returned (.string ⟨(lower s.data.toList).toArray⟩)∧Below w.heap.size w w':=implLoweredB s w (by omega)
theorem specSmall (c:UInt8)(w:World) :
  Calls Tryz.prog 47 #[.int .u8 (c.toNat:Int)] w fun e w'=>e=.returned (.int .u8 ((small c).toNat:Int))∧w=w':=by
 have h8:c.toNat<256:=UInt8.toNat_lt _
 by_cases hc:65≤c.toNat∧c.toNat≤90
 ·rw[small_yes c hc]
  obtain⟨h65,h90⟩:=hc
  go_enter Tryz.func47,Tryz.ntmps47
  go_wp2
  go_ret
  exact⟨rfl,rfl⟩
 ·rw[small_no c hc]
  by_cases h65:65≤c.toNat
  ·have h90:90<c.toNat:=by omega
   clear hc
   go_enter Tryz.func47,Tryz.ntmps47
   go_wp2
   go_ret
   exact⟨rfl,rfl⟩
  ·clear hc
   go_enter Tryz.func47,Tryz.ntmps47
   go_wp2
   go_ret
   exact⟨rfl,rfl⟩
theorem specLower (s:ByteArray)(w:World)(hs:s.size≤100000) :
  Calls Tryz.prog 18 #[.string s] w fun e w'=>e=.returned (.string ⟨(lower s.data.toList).toArray⟩)∧Below w.heap.size w w':=by
 obtain⟨i0,hi,hz0,hz1,hz2⟩:=info_parts Tryz.info5
 go_enter Tryz.func18,Tryz.ntmps18
 go_wp2
 go_loopw [3,4] (fun v i wr=>∃ k:Nat,k≤s.size∧i=.int .i64 k∧Own w.heap.size v (lower (s.data.toList.take k)) wr∧Below w.heap.size w wr) (fun _ i _=>s.size-(Lib.intOf i).toNat)
 case atStart=>exact⟨0,Nat.zero_le _,rfl,Own.made _ _ (Nat.le_refl _),(Below.refl _ _).alloc (Nat.le_refl _) _⟩
 case round=>
  obtain⟨k,hk,rfl,hown,hb⟩:=hrel
  by_cases hlt:k<s.size
  ·have hll:s.data.toList.length=s.size:=by simp
   have hlen:(lower (s.data.toList.take k)).length=k:=by simp only[lower,List.length_map,List.length_take];omega
   have hstep:Hid (lower (s.data.toList.take k) ++ [small s[k]]=lower (s.data.toList.take (k+1))):=by
    rw[List.take_succ_eq_append_getElem (by omega),lower,lower,List.map_append];exact rfl
   have h8:(small s[k]).toNat<256:=UInt8.toNat_lt _
   generalize lower (s.data.toList.take k)=p at *
   clear hll
   go_wp2_with fail
   refine(specSmall s[k] _).mono ?_
   rintro e w2 ⟨rfl,rfl⟩
   generalize small s[k]=c at *
   go_wp2_with (at_builtin;go_must (refine wp_app (W:=w) rfl _ _ 100 rfl i0 Tryz.underlying100 hi hz0 hz1 hz2 w.heap.size u3 p rfl hown _ [c] rfl 1 1 rfl rfl (by simp;omega) (Nat.le_refl _) hb ?_;intro v' w' hown' hb'))
   go_roundw
   case rel=>exact⟨k+1,by omega,by go_num,by rw[← hstep.out];exact hown',hb'⟩
   case measure=>simp[Lib.intOf];omega
  ·rw[List.take_of_length_le (by simp;omega)] at hown
   have hbk:=hown.back (P:=Tryz.prog) 100 9 Tryz.underlying100 Tryz.underlying5 Tryz.underlying9
   go_wp2
   go_ret
   exact⟨rfl,hb⟩
namespace Ex
def same (x y:ByteArray):Bool:=x.data.toList==y.data.toList
theorem same_iff (x y:ByteArray):same x y=true↔x=y:=by
 unfold same
 rw[beq_iff_eq]
 constructor
 ·intro h
  exact ByteArray.ext (Array.toList_inj.1 h)
 ·rintro rfl
  rfl
def isIn (l:List ByteArray)(k:ByteArray):Bool:=l.any fun x=>same x k
theorem isIn_app (l:List ByteArray)(k z:ByteArray):isIn (l ++ [k]) z=(isIn l z || same k z):=by
 unfold isIn
 rw[List.any_append]
 simp
end Ex
structure SetT (w:World)(m n:Nat)(L:List ByteArray):Prop where
 own:∃D:DataW Unit,w.ownsMap Tryz.prog 9 unitElem m n D∧(∀z:ByteArray,has D (.string z.data.toList)=Ex.isIn L z)∧Maps.size D=L.length
theorem lawTxt:Keyed Tryz.prog 9:=string_keyed Tryz.underlying9
theorem SetT.made (w:World):SetT (w.alloc (.map #[] 0)) w.heap.size 0 []:=
 ⟨_,World.ownsMap_made (H:=Unit) w Tryz.prog 9 unitElem,fun _=>rfl,rfl⟩
theorem SetT.kept {w w':World} {m n:Nat} {L:List ByteArray} {row:Option Nat} (h:SetT w m n L)(hg:w.grownBy w' row)(hne:some m≠row):SetT w' m n L:=by
 obtain⟨D,hD,hat⟩:=h.own
 exact⟨D,hD.kept hg hne,hat⟩
theorem SetT.below {w w':World} {m n:Nat} {L:List ByteArray} (h:SetT w m n L)(hb:Below w.heap.size w w'):SetT w' m n L:=
 h.kept (row:=none) ⟨hb.os,hb.tape,hb.output,hb.size,fun k hk _=>hb.block k hk⟩ (by simp)
theorem SetT.nocell {w:World} {m n:Nat} {L:List ByteArray} (h:SetT w m n L) {p:Addr} {v:Value} (hp:w.cell? p=some v):p.block≠m:=by
 obtain⟨D,⟨es,clock,hb,_⟩,_⟩:=h.own
 intro e
 simp[World.cell?,e,hb] at hp
theorem key_ne {x z:ByteArray} (h:Ex.same x z=false):(Lit.string z.data.toList) ≠ .string x.data.toList:=by
 intro e
 injection e with e
 rw[Ex.same,e] at h
 simp at h
theorem implHasT (m n:Nat)(L:List ByteArray)(z:ByteArray)(w:World)(h:SetT w m n L)(hz:z.size≤1048576) :
  Calls Tryz.prog 65 #[.map (some m),.string z] w fun e w'=>e=.returned (.bool (Ex.isIn L z))∧Below w.heap.size w w':=by
 obtain⟨D,hD,hat,-⟩:=h.own
 have hk:=Go.WideMaps.keyOf_string_mk (P:=Tryz.prog) (k:=9) Tryz.underlying9 (show z.size≤maxLen by unfold maxLen;omega)
 have hzv:(zeroValue 164).run Tryz.prog w=.ok (.agg #[]) w:=by kernel_rfl
 have hS:=hat z
 generalize Ex.isIn L z=b at *
 clear hat
 go_enter Tryz.func65,Tryz.ntmps65
 go_wp2_with (first|(at_lookup;refine wpList_lookup_own_unit _ rfl _ _ 124 rfl 9 164 lawTxt Tryz.underlying124 hzv m n D rfl hD _ _ rfl hk ?_;rw[hS])|go_in)
 go_ret
 exact⟨rfl,(Below.refl _ _).alloc (Nat.le_refl _) _⟩
theorem implAddT (m n b c:Nat)(L:List ByteArray)(k:ByteArray)(w:World)(h:SetT w m n L)(hc:w.cell? ⟨b,0,none⟩=some (.string k))(hk1:k.size≤1048576)(hno:Ex.isIn L k=false)(hn:n≤100000) :
  Calls Tryz.prog 67 #[.map (some m),.slice (some ⟨b,0,none⟩) 1 c] w fun e w'=>e=.returned (.tuple #[])∧Hid (SetT w' m (n+1) (L ++ [k]))∧Hid (w.grownBy w' (some m)):=by
 have hnc:=h.nocell hc
 obtain⟨D,hD,hat,hsz⟩:=h.own
 have hk:=Go.WideMaps.keyOf_string_mk (P:=Tryz.prog) (k:=9) Tryz.underlying9 (show k.size≤maxLen by unfold maxLen;omega)
 have hnext:Hid (∀(w':World),w'.ownsMap Tryz.prog 9 unitElem m (n+1) (D.put (.string k.data.toList) (.agg []))→SetT w' m (n+1) (L ++ [k])):=by
  intro w' hw'
  refine⟨_,hw',fun x=>?_,?_⟩
  ·rw[Ex.isIn_app]
   cases e:Ex.same k x
   ·rw[has_put_other (key_ne e),hat x,Bool.or_false]
   ·obtain rfl:=(Ex.same_iff k x).1 e
    rw[has_put_same (k:=.string k.data.toList) hD.isMap trivial,Bool.or_true]
  ·rw[size_put (hD.tidy lawTxt),hat k,hno,hsz,List.length_append]
   rfl
 have HD:=mkHid hD
 clear h hat hsz hD
 go_enter Tryz.func67,Tryz.ntmps67
 go_wp2
 go_loopw [8] (fun iv wr=>(iv=.int .i64 0∧wr=w)∨(iv=.int .i64 1∧Hid (SetT wr m (n+1) (L ++ [k]))∧Hid (w.grownBy wr (some m)))) (fun iv _=>1-(Lib.intOf iv).toNat)
 case atStart=>exact .inl ⟨rfl,rfl⟩
 case round=>
  rcases hrel with ⟨rfl,rfl⟩|⟨rfl,hS,hg⟩
  ·go_wp2_with (first|(at_mapUpdate;refine wpList_mapUpdate_own _ rfl _ _ _ 124 rfl 9 164 lawTxt Tryz.underlying124 _ m n D rfl HD.out (by unfold maxLen;omega) _ _ (.string k.data.toList) rfl rfl hk (.agg []) [] unitElem_mk ?_;intro w1 hown1 hg1;refine Hid.out ?_)|go_in)
   have hS1:=mkHid (hnext.out w1 hown1)
   have hg2:=mkHid hg1
   clear hnext hown1 hg1 HD hk hc
   refine mkHid ?_
   go_wp2
   go_roundw
   case rel=>exact .inr ⟨by go_num,hS1,hg2⟩
   case measure=>simp[Lib.intOf]
  ·clear hnext HD hk hc
   go_wp2
   exact bodyPost_end (v:=.tuple #[]) (results_none Tryz.results67 _ _ _) rfl ⟨rfl,hS,hg⟩
open Go.Lib
namespace Pl
def tb (c:UInt8):Bool:=decide (32≤c.toNat) && !(c==127)
def signs:List UInt8:=[33,35,36,37,38,39,42,43,45,47,61,63,94,95,123,124,125,126,96]
def signs0:List UInt8:=[33,35,36,37,38,39,42,43,45,47,61,63,94,95,123,124,125,126]
def alnum (c:UInt8):Bool:=decide (65≤c.toNat∧c.toNat≤90) || (decide (97≤c.toNat∧c.toNat≤122) || (decide (48≤c.toNat∧c.toNat≤57) || decide (128≤c.toNat)))
def atom (c:UInt8):Bool:=alnum c || decide (0≤indexByte signs c)
def atom' (c:UInt8):Bool:=alnum c || (c==96 || (decide (32<c.toNat) && (decide (c.toNat<127) && decide (0≤indexByte signs0 c))))
theorem atom_all:∀n,n<256→atom (UInt8.ofNat n)=atom' (UInt8.ofNat n):=by decide +kernel
theorem atom_eq (c:UInt8):atom' c=atom c:=by
 have:=atom_all c.toNat (UInt8.toNat_lt c)
 rw[UInt8.ofNat_toNat] at this
 exact this.symm
theorem atom_point:atom 46=false:=by decide +kernel
def scan (d:UInt8):Bool→List UInt8→Bool
 | was,[]=>was
 | was,c::r=>if atom c then scan d true r else if c==d && was then scan d false r else false
def sp (d:UInt8):List UInt8→List (List UInt8)
 | []=>[[]]
 | c::r=>if c=d then []::sp d r else match sp d r with|h::t=>(c::h)::t | []=>[[c]]
def okA (p:List UInt8):Bool:=!p.isEmpty && p.all atom
theorem sp_ne (d:UInt8)(l:List UInt8):∃h t,sp d l=h::t:=by
 cases l with
 | nil=>exact⟨[],[],rfl⟩
 | cons c r=>
  unfold sp
  split
  ·exact⟨_,_,rfl⟩
  ·cases sp d r with
   | nil=>exact⟨_,_,rfl⟩
   | cons h t=>exact⟨_,_,rfl⟩
theorem scan_sp (d:UInt8)(hd:atom d=false):∀(l h:List UInt8)(t:List (List UInt8)),sp d l=h::t→scan d true l=(h.all atom && t.all okA)∧scan d false l=(okA h && t.all okA)
 | [],h,t,e=>by
  simp only[sp,List.cons.injEq] at e
  obtain⟨rfl,rfl⟩:=e
  exact⟨rfl,rfl⟩
 | c::r,h,t,e=>by
  obtain⟨h',t',e'⟩:=sp_ne d r
  obtain⟨i1,i2⟩:=scan_sp d hd r h' t' e'
  by_cases hc:c=d
  ·subst hc
   rw[sp,if_pos rfl,List.cons.injEq] at e
   obtain⟨rfl,rfl⟩:=e
   constructor
   ·rw[scan,if_neg (by rw[hd];simp),if_pos (by simp),i2,e']
    rfl
   ·rw[scan,if_neg (by rw[hd];simp),if_neg (by simp)]
    rfl
  ·rw[sp,if_neg hc,e'] at e
   simp only[List.cons.injEq] at e
   obtain⟨rfl,rfl⟩:=e
   by_cases ha:atom c=true
   ·constructor
    ·rw[scan,if_pos ha,i1,List.all_cons,ha,Bool.true_and]
    ·rw[scan,if_pos ha,i1,okA,List.all_cons,ha,Bool.true_and]
     rfl
   ·rw[Bool.not_eq_true] at ha
    have hn:(c==d)=false:=by simpa using hc
    constructor
    ·rw[scan,if_neg (by rw[ha];simp),hn,List.all_cons,ha]
     rfl
    ·rw[scan,if_neg (by rw[ha];simp),hn,okA,List.all_cons,ha]
     simp
theorem scan_all (d:UInt8)(hd:atom d=false)(l:List UInt8):(sp d l).all okA=scan d false l:=by
 obtain⟨h,t,e⟩:=sp_ne d l
 rw[(scan_sp d hd l h t e).2,e,List.all_cons]
theorem split_sp (d:UInt8):∀l:List UInt8,splitK [d] 0 (count l [d]) l=sp d l
 | []=>by rw[count_miss (by simp[index])];rfl
 | c::r=>by
  have ih:=split_sp d r
  by_cases hc:c=d
  ·subst hc
   have hix:index (c::r) [c]=0:=by rw[index];simp[List.isPrefixOf]
   rw[count_cons_eq,Nat.add_comm,splitK,hix,if_neg (by decide),sp,if_pos rfl,← ih]
   rfl
  ·have hp:([d]:List UInt8).isPrefixOf (c::r)=false:=by simp[List.isPrefixOf,Ne.symm hc]
   have hix:index (c::r) [d]=if index r [d] == -1 then -1 else index r [d]+1:=by rw[index,hp];simp
   rw[count_cons_ne c d r hc,sp,if_neg hc,← ih]
   by_cases hm:index r [d] = -1
   ·rw[count_miss hm]
    rfl
   ·have hge:=index_ge r [d]
    obtain⟨j,hj⟩:∃j:Nat,index r [d]=j:=⟨(index r [d]).toNat,by omega⟩
    have hne:(index r [d] == -1)=false:=by rw[hj];simp
    rw[hne] at hix
    simp only[Bool.false_eq_true,if_false] at hix
    have hne2:(index (c::r) [d] == -1)=false:=by rw[hix,hj];simp;omega
    obtain⟨k,hk⟩:∃k,count r [d]=k+1:=⟨count (r.drop (j+1)) [d],by rw[count_hit (by simp) hj];simp;omega⟩
    rw[hk,splitK,splitK,hne,hne2,hix,hj]
    have e1:((j:Int)+1).toNat=j+1:=by omega
    simp only[Bool.false_eq_true,if_false,e1,Int.toNat_natCast,Nat.add_zero,List.take_succ_cons,List.length_cons,List.length_nil]
    rfl
def qs:List UInt8→List UInt8
 | []=>[]
 | c::r=>if c==34 || c==92 then 92::c::qs r else c::qs r
def phrase (l:List UInt8):List UInt8:=if l.all tb then (if scan 32 false l then l else 34::qs l ++ [34]) else []
end Pl
theorem tb_cases (c:UInt8):c.toNat<32∧Pl.tb c=false∨32≤c.toNat∧((c.toNat:Int)==127)=true∧Pl.tb c=false∨32≤c.toNat∧((c.toNat:Int)==127)=false∧Pl.tb c=true:=by
 by_cases h1:c.toNat<32
 ·exact .inl ⟨h1,by simp[Pl.tb];omega⟩
 ·cases h3:((c.toNat:Int)==127)
  ·refine .inr (.inr ⟨by omega,rfl,?_⟩)
   have:=Pl.byte_ne c 127 _ rfl h3
   simp[Pl.tb,this];omega
  ·refine .inr (.inl ⟨by omega,rfl,?_⟩)
   rw[Pl.byte_eq c 127 _ rfl h3];rfl
theorem implTextByte (c:UInt8)(w:World):Calls Tryz.prog 230 #[.int .u8 (c.toNat:Int)] w fun e w'=>e=.returned (.bool (Pl.tb c))∧w=w':=by
 have h8:c.toNat<256:=UInt8.toNat_lt _
 rcases tb_cases c with ⟨h,hb⟩|⟨h,h1,hb⟩|⟨h,h1,hb⟩<;>rw[hb]<;>clear hb
 ·go_enter Tryz.func230,Tryz.ntmps230
  go_wp2
  go_ret
  exact⟨rfl,rfl⟩
 ·have h3:((c.toNat:Int) != 127)=false:=by rw[bne,h1];rfl
  go_enter Tryz.func230,Tryz.ntmps230
  go_wp2
  go_ret
  exact⟨rfl,rfl⟩
 ·have h3:((c.toNat:Int) != 127)=true:=by rw[bne,h1];rfl
  go_enter Tryz.func230,Tryz.ntmps230
  go_wp2
  go_ret
  exact⟨rfl,rfl⟩
theorem kindText:Kind 230 Pl.tb:=⟨Go.Proofs.enters_of Tryz.func230 (by kernel_rfl) rfl,implTextByte⟩
def Pl.letter (c:UInt8):Bool:=decide (65≤c.toNat∧c.toNat≤90) || decide (97≤c.toNat∧c.toNat≤122)
def Pl.digit (c:UInt8):Bool:=decide (48≤c.toNat∧c.toNat≤57)
theorem range_cases (c:UInt8):(c.toNat<48∧Pl.alnum c=false)∨(48≤c.toNat∧c.toNat≤57∧Pl.alnum c=true)∨(58≤c.toNat∧c.toNat≤64∧Pl.alnum c=false)∨(65≤c.toNat∧c.toNat≤90∧Pl.alnum c=true) ∨
  (91≤c.toNat∧c.toNat≤96∧Pl.alnum c=false)∨(97≤c.toNat∧c.toNat≤122∧Pl.alnum c=true)∨(123≤c.toNat∧c.toNat≤127∧Pl.alnum c=false)∨(128≤c.toNat∧Pl.alnum c=true):=by
 unfold Pl.alnum
 by_cases h1:c.toNat<48
 ·exact .inl ⟨h1,by simp;omega⟩
 by_cases h2:c.toNat≤57
 ·exact .inr (.inl ⟨by omega,h2,by simp;omega⟩)
 by_cases h3:c.toNat≤64
 ·exact .inr (.inr (.inl ⟨by omega,h3,by simp;omega⟩))
 by_cases h4:c.toNat≤90
 ·exact .inr (.inr (.inr (.inl ⟨by omega,h4,by simp;omega⟩)))
 by_cases h5:c.toNat≤96
 ·exact .inr (.inr (.inr (.inr (.inl ⟨by omega,h5,by simp;omega⟩))))
 by_cases h6:c.toNat≤122
 ·exact .inr (.inr (.inr (.inr (.inr (.inl ⟨by omega,h6,by simp;omega⟩)))))
 by_cases h7:c.toNat≤127
 ·exact .inr (.inr (.inr (.inr (.inr (.inr (.inl ⟨by omega,h7,by simp;omega⟩))))))
 ·exact .inr (.inr (.inr (.inr (.inr (.inr (.inr ⟨by omega,by simp;omega⟩))))))
theorem implLetter (c:UInt8)(w:World):Calls Tryz.prog 208 #[.int .u8 (c.toNat:Int)] w fun e w'=>e=.returned (.bool (Pl.letter c))∧w=w':=by
 have h8:c.toNat<256:=UInt8.toNat_lt _
 rcases range_cases c with ⟨h0,ha⟩|⟨h0,h1,ha⟩|⟨h0,h1,ha⟩|⟨h0,h1,ha⟩|⟨h0,h1,ha⟩|⟨h0,h1,ha⟩|⟨h0,h1,ha⟩|⟨h0,ha⟩<;>clear ha
 all_goals
  first|rw[show Pl.letter c=true from by simp[Pl.letter];omega]|rw[show Pl.letter c=false from by simp[Pl.letter];omega]
  go_enter Tryz.func208,Tryz.ntmps208
  go_wp2
  go_ret
  first|exact⟨rfl,rfl⟩|exact⟨congrArg (fun b=>Ending.returned (.bool b)) (by simp;omega),rfl⟩
theorem implDigit (c:UInt8)(w:World):Calls Tryz.prog 154 #[.int .u8 (c.toNat:Int)] w fun e w'=>e=.returned (.bool (Pl.digit c))∧w=w':=by
 have h8:c.toNat<256:=UInt8.toNat_lt _
 by_cases h0:48≤c.toNat
 ·rw[show Pl.digit c=decide ((c.toNat:Int)≤57) from by unfold Pl.digit;by_cases h:c.toNat≤57<;>simp[h]<;>omega]
  go_enter Tryz.func154,Tryz.ntmps154
  go_wp2
  go_ret
  exact⟨rfl,rfl⟩
 ·rw[show Pl.digit c=false from by simp[Pl.digit];omega]
  go_enter Tryz.func154,Tryz.ntmps154
  go_wp2
  go_ret
  exact⟨rfl,rfl⟩
theorem libIndexByte (c:UInt8)(w:World):Calls Tryz.prog 209 #[.string ⟨#[33,35,36,37,38,39,42,43,45,47,61,63,94,95,123,124,125,126,96]⟩,.int .u8 (c.toNat:Int)] w fun e w'=>e=.returned (.int .i64 (indexByte Pl.signs c))∧w=w':=by
 refine(Tryz.strings_IndexByte _ _ w).mono ?_
 rintro e w' ⟨rfl,rfl⟩
 refine⟨?_,rfl⟩
 have:(c.toNat:Int).toNat.toUInt8=c:=by simp
 rw[this]
 rfl
theorem implAtomByte (c:UInt8)(w:World):Calls Tryz.prog 186 #[.int .u8 (c.toNat:Int)] w fun e w'=>e=.returned (.bool (Pl.atom c))∧w=w':=by
 have h8:c.toNat<256:=UInt8.toNat_lt _
 have hx:=fun w=>libIndexByte c w
 have hL:=fun w=>implLetter c w
 have hD:=fun w=>implDigit c w
 unfold Pl.atom
 generalize indexByte Pl.signs c=i at hx
 rcases range_cases c with ⟨h0,ha⟩|⟨h0,h1,ha⟩|⟨h0,h1,ha⟩|⟨h0,h1,ha⟩|⟨h0,h1,ha⟩|⟨h0,h1,ha⟩|⟨h0,h1,ha⟩|⟨h0,ha⟩<;>rw[ha]<;>clear ha<;>(try rw[Bool.false_or])<;>(try rw[Bool.true_or])
 all_goals
  first|simp only[show Pl.letter c=true from by simp[Pl.letter];omega] at hL|simp only[show Pl.letter c=false from by simp[Pl.letter];omega] at hL
  first|simp only[show Pl.digit c=true from by simp[Pl.digit];omega] at hD|simp only[show Pl.digit c=false from by simp[Pl.digit];omega] at hD
  go_enter Tryz.func186,Tryz.ntmps186
  go_wp2_with first|(go_at_call 208;go_must (refine(hL _).mono ?_;rintro e w2 ⟨rfl,rfl⟩))|(go_at_call 154;go_must (refine(hD _).mono ?_;rintro e w2 ⟨rfl,rfl⟩))|(go_at_call 209;go_must (refine(hx _).mono ?_;rintro e w2 ⟨rfl,rfl⟩))
  go_ret
  first|exact⟨rfl,rfl⟩|exact⟨congrArg (fun b=>Ending.returned (.bool b)) (by simp;omega),rfl⟩
theorem kindAtom:Kind 186 Pl.atom:=⟨Go.Proofs.enters_of Tryz.func186 (by kernel_rfl) rfl,implAtomByte⟩
theorem ix_hit (l:List UInt8)(c:UInt8)(k:Nat)(hk:k<l.length)(h:l[k]=c):indexByte (l.drop k) c=0:=by
 rw[Pl.drop_cons l k hk,indexByte,if_pos (by simpa using h)]
theorem ix_miss (l:List UInt8)(c:UInt8)(k:Nat)(hk:k<l.length)(h:l[k]≠c):indexByte (l.drop k) c=if indexByte (l.drop (k+1)) c == -1 then -1 else indexByte (l.drop (k+1)) c+1:=by
 rw[Pl.drop_cons l k hk,indexByte,if_neg (by simpa using h)]
theorem ext_one (s:ByteArray)(k:Nat)(h:k<s.size):s.extract k (k+1)=⟨#[s[k]]⟩:=by
 apply ByteArray.ext
 apply Array.ext'
 rw[Pl.ext_data,Pl.drop_cons _ k (by simpa using h)]
 simp
 rfl
def ixFrom (l:List UInt8)(c:UInt8)(k:Nat):Int:=if indexByte (l.drop k) c == -1 then -1 else indexByte (l.drop k) c+k
theorem ixFrom_hit (l:List UInt8)(c:UInt8)(k:Nat)(hk:k<l.length)(h:l[k]=c):ixFrom l c k=k:=by
 rw[ixFrom,ix_hit l c k hk h];simp
theorem ixFrom_miss (l:List UInt8)(c:UInt8)(k:Nat)(hk:k<l.length)(h:l[k]≠c):ixFrom l c (k+1)=ixFrom l c k:=by
 rw[ixFrom,ixFrom,ix_miss l c k hk h]
 have:=indexByte_ge (l.drop (k+1)) c
 generalize indexByte (l.drop (k+1)) c=i at *
 by_cases hi:i = -1
 ·subst hi;rfl
 ·have h1:(i == -1)=false:=by simpa using hi
  have h2:(i+1 == -1)=false:=by simp;omega
  rw[h1]
  simp only[Bool.false_eq_true,if_false,h2]
  omega
theorem ixFrom_end (l:List UInt8)(c:UInt8)(k:Nat)(hk:l.length≤k):ixFrom l c k = -1:=by
 rw[ixFrom,List.drop_eq_nil_of_le hk];rfl
theorem specIndex1 (s:ByteArray)(c:UInt8)(w:World)(_hs:s.size≤1100000) :
  Calls Tryz.prog 85 #[.string s,.string ⟨#[c]⟩,.int .i64 0] w fun e w'=>e=.returned (.int .i64 (ixFrom s.data.toList c 0))∧w=w':=by
 obtain⟨R,hR⟩:∃R,ixFrom s.data.toList c 0=R:=⟨_,rfl⟩
 rw[hR]
 have HR:=(show Hid (ixFrom s.data.toList c 0=R) from hR)
 clear hR
 have h1:(ByteArray.mk #[c]).size=1:=rfl
 go_enter Tryz.func85,Tryz.ntmps85
 go_wp2
 go_loopw [7] (fun i wr=>∃ k:Nat,k≤s.size∧i=.int .i64 k∧Hid (ixFrom s.data.toList c k=R)∧wr=w) (fun i _=>s.size-(Lib.intOf i).toNat)
 case atStart=>exact⟨0,Nat.zero_le _,rfl,HR,rfl⟩
 case round=>
  clear HR
  obtain⟨k,hk,rfl,hp,rfl⟩:=hrel
  by_cases hlt:k<s.size
  ·have he:=ext_one s k hlt
   by_cases hc:s[k]=c
   ·have hE:Hid (R=k):=show _=_ from by rw[← hp.out,ixFrom_hit s.data.toList c k (by simpa using hlt) hc]
    rw[hc] at he
    clear hp
    go_wp2
    go_ret
    rw[hE.out]
    exact⟨rfl,rfl⟩
   ·have hE:Hid (ixFrom s.data.toList c (k+1)=R):=show _=_ from by rw[← hp.out,ixFrom_miss s.data.toList c k (by simpa using hlt) hc]
    have hcc:(s[k]==c)=false:=by simpa using hc
    clear hp
    go_wp2
    go_roundw
    case rel=>exact⟨k+1,by omega,by go_num,hE,trivial⟩
    case measure=>simp[Lib.intOf];omega
  ·have hE:Hid (R = -1):=show _=_ from by rw[← hp.out,ixFrom_end s.data.toList c k (by simp;omega)]
   clear hp
   go_wp2
   go_ret
   rw[hE.out]
   exact⟨rfl,rfl⟩
theorem ix_zero (l:List UInt8)(c:UInt8):ixFrom l c 0=indexByte l c:=by
 rw[ixFrom,List.drop_zero]
 by_cases h:indexByte l c = -1
 ·rw[h];rfl
 ·have:(indexByte l c == -1)=false:=by simpa using h
  rw[this]
  simp
theorem specSigns (c:UInt8)(w:World):Calls Tryz.prog 85 #[.string ⟨#[33,35,36,37,38,39,42,43,45,47,61,63,94,95,123,124,125,126]⟩,.string ⟨#[c]⟩,.int .i64 0] w fun e w'=>e=.returned (.int .i64 (indexByte Pl.signs0 c))∧w=w':=by
 refine(specIndex1 _ c w (by show 18≤1100000;omega)).mono ?_
 rintro e w' ⟨rfl,rfl⟩
 rw[ix_zero]
 exact⟨rfl,rfl⟩
theorem specAtomByte (c:UInt8)(w:World):Calls Tryz.prog 156 #[.int .u8 (c.toNat:Int)] w fun e w'=>e=.returned (.bool (Pl.atom c))∧Below w.heap.size w w':=by
 have h8:c.toNat<256:=UInt8.toNat_lt _
 have hx:=fun w=>specSigns c w
 have hcv:(convert 100 9 (.slice (some ⟨w.heap.size,0,none⟩) 1 1)).run Tryz.prog (w.alloc (.cells #[.int .u8 (c.toNat:Int)] 5))=.ok (.string ⟨#[c]⟩) (w.alloc (.cells #[.int .u8 (c.toNat:Int)] 5)):=by
  refine run_convert_bytes_back (P:=Tryz.prog) _ 100 9 5 ⟨w.heap.size,0,none⟩ 1 [c] Tryz.underlying100 Tryz.underlying5 Tryz.underlying9 ?_
  intro j hj
  match j,hj with
  | 0,hj=>rw[add_off];simp
 have hbA:Below w.heap.size w (w.alloc (.cells #[.int .u8 (c.toNat:Int)] 5)):=(Below.refl _ _).alloc (Nat.le_refl _) _
 have hb0:Below w.heap.size w w:=Below.refl _ _
 rw[← Pl.atom_eq]
 unfold Pl.atom'
 generalize indexByte Pl.signs0 c=i at hx ⊢
 cases h96:((c.toNat:Int)==96)
 ·have hc96:(c==96)=false:=by simpa using Pl.byte_ne c 96 _ rfl h96
  rw[hc96,Bool.false_or]
  by_cases h32:32<c.toNat
  ·by_cases h127:c.toNat<127
   ·rw[decide_eq_true h32,decide_eq_true h127,Bool.true_and,Bool.true_and]
    rcases range_cases c with ⟨h0,ha⟩|⟨h0,h1,ha⟩|⟨h0,h1,ha⟩|⟨h0,h1,ha⟩|⟨h0,h1,ha⟩|⟨h0,h1,ha⟩|⟨h0,h1,ha⟩|⟨h0,ha⟩<;>rw[ha]<;>clear ha<;>(try (exfalso;omega))<;>(try rw[Bool.false_or])<;>(try rw[Bool.true_or])
    all_goals
     go_enter Tryz.func156,Tryz.ntmps156
     go_wp2_with (go_at_call 85;go_must (refine(hx _).mono ?_;rintro e w2 ⟨rfl,rfl⟩))
     go_ret
     first|exact⟨rfl,hb0⟩|exact⟨rfl,hbA⟩
   ·rw[decide_eq_true h32,decide_eq_false h127,Bool.true_and,Bool.false_and,Bool.or_false]
    rcases range_cases c with ⟨h0,ha⟩|⟨h0,h1,ha⟩|⟨h0,h1,ha⟩|⟨h0,h1,ha⟩|⟨h0,h1,ha⟩|⟨h0,h1,ha⟩|⟨h0,h1,ha⟩|⟨h0,ha⟩<;>rw[ha]<;>clear ha<;>(try (exfalso;omega))
    all_goals
     go_enter Tryz.func156,Tryz.ntmps156
     go_wp2
     go_ret
     exact⟨rfl,hb0⟩
  ·rw[decide_eq_false h32,Bool.false_and,Bool.or_false]
   rcases range_cases c with ⟨h0,ha⟩|⟨h0,h1,ha⟩|⟨h0,h1,ha⟩|⟨h0,h1,ha⟩|⟨h0,h1,ha⟩|⟨h0,h1,ha⟩|⟨h0,h1,ha⟩|⟨h0,ha⟩<;>rw[ha]<;>clear ha<;>(try (exfalso;omega))
   all_goals
    go_enter Tryz.func156,Tryz.ntmps156
    go_wp2
    go_ret
    exact⟨rfl,hb0⟩
 ·have hc96:c=96:=Pl.byte_eq c 96 _ rfl h96
  rw[show(c==96)=true from by rw[hc96];rfl,Bool.true_or,Bool.or_true]
  have hn:c.toNat=96:=by rw[hc96];rfl
  clear hc96
  go_enter Tryz.func156,Tryz.ntmps156
  go_wp2
  go_ret
  exact⟨rfl,hb0⟩
theorem specClean (s:ByteArray)(w:World)(_hs:s.size≤1100000) :
  Calls Tryz.prog 157 #[.string s] w fun e w'=>e=.returned (.bool (s.data.toList.all Pl.tb))∧w=w':=by
 obtain⟨A,hA⟩:∃A,s.data.toList.all Pl.tb=A:=⟨_,rfl⟩
 rw[hA]
 have HA:Hid ((s.data.toList.drop 0).all Pl.tb=A):=hA
 clear hA
 go_enter Tryz.func157,Tryz.ntmps157
 go_wp2
 go_loopw [3] (fun i wr=>∃ k:Nat,k≤s.size∧i=.int .i64 k∧Hid ((s.data.toList.drop k).all Pl.tb=A)∧wr=w) (fun i _=>s.size-(Lib.intOf i).toNat)
 case atStart=>exact⟨0,Nat.zero_le _,rfl,HA,rfl⟩
 case round=>
  clear HA
  obtain⟨k,hk,rfl,hp,rfl⟩:=hrel
  by_cases hlt:k<s.size
  ·have h8:s[k].toNat<256:=UInt8.toNat_lt _
   have hst:Hid ((s.data.toList.drop k).all Pl.tb=(Pl.tb s[k] && (s.data.toList.drop (k+1)).all Pl.tb)):=Pl.all_step Pl.tb s.data.toList k (by simpa using hlt)
   have bad:Pl.tb s[k]=false→Hid (A=false):=by
    intro h
    have:=hst.out
    rw[h,Bool.false_and,hp.out] at this
    exact this
   rcases tb_cases s[k] with ⟨h,hb⟩|⟨h,h1,hb⟩|⟨h,h1,hb⟩
   ·have hB:=bad hb
    clear bad hb hst hp
    go_wp2
    go_ret
    exact⟨by rw[hB.out];rfl,rfl⟩
   ·have hB:=bad hb
    clear bad hb hst hp
    go_wp2
    go_ret
    exact⟨by rw[hB.out];rfl,rfl⟩
   ·have hg:Hid ((s.data.toList.drop (k+1)).all Pl.tb=A):=show _=_ from by
     have:=hst.out
     rw[hb,Bool.true_and,hp.out] at this
     exact this.symm
    clear bad hb hst hp
    go_wp2
    go_roundw
    case rel=>exact⟨k+1,by omega,by go_num,hg,trivial⟩
    case measure=>simp[Lib.intOf];omega
  ·have H0:Hid (A=true):=show _=_ from by rw[← hp.out];exact Pl.all_done Pl.tb _ k (by simp;omega)
   clear hp
   go_wp2
   go_ret
   exact⟨by rw[H0.out];rfl,rfl⟩
theorem scan_atom (d:UInt8)(l:List UInt8)(k:Nat)(b:Bool)(hk:k<l.length)(h:Pl.atom l[k]=true):Pl.scan d b (l.drop k)=Pl.scan d true (l.drop (k+1)):=by
 rw[Pl.drop_cons l k hk,Pl.scan,if_pos h]
theorem scan_blank (d:UInt8)(l:List UInt8)(k:Nat)(hk:k<l.length)(h:Pl.atom l[k]=false)(h2:l[k]=d):Pl.scan d true (l.drop k)=Pl.scan d false (l.drop (k+1)):=by
 rw[Pl.drop_cons l k hk,Pl.scan,if_neg (by rw[h];simp),if_pos (by rw[h2];simp)]
theorem scan_bad (d:UInt8)(l:List UInt8)(k:Nat)(b:Bool)(hk:k<l.length)(h:Pl.atom l[k]=false)(h2:l[k]≠d∨b=false):Pl.scan d b (l.drop k)=false:=by
 rw[Pl.drop_cons l k hk,Pl.scan,if_neg (by rw[h];simp),if_neg]
 rcases h2 with h2|h2
 ·have:(l[k]==d)=false:=by simpa using h2
  rw[this];simp
 ·rw[h2];simp
theorem scan_end (d:UInt8)(l:List UInt8)(k:Nat)(b:Bool)(hk:l.length≤k):Pl.scan d b (l.drop k)=b:=by
 rw[List.drop_eq_nil_of_le hk];rfl
theorem specAtoms (d:UInt8)(n:Int)(hn0:n=(d.toNat:Int))(s:ByteArray)(w:World)(_hs:s.size≤1100000) :
  Calls Tryz.prog 127 #[.string s,.int .u8 n] w fun e w'=>e=.returned (.bool (Pl.scan d false s.data.toList))∧Below w.heap.size w w':=by
 obtain⟨A,hA⟩:∃A,Pl.scan d false s.data.toList=A:=⟨_,rfl⟩
 rw[hA]
 have HA:Hid (Pl.scan d false (s.data.toList.drop 0)=A):=hA
 clear hA
 have Hn0:=(show Hid (n=(d.toNat:Int)) from hn0)
 clear hn0
 go_enter Tryz.func127,Tryz.ntmps127
 go_wp2
 go_loopw [5,6] (fun v i wr=>∃ (k:Nat) (b:Bool),k≤s.size∧i=.int .i64 k∧v=.bool b∧Hid (Pl.scan d b (s.data.toList.drop k)=A)∧Below w.heap.size w wr) (fun _ i _=>s.size-(Lib.intOf i).toNat)
 case atStart=>exact⟨0,false,Nat.zero_le _,rfl,rfl,HA,Below.refl _ _⟩
 case round=>
  clear HA
  obtain⟨k,b,hk,rfl,rfl,hp,hb⟩:=hrel
  by_cases hlt:k<s.size
  ·have h8:s[k].toNat<256:=UInt8.toNat_lt _
   have hll:k<s.data.toList.length:=by simpa using hlt
   have hc:=fun w=>specAtomByte s[k] w
   cases ha:Pl.atom s[k]<;>simp only[ha] at hc
   ·cases h32:((s[k].toNat:Int)==n)
    ·have hB:Hid (A=false):=show _=_ from by rw[← hp.out];exact scan_bad d _ k b hll ha (.inl (Pl.byte_ne _ d _ Hn0.out h32))
     have hn:((s[k].toNat:Int) != n)=true:=by rw[bne,h32];rfl
     clear hp ha
     go_wp2_with (go_at_call 156;go_must (refine(hc _).mono ?_;rintro e w2 ⟨rfl,hb2⟩))
     go_ret
     exact⟨by rw[hB.out];rfl,hb.trans (hb2.mono hb.size)⟩
    ·have hn:((s[k].toNat:Int) != n)=false:=by rw[bne,h32];rfl
     cases b
     ·have hB:Hid (A=false):=show _=_ from by rw[← hp.out];exact scan_bad d _ k false hll ha (.inr rfl)
      clear hp ha
      go_wp2_with (go_at_call 156;go_must (refine(hc _).mono ?_;rintro e w2 ⟨rfl,hb2⟩))
      go_ret
      exact⟨by rw[hB.out];rfl,hb.trans (hb2.mono hb.size)⟩
     ·have hB:Hid (Pl.scan d false (s.data.toList.drop (k+1))=A):=show _=_ from by rw[← hp.out];exact(scan_blank d _ k hll ha (Pl.byte_eq _ d _ Hn0.out h32)).symm
      clear hp ha
      go_wp2_with (go_at_call 156;go_must (refine(hc _).mono ?_;rintro e w2 ⟨rfl,hb2⟩))
      go_roundw
      case rel=>exact⟨k+1,false,by omega,by go_num,rfl,hB,hb.trans (hb2.mono hb.size)⟩
      case measure=>simp[Lib.intOf];omega
   ·have hB:Hid (Pl.scan d true (s.data.toList.drop (k+1))=A):=show _=_ from by rw[← hp.out];exact(scan_atom d _ k b hll ha).symm
    clear hp ha
    go_wp2_with (go_at_call 156;go_must (refine(hc _).mono ?_;rintro e w2 ⟨rfl,hb2⟩))
    go_roundw
    case rel=>exact⟨k+1,true,by omega,by go_num,rfl,hB,hb.trans (hb2.mono hb.size)⟩
    case measure=>simp[Lib.intOf];omega
  ·have H0:Hid (A=b):=show _=_ from by rw[← hp.out];exact scan_end d _ k b (by simp;omega)
   clear hp
   go_wp2
   go_ret
   exact⟨by rw[H0.out];rfl,hb⟩
theorem part_size (sep:ByteArray)(sv:Nat):∀(k:Nat)(s q:ByteArray),q ∈ splitB sep sv k s→q.size≤s.size
 | 0,s,q,h=>by
  rw[splitB_zero,List.mem_singleton] at h
  rw[h];exact Nat.le_refl _
 | k+1,s,q,h=>by
  unfold splitB at h
  split at h
  ·rw[List.mem_singleton] at h
   rw[h];exact Nat.le_refl _
  ·rcases List.mem_cons.1 h with h|h
   ·rw[h,ByteArray.size_extract];omega
   ·have:=part_size sep sv k _ q h
    rw[ByteArray.size_extract] at this
    omega
theorem parts_all (d:UInt8)(hd:Pl.atom d=false)(s:ByteArray):((splitB ⟨#[d]⟩ 0 (countB s ⟨#[d]⟩) s).all fun q=>Pl.okA q.data.toList)=Pl.scan d false s.data.toList:=by
 rw[← Pl.scan_all d hd,← Pl.split_sp]
 have:=splitB_data ⟨#[d]⟩ 0 (countB s ⟨#[d]⟩) s
 rw[show(ByteArray.mk #[d]).data.toList=[d] from rfl] at this
 rw[show count s.data.toList [d]=countB s ⟨#[d]⟩ from rfl,← this,List.all_map]
 rfl
theorem bcell_lt {w:World} {a:Addr} {v:Value} (h:w.cell? a=some v):a.block<w.heap.size:=by
 by_cases hb:a.block<w.heap.size
 ·exact hb
 ·have e:w.heap[a.block]?=none:=Array.getElem?_eq_none (by omega)
  simp[World.cell?,e] at h
theorem implAreAtoms (d:UInt8)(hd:Pl.atom d=false)(s:ByteArray)(m:Int)(w:World)(hs:s.size≤100000)(hm:w.cell? ⟨0,0,none⟩=some (.int .i64 m)) :
  Calls Tryz.prog 162 #[.string s,.string ⟨#[d]⟩] w fun e w'=>e=.returned (.bool (Pl.scan d false s.data.toList))∧Below w.heap.size w w':=by
 have h1:(ByteArray.mk #[d]).size=1:=rfl
 have hsp:=Tryz.strings_Split s ⟨#[d]⟩ m w (by omega) hm (by omega)
 have hln:=splitB_all ⟨#[d]⟩ (by omega) 0 _ s rfl
 have hsz:=part_size ⟨#[d]⟩ 0 (countB s ⟨#[d]⟩) s
 have hcl:=countB_le ⟨#[d]⟩ (by omega) s.size s (Nat.le_refl _)
 rw[← parts_all d hd]
 rw[← hln] at hsp
 generalize hP:splitB ⟨#[d]⟩ 0 (countB s ⟨#[d]⟩) s=parts at hsp hln hsz ⊢
 obtain⟨A,hA⟩:∃A,(parts.all fun q=>Pl.okA q.data.toList)=A:=⟨_,rfl⟩
 rw[hA]
 have HA:Hid (((parts.drop 0).all fun q=>Pl.okA q.data.toList)=A):=hA
 have Hsz:=(show Hid (∀q,q ∈ parts→q.size≤s.size) from fun q hq=>hsz q hq)
 have hn:parts.length≤100001:=by omega
 obtain⟨W1,hW1⟩:∃W1,w.alloc (.cells (parts.map Value.string).toArray 9)=W1:=⟨_,rfl⟩
 have hcell:Hid (∀k (h:k<parts.length),W1.cell? ⟨w.heap.size,k,none⟩=some (.string parts[k])):=show ∀k (h:k<parts.length),_ from by
  intro k h
  rw[← hW1]
  simp[h]
 have hbW:Below w.heap.size w W1:=by rw[← hW1];exact(Below.refl _ _).alloc (Nat.le_refl _) _
 rw[hW1] at hsp
 have hadd:=fun k=>add_off w.heap.size k
 clear hd hA hP hsz hln hcl hm hW1
 go_enter Tryz.func162,Tryz.ntmps162
 go_wp2_with fail
 refine hsp.mono ?_
 rintro e w1 ⟨rfl,rfl⟩
 clear hsp
 go_wp2
 go_loopw [6,11] (fun _ i wr=>∃ k:Nat,k≤parts.length∧i=.int .i64 k∧Hid (((parts.drop k).all fun q=>Pl.okA q.data.toList)=A)∧wr=w1) (fun _ i _=>parts.length-(Lib.intOf i).toNat)
 case atStart=>exact⟨0,Nat.zero_le _,rfl,HA,rfl⟩
 case round=>
  clear HA
  obtain⟨k,hk,rfl,hp,rfl⟩:=hrel
  by_cases hlt:k<parts.length
  ·have hc:=hcell.out k hlt
   have hq:=Hsz.out parts[k] (List.getElem_mem _)
   have hst:Hid (((parts.drop k).all fun q=>Pl.okA q.data.toList)=(Pl.okA parts[k].data.toList && ((parts.drop (k+1)).all fun q=>Pl.okA q.data.toList))):=show _=_ from by
    rw[List.drop_eq_getElem_cons hlt,List.all_cons]
   generalize parts[k]=q at hc hq hst
   have hall:=fun w=>implAllOf kindAtom q w (by omega)
   by_cases h0:q.size=0
   ·have hE:q.toList.isEmpty=true:=by
     rw[ByteArray.toList_eq,List.isEmpty_iff]
     exact List.length_eq_zero_iff.1 (by rw[Pl.len_list];exact h0)
    have hB:Hid (A=false):=show _=_ from by
     rw[← hp.out,hst.out]
     rw[ByteArray.toList_eq] at hE
     simp[Pl.okA,hE]
    clear hp hst
    go_wp2
    go_ret
    exact⟨by rw[hB.out];rfl,hbW⟩
   ·have hE:q.toList.isEmpty=false:=by
     rw[ByteArray.toList_eq,List.isEmpty_eq_false_iff]
     intro e
     exact h0 (by rw[← Pl.len_list,e];rfl)
    cases hall2:q.data.toList.all Pl.atom<;>simp only[hall2] at hall
    ·have hB:Hid (A=false):=show _=_ from by
      rw[← hp.out,hst.out,Pl.okA,hall2,Bool.and_false,Bool.false_and]
     clear hp hst hall2
     go_wp2_with (go_at_call 120;go_must (refine(hall _).mono ?_;rintro e w2 ⟨rfl,rfl⟩))
     go_ret
     exact⟨by rw[hB.out];rfl,hbW⟩
    ·have hB:Hid (((parts.drop (k+1)).all fun q=>Pl.okA q.data.toList)=A):=show _=_ from by
      have:=hst.out
      rw[ByteArray.toList_eq] at hE
      rw[hp.out,Pl.okA,hall2,hE,Bool.not_false,Bool.true_and,Bool.true_and] at this
      exact this.symm
     clear hp hst hall2
     go_wp2_with (go_at_call 120;go_must (refine(hall _).mono ?_;rintro e w2 ⟨rfl,rfl⟩))
     go_roundw
     case rel=>exact⟨k+1,by omega,by go_num,hB,trivial⟩
     case measure=>simp[Lib.intOf];omega
  ·have H0:Hid (A=true):=show _=_ from by rw[← hp.out,List.drop_eq_nil_of_le (by omega)];rfl
   clear hp
   go_wp2
   go_ret
   exact⟨by rw[H0.out];rfl,hbW⟩
end Go.Proofs.YtkcajnjledldnaaGreatDoor
