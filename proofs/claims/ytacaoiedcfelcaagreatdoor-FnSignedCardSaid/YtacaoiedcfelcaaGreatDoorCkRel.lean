import Derived.Test.YtacaoiedcfelcaaGreatDoorCkKey
import Derived.Test.YtacaoiedcfelcaaGreatDoorCkCheck
import Derived.Test.YtacaoiedcfelcaaGreatDoorSgSpec
import Derived.Test.YtacaoiedcfelcaaGreatDoorRunsSpec
import Derived.Test.YtacaoiedcfelcaaGreatDoorCkTurn
import Derived.Test.YtacaoiedcfelcaaGreatDoorOwnF
set_option maxRecDepth 20000
set_option maxHeartbeats 16000000
namespace Go.Proofs.YtacaoiedcfelcaaGreatDoor
open Go.RowKit Go.Lib
theorem implTooLongK (s:ByteArray)(w:World)(hs:s.size≤100000):Calls Tryz.prog 49 #[.string s] w fun e w'=>e=.returned (.bool false)∧w=w':=by
 have h:¬(100000:Int)<(s.size:Int):=by omega
 go_enter Tryz.func49,Tryz.ntmps49
 go_wp2
 go_ret
 exact⟨rfl,rfl⟩
theorem implHasLongName (b:Sn.Ky)(w:World)(hb:b.d.size≤100000∧b.s.size≤100000):Calls Tryz.prog 28 #[Sn.kyV b] w fun e w'=>e=.returned (.bool false)∧Below w.heap.size w w':=by
 obtain⟨h1,h2⟩:=hb
 obtain⟨V,hV⟩:∃V,w.alloc (.cells #[.string b.d,.string b.s,.int .i64 b.A,.int .i64 b.B] 24)=V:=⟨_,rfl⟩
 have bV:Below w.heap.size w V:=by rw[← hV];exact(Below.refl _ _).alloc (Nat.le_refl _) _
 have c1:=mkHid (fun W=>implTooLongK b.d W (by omega))
 have c2:=mkHid (fun W=>implTooLongK b.s W (by omega))
 have HV:=mkHid hV
 have HbV:=mkHid bV
 clear hV bV
 go_enter Tryz.func28,Tryz.ntmps28
 go_wp2_with fail
 refine(c1.out _).mono ?_
 rintro e w1 ⟨rfl,rfl⟩
 go_wp2_with fail
 refine(c2.out _).mono ?_
 rintro e w1 ⟨rfl,rfl⟩
 go_wp2
 go_ret
 rw[HV.out]
 exact⟨rfl,HbV.out⟩
theorem implIndexLongK (b:Nat)(M:List Sn.Ky)(cap:Nat)(w:World)(hM:Sn.KyL b w M)(hl:M.length≤100)(hsm:∀k ∈ M,k.d.size≤100000∧k.s.size≤100000) :
  Calls Tryz.prog 76 #[.slice (some ⟨b,0,none⟩) M.length cap,.func (.func 28) #[] #[]] w fun e w'=>e=.returned (.int .i64 (-1))∧Below w.heap.size w w':=by
 have hE:∀(args:Array Value) (w:World),(callFunc 28 args).run Tryz.prog w=.ok (.enter 28 args) w:=Go.Proofs.enters_of Tryz.func28 (by kernel_rfl) rfl
 have HM:=mkHid hM
 have Hsm:=mkHid hsm
 clear hM hsm
 go_enter Tryz.func76,Tryz.ntmps76
 go_wp2
 go_loopw [5,8] (fun _ iv wr=>∃ k:Nat,k≤M.length∧iv=.int .i64 k∧Hid (Below w.heap.size w wr)) (fun _ iv _=>M.length-(Lib.intOf iv).toNat)
 case atStart=>exact⟨0,Nat.zero_le _,rfl,Below.refl _ _⟩
 case round=>
  obtain⟨k,hk,rfl,hb⟩:=hrel
  by_cases hlt:k<M.length
  ·obtain⟨a0,a1,a2,a3⟩:=(HM.out.below hb.out).2 k hlt
   have cN:=mkHid (implHasLongName M[k] wr (Hsm.out _ (List.getElem_mem hlt)))
   generalize M[k]=x at *
   go_wp2_with fail
   refine cN.out.mono ?_
   rintro e w1 ⟨rfl,hb1⟩
   have hB1:=mkHid (hb.out.trans (hb1.mono hb.out.size))
   clear cN hb1 hb
   go_wp2
   go_roundw
   case rel=>exact⟨k+1,by omega,by go_num,hB1⟩
   case measure=>simp[Lib.intOf];omega
  ·go_wp2
   go_ret
   exact⟨rfl,hb.out⟩
theorem implContainsLongK (b:Nat)(M:List Sn.Ky)(cap:Nat)(w:World)(hM:Sn.KyL b w M)(hl:M.length≤100)(hsm:∀k ∈ M,k.d.size≤100000∧k.s.size≤100000) :
  Calls Tryz.prog 27 #[.slice (some ⟨b,0,none⟩) M.length cap,.func (.func 28) #[] #[]] w fun e w'=>e=.returned (.bool false)∧Below w.heap.size w w':=by
 have hI:=mkHid (implIndexLongK b M cap w hM hl hsm)
 clear hM hsm
 go_enter Tryz.func27,Tryz.ntmps27
 go_wp2_with fail
 refine hI.out.mono ?_
 rintro e w2 ⟨rfl,hb⟩
 go_wp2
 go_ret
 exact⟨rfl,hb⟩
namespace Sn
def anCells (L:List (ByteArray × Int)):List Value:=L.flatMap fun a=>[.string a.1,.int .i64 a.2]
theorem anCells_app (F G:List (ByteArray × Int)):anCells (F++G)=anCells F++anCells G:=by simp[anCells]
def An (B:Nat)(v:Value)(L:List (ByteArray × Int))(w:World):Prop:=w.ownsRow B 35 2 v L.length (anCells L)
theorem An.nil (B:Nat)(w:World):An B (.slice none 0 0) [] w:=World.ownsRow_nil _ _ _ _
theorem An.base {B B':Nat} {v:Value} {E:List (ByteArray × Int)} {w:World} (h:An B v E w)(hB:B'≤B):An B' v E w:=by
 refine⟨h.1,?_⟩
 rcases h.2 with h0|⟨g,cap,cur,hv,hg,hr⟩
 ·exact .inl h0
 ·exact .inr ⟨g,cap,cur,hv,Nat.le_trans hB hg,hr⟩
theorem An.form {B:Nat} {v:Value} {F:List (ByteArray × Int)} {w:World} (h:An B v F w):(v=.slice none 0 0∧F=[])∨∃ g cap,v=.slice (some ⟨g,0,none⟩) F.length cap:=by
 rcases h.2 with ⟨rfl,h0⟩|⟨g,cap,cur,rfl,-⟩
 ·exact .inl ⟨rfl,List.length_eq_zero_iff.1 h0⟩
 ·exact .inr ⟨g,cap,rfl⟩
end Sn
theorem Tryz.infoAn:(Tryz.prog.info? 35).map (fun i=>(i.zero,i.size,i.bytes))=some (some (.agg #[.string ⟨#[]⟩,.int .i64 0]),2,24):=by kernel_rfl
theorem wp_appAn {w:World} {ops:Array Oper} {rest:List Oper} {o:Oper} {a:Act} {Q:Exit→Act→World→Prop} (hgd:o.guard=none)(s x:Operand)
  (ho:o.op=.call { callee:=.builtin .append,args:=#[s,x],argTypes:=#[32,32] })
  (B:Nat) (v:Value) (C:List (ByteArray × Int)) (hs:a.eval s=v) (hown:Sn.An B v C w) (f:ByteArray × Int)
  (c:Nat) (hx:a.eval x=.slice (some ⟨w.heap.size,0,none⟩) 1 c) (hlen:C.length≤1000000) (hB:B≤w.heap.size)
  (h:∀v' w',Sn.An B v' (C ++ [f]) w'→Below B w w'→wpList Tryz.prog ops Q rest (a.put o.dst v') w'):wpList Tryz.prog ops Q (o::rest) a (w.alloc (.cells #[.string f.1,.int .i64 f.2] 35)):=by
 obtain⟨i0,hi0,hz0,hz1,hz2⟩:=info_parts Tryz.infoAn
 refine wpList_append_own _ hgd s x 32 ho B 35 i0 _ 2 24 Tryz.underlying32 hi0 hz0 hz1 hz2 rfl (by decide) v C.length (Sn.anCells C) hs (World.ownsRow.alloc hown _) ⟨w.heap.size,0,none⟩ 1 c [.string f.1,.int .i64 f.2] hx
  rfl ?_ ?_ (by unfold maxLen;omega) (by omega) (by simp;omega) ?_
 ·intro j u hj
  rw[add_off]
  match j,hj with
  | 0,hj=>simp at hj;subst hj;simp
  | 1,hj=>simp at hj;subst hj;simp
 ·intro u hu
  simp at hu
  rcases hu with rfl|rfl<;>rfl
 ·intro v' w' h1 h2 _
  refine h v' w' ?_ ?_
  ·unfold Sn.An
   rw[Sn.anCells_app,List.length_append]
   exact h1
  ·exact((Below.refl w.heap.size w).mono hB |>.alloc hB _).grown h2 (by simp;omega) (fun k hk=>(World.ownsRow.lt hown k hk).1)
namespace Sn
def dg10 (c:UInt8):Bool:=decide (48≤c.toNat) && decide (c.toNat≤57)
def val10 (a:Nat)(l:List UInt8):Nat:=l.foldl (fun n c=>n*10+(c.toNat-48)) a
theorem val_cons (a:Nat)(c:UInt8)(l:List UInt8):val10 a (c::l)=val10 (a*10+(c.toNat-48)) l:=by
 unfold val10
 rw[List.foldl_cons]
theorem val_app (l:List UInt8)(a:Nat)(c:UInt8):val10 a (l ++ [c])=val10 a l*10+(c.toNat-48):=by
 unfold val10
 rw[List.foldl_append,List.foldl_cons,List.foldl_nil]
theorem dec_val (n:Nat):val10 0 (decDigits n)=n∧(decDigits n).all dg10=true∧decDigits n ≠ []:=by
 induction n using Nat.strongRecOn with
 | ind n ih=>
  rw[decDigits]
  split
  ·rename_i h
   have e:(UInt8.ofNat (48+n)).toNat=48+n:=by simp;omega
   refine⟨?_,?_,by simp⟩
   ·rw[val_cons,e]
    unfold val10
    rw[List.foldl_nil];omega
   ·rw[List.all_cons,List.all_nil,Bool.and_true]
    unfold dg10
    rw[e]
    simp;omega
  ·rename_i h
   obtain⟨h1,h2,h3⟩:=ih (n / 10) (by omega)
   have e:(UInt8.ofNat (48+n % 10)).toNat=48+n % 10:=by simp;omega
   refine⟨?_,?_,by simp⟩
   ·rw[val_app,h1,e];omega
   ·rw[List.all_append,h2,List.all_cons,List.all_nil,Bool.and_true,Bool.true_and]
    unfold dg10
    rw[e]
    simp;omega
theorem parse_ok:∀(l:List UInt8)(acc:Nat),l.all dg10=true→(acc+1)*10 ^ l.length≤1000000000000000000→parseUintM 18446744073709551615 acc l=.ok (val10 acc l)
 | [],acc,_,_=>by unfold parseUintM val10;rw[List.foldl_nil]
 | c::r,acc,h,hb=>by
  rw[List.all_cons,Bool.and_eq_true] at h
  obtain⟨h1,h2⟩:=h
  unfold dg10 at h1
  simp only[Bool.and_eq_true,decide_eq_true_eq] at h1
  rw[List.length_cons,Nat.pow_succ,Nat.mul_comm (10 ^ r.length) 10,← Nat.mul_assoc] at hb
  have hp:1≤10 ^ r.length:=Nat.succ_le_of_lt (Nat.pow_pos (by decide))
  have ha:(acc+1)*10≤1000000000000000000:=Nat.le_trans (Nat.le_mul_of_pos_right _ hp) hb
  have hn:(acc*10+(c.toNat-48)+1)*10 ^ r.length≤1000000000000000000:=Nat.le_trans (Nat.mul_le_mul_right _ (by omega)) hb
  unfold parseUintM
  rw[if_pos h1,if_neg (by omega),if_neg (by omega),parse_ok r _ h2 hn,val_cons]
theorem num_dec (n:Nat)(hn:n<2147483647):numW (decDigits n)=n:=by
 obtain⟨hv,hd,h0⟩:=dec_val n
 have hl:(decDigits n).length≤10:=dec_len10 9 n (by have:(10:Nat) ^ (9+1)=10000000000:=rfl;omega)
 unfold numW
 generalize decDigits n=l at *
 cases l with
 | nil=>exact absurd rfl h0
 | cons c r=>
  have hc:=hd
  rw[List.all_cons,Bool.and_eq_true] at hc
  have h1:=hc.1
  unfold dg10 at h1
  simp only[Bool.and_eq_true,decide_eq_true_eq] at h1
  have hpow:10 ^ (c::r).length≤10 ^ 10:=Nat.pow_le_pow_right (by decide) hl
  have hk:=parse_ok (c::r) 0 hd (by
   have:(10:Nat) ^ 10=10000000000:=rfl
   omega)
  rw[hv] at hk
  have e:Lib.parseIntB 64 (c::r)=.ok (n:Int):=by
   unfold parseIntB
   dsimp only
   rw[if_neg (by omega)]
   unfold parseUintB
   rw[if_neg (by simp),show 2 ^ 64-1=18446744073709551615 from rfl,hk]
   dsimp only
   rw[if_neg (by
    rintro⟨-,h⟩
    have:(2:Nat) ^ (64-1)=9223372036854775808:=rfl
    omega),if_neg (by rintro⟨h,-⟩;omega),if_neg (by omega)]
  rw[e]
theorem index_at (c:UInt8)(sp r:List UInt8):∀a:List UInt8,c ∉ a→Lib.index (a++(c::sp++r)) (c::sp)=(a.length:Int)
 | [],_=>by
  rw[List.nil_append,List.cons_append,Lib.index,if_pos (by rw[← List.cons_append,List.isPrefixOf_iff_prefix];exact List.prefix_append _ _)]
  rfl
 | x::a,h=>by
  have hx:c≠x:=fun e=>h (by rw[e];exact List.mem_cons_self)
  have ih:=index_at c sp r a (fun e=>h (List.mem_cons_of_mem _ e))
  rw[List.cons_append,Lib.index,ih,if_neg (by simp[List.isPrefixOf,hx]),if_neg (by rw[beq_iff_eq];omega)]
  simp
theorem cut_here (a sep b:ByteArray)(c:UInt8)(sp:List UInt8)(hs:sep.data.toList=c::sp)(h:c ∉ a.data.toList):cutA (a++(sep++b)) sep=a∧cutR (a++(sep++b)) sep=b:=by
 have e:(a++(sep++b)).data.toList=a.data.toList++(c::sp++b.data.toList):=by
  rw[← hs]
  simp
 have hi:=index_at c sp b.data.toList a.data.toList h
 have hcut:Lib.cut (a++(sep++b)).data.toList sep.data.toList=(a.data.toList,b.data.toList,true):=by
  unfold Lib.cut
  rw[e,hs,hi,if_pos (by omega),Int.toNat_natCast,List.take_left,← List.append_assoc]
  have:a.data.toList.length+(c::sp).length=(a.data.toList++c::sp).length:=by simp
  rw[this,List.drop_left]
 unfold cutA cutR
 rw[hcut]
 exact⟨rfl,rfl⟩
def jB (M:List ByteArray):ByteArray:=⟨(jc M).toArray⟩
theorem ba_eq {a b:ByteArray} (h:a.data.toList=b.data.toList):a=b:=ByteArray.ext (Array.toList_inj.1 h)
theorem names_jc:∀M:List ByteArray,M ≠ []→(∀t ∈ M,(58:UInt8) ∉ t.data.toList)→names (jB M)=M
 | [],h,_=>absurd rfl h
 | [t],_,hf=>by
  have h0:=hf t (by simp)
  have e:jB [t]=t:=ba_eq (by simp[jB,jc])
  have hc:countB t colon=0:=by
   show count t.data.toList [58]=0
   rw[count_one]
   exact List.count_eq_zero.2 h0
  unfold names
  rw[e,hc,splitB_zero]
 | t::t2::r,_,hf=>by
  have h0:=hf t (by simp)
  have ih:=names_jc (t2::r) (by simp) (fun u hu=>hf u (List.mem_cons_of_mem _ hu))
  have e:jB (t::t2::r)=t++(colon++jB (t2::r)):=ba_eq (by
   show(jc (t::t2::r))=_
   rw[jc]
   simp[jB,colon])
  have hc:countB (jB (t::t2::r)) colon=countB (jB (t2::r)) colon+1:=by
   show count (jB (t::t2::r)).data.toList [58]=count (jB (t2::r)).data.toList [58]+1
   rw[count_one,count_one,e]
   have e2:(t++(colon++jB (t2::r))).data.toList=t.data.toList++58::(jB (t2::r)).data.toList:=by simp[colon]
   rw[e2,List.count_append,List.count_cons_self,List.count_eq_zero.2 h0]
   omega
  have hi:indexB (jB (t::t2::r)) colon=(t.size:Int):=by
   have:=index_at 58 [] (jB (t2::r)).data.toList t.data.toList h0
   show Lib.index (jB (t::t2::r)).data.toList [58]=_
   rw[e]
   have e2:(t++(colon++jB (t2::r))).data.toList=t.data.toList++([58]++(jB (t2::r)).data.toList):=by simp[colon]
   rw[e2,this]
   simp
  unfold names at ih ⊢
  rw[hc,splitB,hi,if_neg (by rw[beq_iff_eq];omega),Int.toNat_natCast,Nat.add_zero,e]
  have x1:(t++(colon++jB (t2::r))).extract 0 t.size=t:=by
   rw[ByteArray.extract_append_eq_left rfl]
  have x2:(t++(colon++jB (t2::r))).extract (t.size+colon.size) (t++(colon++jB (t2::r))).size=jB (t2::r):=by
   rw[← ByteArray.append_assoc]
   exact ByteArray.extract_append_eq_right (by rw[ByteArray.size_append]) (by rw[ByteArray.size_append])
  rw[x1,x2,ih]
theorem dec_free (n:Nat)(c:UInt8)(h:dg10 c=false):c ∉ (⟨(decDigits n).toArray⟩:ByteArray).data.toList:=by
 intro hm
 have:=List.all_eq_true.1 (dec_val n).2.1 c hm
 rw[h] at this
 cases this
theorem sum_cut (a b:Nat):cutA (sumT a b) dash=⟨(decDigits a).toArray⟩∧cutR (sumT a b) dash=⟨(decDigits b).toArray⟩:=by
 unfold sumT
 rw[ByteArray.append_assoc]
 exact cut_here _ dash _ 45 [] rfl (dec_free a 45 (by decide))
theorem sum_free (a b:Nat):(59:UInt8) ∉ (sumT a b).data.toList:=by
 intro hm
 have e:(sumT a b).data.toList=(decDigits a ++ [45])++decDigits b:=by simp[sumT]
 rw[e,List.mem_append,List.mem_append] at hm
 rcases hm with (hm|hm)|hm
 ·exact dec_free a 59 (by decide) hm
 ·simp at hm
 ·exact dec_free b 59 (by decide) hm
theorem sign_free {c:UInt8} {l:List UInt8} (h:l.all Pl.signB=true)(hc:Pl.signB c=false):c ∉ l:=fun hm=>by
 have:=List.all_eq_true.1 h c hm
 rw[hc] at this
 cases this
theorem jc_free:∀M:List ByteArray,(∀t ∈ M,(59:UInt8) ∉ t.data.toList)→(59:UInt8) ∉ jc M
 | [],_=>by simp[jc]
 | [t],h=>by simpa [jc] using h t (by simp)
 | t::t2::r,h=>by
  have ih:=jc_free (t2::r) (fun u hu=>h u (List.mem_cons_of_mem _ hu))
  have h0:=h t (by simp)
  rw[jc]
  intro hm
  rcases List.mem_append.1 hm with hm|hm
  ·exact h0 hm
  ·rcases List.mem_cons.1 hm with hm|hm
   ·exact absurd hm (by decide)
   ·exact ih hm
theorem read_own (d s:ByteArray)(A B:Int)(M:List ByteArray)(h b:Int)(x y p q:Nat)(hok:signerOk d s A B M h b=true)
  (hx:x<2147483647) (hy:y<2147483647) (hp:p<2147483647) (hq:q<2147483647) :
  readS (frontT d s M h b x y++sumT p q)=⟨d,s,M,h,b,x,y,p,q⟩∧right ⟨d,s,M,h,b,x,y,p,q⟩ (frontT d s M h b x y++sumT p q)=true:=by
 have hok2:=hok
 unfold signerOk at hok2
 simp only[Bool.and_eq_true,decide_eq_true_eq] at hok2
 obtain⟨g1,g2,-,g4,g5,g6,g7,g8⟩:=hok2
 have hd:(59:UInt8) ∉ d.data.toList:=by
  unfold Pl.domOk at g1
  simp only[Bool.and_eq_true] at g1
  exact sign_free g1.2.2 (by decide)
 have hs:(59:UInt8) ∉ s.data.toList:=by
  unfold Pl.selOk at g2
  simp only[Bool.and_eq_true] at g2
  intro hm
  have:=List.all_eq_true.1 g2.2.2 59 hm
  exact absurd this (by decide)
 have hM:∀t ∈ M,(59:UInt8) ∉ t.data.toList∧(58:UInt8) ∉ t.data.toList:=fun t ht=>by
  have hh:=List.all_eq_true.1 g8 t ht
  unfold nameB Pl.sNameOk Pl.nameOk at hh
  simp only[Bool.and_eq_true] at hh
  refine⟨sign_free hh.2 (by decide),fun hm=>?_⟩
  have:=List.all_eq_true.1 hh.1.2.2 58 hm
  exact absurd this (by decide)
 have hf:∀k:Int,k=0∨k=1→(59:UInt8) ∉ (formT k).data.toList∧(47:UInt8) ∉ (formT k).data.toList∧fmN (formT k)=k:=fun k hk=>by
  rcases hk with rfl|rfl<;>decide
 obtain⟨-,hh2,hh3⟩:=hf h g4
 obtain⟨hb1,-,hb3⟩:=hf b g5
 have hj:(59:UInt8) ∉ (jB M).data.toList:=jc_free M fun t ht=>(hM t ht).1
 have hM0:M ≠ []:=by intro e;rw[e] at g6;exact absurd g6 (by decide)
 have hnm:=names_jc M hM0 fun t ht=>(hM t ht).2
 have ev:frontT d s M h b x y++sumT p q=⟨#[32,100,61]⟩++(d++(mS++(s++(mC++(formT h++(mSl++(formT b++(mH++(jB M++(mB++(sumT x y++(mX++sumT p q)))))))))))):=by
  unfold frontT
  simp only[ByteArray.append_assoc]
  rfl
 obtain⟨c1,r1'⟩:=cut_here d mS (s++(mC++(formT h++(mSl++(formT b++(mH++(jB M++(mB++(sumT x y++(mX++sumT p q)))))))))) 59 [32,115,61] rfl hd
 obtain⟨c2,r2'⟩:=cut_here s mC (formT h++(mSl++(formT b++(mH++(jB M++(mB++(sumT x y++(mX++sumT p q)))))))) 59 [32,99,61] rfl hs
 obtain⟨c3,r3'⟩:=cut_here (formT h) mSl (formT b++(mH++(jB M++(mB++(sumT x y++(mX++sumT p q)))))) 47 [] rfl hh2
 obtain⟨c4,r4'⟩:=cut_here (formT b) mH (jB M++(mB++(sumT x y++(mX++sumT p q)))) 59 [32,104,61] rfl hb1
 obtain⟨c5,r5'⟩:=cut_here (jB M) mB (sumT x y++(mX++sumT p q)) 59 [32,98,61] rfl hj
 obtain⟨c6,r6'⟩:=cut_here (sumT x y) mX (sumT p q) 59 [32,120,61] rfl (sum_free x y)
 have et:t0 (frontT d s M h b x y++sumT p q)=d++(mS++(s++(mC++(formT h++(mSl++(formT b++(mH++(jB M++(mB++(sumT x y++(mX++sumT p q))))))))))):=by
  rw[ev]
  generalize d++(mS++(s++(mC++(formT h++(mSl++(formT b++(mH++(jB M++(mB++(sumT x y++(mX++sumT p q)))))))))))=R
  unfold t0
  have e:((⟨#[32,100,61]⟩:ByteArray)++R).data.toList=32::100::61::R.data.toList:=by simp
  rw[e]
  apply ba_eq
  unfold Lib.trimPrefix
  rw[if_pos (by simp[Lib.hasPrefix])]
  rfl
 obtain⟨s1,s2⟩:=sum_cut x y
 obtain⟨s3,s4⟩:=sum_cut p q
 have n:∀k:Nat,k<2147483647→numW (⟨(decDigits k).toArray⟩:ByteArray).data.toList=k:=fun k hk=>num_dec k hk
 constructor
 ·unfold readS Sn.r5 Sn.r4 Sn.r3 Sn.r2 Sn.r1
  rw[et,r1',r2',r3',r4',r5',r6',c1,c2,c3,c4,c5,c6]
  unfold mk
  rw[hnm,hh3,hb3,s1,s2,s3,s4,n x hx,n y hy,n p hp,n q hq]
 ·unfold right says sumR valueOf
  simp only[Int.toNat_natCast,Bool.and_eq_true,decide_eq_true_eq,beq_iff_eq]
  exact⟨⟨g1,g2,g4,g5,g6,g7,g8⟩,⟨by omega,by omega,by omega,by omega⟩,⟨by omega,by omega,by omega,by omega⟩,trivial⟩
end Sn
namespace Sn
theorem sign_form (msg d s:ByteArray)(A B:Int)(M:List ByteArray)(h b:Int)(hne:plSign msg d s A B M h b≠⟨#[]⟩) :
  signerOk d s A B M h b=true∧(RH msg).code=0∧(RH msg).fields.length<200∧Pl.nameOk sgName.data.toList=true∧Pl.val (sgValue msg d s A.toNat B.toNat M h b).data.toList=true ∧
   (plSign msg d s A B M h b).data.toList=Pl.lineL (sgName.data.toList,(sgValue msg d s A.toNat B.toNat M h b).data.toList)++msg.data.toList∧(plSign msg d s A B M h b).size≤100000:=by
 unfold plSign at hne ⊢
 split at hne
 ·rename_i hg
  rw[if_pos hg]
  obtain⟨h1,h2,h3⟩:=hg
  have h4:=RH_len msg
  generalize sgValue msg d s A.toNat B.toNat M h b=v at *
  unfold Pl.added at hne ⊢
  have hl:(⟨(Pl.hd [] [(sgName,v)]).toArray⟩:ByteArray).toList=Pl.hd [] [(sgName,v)]:=by
   rw[ByteArray.toList_eq]
  split at hne
  ·exact absurd rfl hne
  ·rename_i h5
   rw[if_neg h5]
   split at hne
   ·exact absurd rfl hne
   ·rename_i h6
    rw[if_neg h6]
    rw[hl] at h5
    unfold Pl.hd at h5 h6 ⊢
    split at h5
    ·rename_i h7
     rw[if_pos h7] at h6 ⊢
     split at h5
     ·exact absurd rfl h5
     ·rename_i h8
      rw[if_neg h8] at h6 ⊢
      unfold Pl.okF at h7
      simp only[Bool.and_eq_true] at h7
      refine⟨h1,h2,by omega,h7.2.1,h7.2.2,?_,?_⟩
      ·unfold Pl.hd Pl.line Pl.lineL
       simp
      ·rw[ByteArray.size_append]
       omega
    ·exact absurd rfl h5
 ·exact absurd rfl hne
end Sn
namespace Sn
theorem headT_sg (M:List ByteArray)(h:Int)(L:List Fd)(v:ByteArray):headT sgName M h L v=sgText M h L v:=by
 unfold headT sgText ownB
 rfl
theorem own_head (msg d s:ByteArray)(A B:Int)(M:List ByteArray)(h b:Int)(hne:plSign msg d s A B M h b≠⟨#[]⟩) :
  RH (plSign msg d s A B M h b)=⟨0,0,(Pl.lineL (sgName.data.toList,(sgValue msg d s A.toNat B.toNat M h b).data.toList)).length+(RH msg).body,(sgName.data.toList,(sgValue msg d s A.toNat B.toNat M h b).data.toList)::(RH msg).fields⟩:=by
 obtain⟨h1,h2,h3,h4,h5,h6,h7⟩:=sign_form msg d s A B M h b hne
 obtain⟨hmz,-⟩:=RH_good msg h2
 have hrm:RH msg=Pl.readHead msg.data.toList:=by unfold RH;rw[if_pos hmz]
 have e1:RH (plSign msg d s A B M h b)=Pl.readHead (plSign msg d s A B M h b).data.toList:=by unfold RH;rw[if_pos h7]
 rw[e1,h6,hrm]
 rw[hrm] at h2 h3
 rw[Pl.readHead_sf _ _ _ h4 h5 h2 h3]
theorem own_body (msg d s:ByteArray)(A B:Int)(M:List ByteArray)(h b:Int)(hne:plSign msg d s A B M h b≠⟨#[]⟩) :
  (plSign msg d s A B M h b).extract (RH (plSign msg d s A B M h b)).body (plSign msg d s A B M h b).size=msg.extract (RH msg).body msg.size:=by
 obtain⟨h1,h2,h3,h4,h5,h6,h7⟩:=sign_form msg d s A B M h b hne
 rw[own_head msg d s A B M h b hne]
 apply ba_eq
 rw[Lib.extract_to_end,Lib.extract_to_end,h6,Pl.drop_sf]
theorem own_ans (msg d s:ByteArray)(A B:Int)(M:List ByteArray)(h b:Int)(hok:signerOk d s A B M h b=true)(K:List Ky)(hK:K=[⟨d,s,A,B⟩]∨K=[])(bt:ByteArray)(hb:canonAny bt b=sgBody msg b)(O:List Fd)(hO:tkL h M O=tkL h M (toBA (RH msg).fields)) :
  ansOf K bt sgName (sgValue msg d s A.toNat B.toNat M h b) O=(d,if K=[] then 1 else 0):=by
 obtain⟨u1,u2,⟨A',rfl,ga,ga2⟩,⟨B',rfl,gb,gb2⟩,u3⟩:=signer_parts d s A B M h b hok
 have hk:keyOk (A':Int) B'=true:=by
  have:=hok
  unfold signerOk at this
  simp only[Bool.and_eq_true] at this
  exact this.2.2.1
 rw[Int.toNat_natCast,Int.toNat_natCast] at *
 obtain⟨x,hx⟩:∃x,x=Ps.sm A' 1 (sgBody msg b).data.toList:=⟨_,rfl⟩
 obtain⟨y,hy⟩:∃x,x=Ps.sm B' 1 (sgBody msg b).data.toList:=⟨_,rfl⟩
 obtain⟨p,hp⟩:∃x,x=Ps.sm A' 1 (sgHead msg d s A' B' M h b).data.toList:=⟨_,rfl⟩
 obtain⟨q,hq⟩:∃x,x=Ps.sm B' 1 (sgHead msg d s A' B' M h b).data.toList:=⟨_,rfl⟩
 have l1:x<2147483647:=by rw[hx];exact Ps.sm_lt A' _ 1 (by decide)
 have l2:y<2147483647:=by rw[hy];exact Ps.sm_lt B' _ 1 (by decide)
 have l3:p<2147483647:=by rw[hp];exact Ps.sm_lt A' _ 1 (by decide)
 have l4:q<2147483647:=by rw[hq];exact Ps.sm_lt B' _ 1 (by decide)
 have hval:sgValue msg d s A' B' M h b=frontT d s M h b x y++sumT p q:=by
  unfold sgValue sgFront
  rw[← hx,← hy,← hp,← hq]
 obtain⟨r1,r2⟩:=read_own d s A' B' M h b x y p q hok l1 l2 l3 l4
 have hT:headT sgName M h O (frontT d s M h b x y)=sgHead msg d s A' B' M h b:=by
  rw[headT_sg]
  unfold sgHead sgFront sgText
  rw[← hx,← hy,hO]
 rw[hval]
 unfold ansOf
 rw[r1,if_pos r2]
 rcases hK with rfl|rfl
 ·have hfk:findK d s [⟨d,s,(A':Int),(B':Int)⟩]=⟨d,s,(A':Int),(B':Int)⟩:=by
   unfold findK
   rw[if_pos (by simp)]
  simp only[hfk]
  rw[if_neg (by simp)]
  have:resOf ⟨d,s,(A':Int),(B':Int)⟩ bt sgName O ⟨d,s,M,h,b,x,y,p,q⟩=0:=by
   unfold resOf frontOf
   rw[if_neg (by rw[hk];simp),if_pos,if_pos]
   ·show(((p:Int)==((Ps.sm ((A':Int).toNat) 1 (headT sgName M h O (frontT d s M h b ((x:Int).toNat) ((y:Int).toNat))).data.toList:Nat):Int)) && ((q:Int)==((Ps.sm ((B':Int).toNat) 1 (headT sgName M h O (frontT d s M h b ((x:Int).toNat) ((y:Int).toNat))).data.toList:Nat):Int)))=true
    rw[Int.toNat_natCast,Int.toNat_natCast,Int.toNat_natCast,Int.toNat_natCast,hT,← hp,← hq]
    simp
   ·show(((x:Int)==((Ps.sm ((A':Int).toNat) 1 (canonAny bt b).data.toList:Nat):Int)) && ((y:Int)==((Ps.sm ((B':Int).toNat) 1 (canonAny bt b).data.toList:Nat):Int)))=true
    rw[Int.toNat_natCast,Int.toNat_natCast,hb,← hx,← hy]
    simp
  rw[this]
 ·rw[if_pos rfl]
  have:resOf (findK d s []) bt sgName O ⟨d,s,M,h,b,x,y,p,q⟩=1:=by
   unfold resOf findK noKy
   rw[if_pos (by decide)]
  simp only[this]
end Sn
namespace Sn
def sgAns (K:List Ky)(bt:ByteArray)(fields:List Fl):Nat→List (ByteArray × Int)
 | 0=>[]
 | k+1=>match fields[k]? with
  | none=>sgAns K bt fields k
  | some f=>if namedB ⟨f.1.toArray⟩ sgName && decide ((sgAns K bt fields k).length<10) then sgAns K bt fields k ++ [ansOf K bt ⟨f.1.toArray⟩ ⟨f.2.toArray⟩ (toBA (fields.eraseIdx k))] else sgAns K bt fields k
theorem sgAns_yes (K:List Ky)(bt:ByteArray)(fields:List Fl)(k:Nat)(hk:k<fields.length)(hn:namedB ⟨fields[k].1.toArray⟩ sgName=true)(hl:(sgAns K bt fields k).length<10) :
  sgAns K bt fields (k+1)=sgAns K bt fields k ++ [ansOf K bt ⟨fields[k].1.toArray⟩ ⟨fields[k].2.toArray⟩ (toBA (fields.eraseIdx k))]:=by
 rw[sgAns,List.getElem?_eq_getElem hk]
 simp only
 rw[hn,decide_eq_true hl,Bool.and_true,if_pos rfl]
theorem sgAns_no (K:List Ky)(bt:ByteArray)(fields:List Fl)(k:Nat)(hk:k<fields.length)(h:namedB ⟨fields[k].1.toArray⟩ sgName=false∨¬(sgAns K bt fields k).length<10) :
  sgAns K bt fields (k+1)=sgAns K bt fields k:=by
 rw[sgAns,List.getElem?_eq_getElem hk]
 simp only
 rw[if_neg]
 intro hh
 rw[Bool.and_eq_true] at hh
 rcases h with h|h
 ·rw[h] at hh;exact absurd hh.1 (by decide)
 ·exact h (of_decide_eq_true hh.2)
end Sn
set_option maxRecDepth 40000 in
theorem implSignsAll (t:ByteArray)(b c:Nat)(K:List Sn.Ky)(w:World)(ht:t.size≤1048576)(hcode:(RH t).code=0)(hne:(RH t).fields ≠ [])
  (hK:Sn.KyL b w K) (hl:K.length≤100) (hkz:∀k ∈ K,k.d.size≤100000∧k.s.size≤100000) (hW:CkW w) :
  Calls Tryz.prog 7 #[.string t,.slice (some ⟨b,0,none⟩) K.length c] w fun e w'=>∃ v,e=.returned v∧Sn.An w.heap.size v (Sn.sgAns K (t.extract (RH t).body t.size) (RH t).fields (RH t).fields.length) w'∧Below w.heap.size w w':=by
 obtain⟨htz,hsum⟩:=RH_good t hcode
 have hlen:=RH_len t
 have hbody:=RH_body t
 have hfz:=fl_size _ _ hsum
 have hfs:fsum (toBA (RH t).fields)≤100002:=by rw[fsum_toBA];exact hsum
 have cH:=mkHid (implRH t w ht)
 generalize RH t=H at *
 obtain⟨code,at_,body,fields⟩:=H
 simp only at hcode hne hlen hbody hfz hfs hsum ⊢
 subst hcode
 unfold hdV at cH
 simp only at cH
 have HNe:=mkHid hne
 have Hfz:=mkHid (show ∀f ∈ fields,f.1.length≤100000∧f.2.length≤100000 from fun f hf=>by have:=hfz f hf;omega)
 have HKz:=mkHid hkz
 have HK:=mkHid hK
 have HW:=mkHid hW
 clear hfz hkz hW hK hsum hne
 go_enter Tryz.func7,Tryz.ntmps7
 go_wp2_with fail
 refine cH.out.mono ?_
 rintro e w1 ⟨o,cf,rfl,hO,hb1⟩
 clear cH
 obtain⟨gf,rfl⟩:∃g,o=some ⟨g,0,none⟩:=by
  rcases hO.form with ⟨-,h0⟩|⟨g,cap,h0⟩
  ·exact absurd h0 HNe.out
  ·exact⟨g,by simp only[Value.slice.injEq] at h0;exact h0.1⟩
 obtain⟨W2,hW2⟩:∃W,W=w1.alloc (.cells #[.int .i64 0,.int .i64 at_,.slice (some ⟨gf,0,none⟩) fields.length cf,.int .i64 body] 41):=⟨_,rfl⟩
 have b12:Below w1.heap.size w1 W2:=by rw[hW2];exact(Below.refl _ _).alloc (Nat.le_refl _) _
 have hs2:W2.heap.size=w1.heap.size+1:=by rw[hW2];simp
 have r2:W2.heap[w1.heap.size]?=some (.cells #[.int .i64 0,.int .i64 at_,.slice (some ⟨gf,0,none⟩) fields.length cf,.int .i64 body] 41 (0,0)):=by rw[hW2];exact heap_alloc_at _ _
 have b02:Below w.heap.size w W2:=hb1.trans (b12.mono hb1.size)
 have hO2:OwnF w.heap.size (.slice (some ⟨gf,0,none⟩) fields.length cf) fields W2:=World.ownsRow.kept hO (grown_below (r:=none) b12) (Classical.em _)
 have cL:=mkHid (implContainsLongK b K c W2 (HK.out.below b02) hl HKz.out)
 have HO2:=mkHid hO2
 have HB2:=mkHid b02
 have HR2:=mkHid r2
 have HW2:=mkHid hW2
 have h1s:w.heap.size≤w1.heap.size:=hb1.size
 have hKl:K.length≤100:=hl
 obtain⟨m0,m1,m2,m3⟩:=Sn.cells4 r2
 rw[hW2] at m0 m1 m2 m3
 clear hO hO2 b02 b12 r2 hW2 hb1
 go_wp2_with fail
 rw[← HW2.out]
 refine cL.out.mono ?_
 rintro e w3 ⟨rfl,hb3⟩
 clear cL m0 m1 m2 m3 HW2
 have hs3:=hb3.size
 have HO3:Hid (OwnF w.heap.size (.slice (some ⟨gf,0,none⟩) fields.length cf) fields w3):=World.ownsRow.kept HO2.out (grown_below (r:=none) hb3) (Classical.em _)
 have HB3:=mkHid (HB2.out.trans (hb3.mono (by omega)))
 have HR3:=mkHid ((hb3.block _ (show w1.heap.size<W2.heap.size by omega)).trans HR2.out)
 have HSd:Hid (∀W,Below w3.heap.size w3 W→W.heap[w1.heap.size]?=some (.cells #[.int .i64 0,.int .i64 at_,.slice (some ⟨gf,0,none⟩) fields.length cf,.int .i64 body] 41 (0,0))):=fun W hW=>(hW.block _ (heap_lt HR3.out)).trans HR3.out
 clear HB2 HR2 HO2 hb3
 go_wp2
 obtain⟨bt,hbt⟩:∃x,x=t.extract body t.size:=⟨_,rfl⟩
 have hbtz:bt.size≤100000:=by rw[hbt,ByteArray.size_extract];omega
 have HBT:=mkHid hbt
 have hbS:Below w3.heap.size w3 w3.drew:=(Below.refl _ _).drew
 refine wp_region_held (S:=(fun W=>Below w3.heap.size w3 W)) (by kernel_rfl) ?_
 obtain⟨Y0,hY0⟩:∃Y,w3.drew=Y:=⟨_,rfl⟩
 rw[show({ w3 with drawn:=w3.drawn+1 }:World)=Y0 from hY0]
 rw[hY0] at hbS
 clear hY0
 refine tk 0 (.pointer (some ⟨w1.heap.size,2,none⟩)) hbS ?_ ?_
 ·intro W s0
  obtain⟨k0,k1,k2,k3⟩:=Sn.cells4 (HSd.out W s0)
  clear s0
  go_simp
 go_simp
 refine tk 1 (.slice (some ⟨gf,0,none⟩) fields.length cf) hbS ?_ ?_
 ·intro W s0
  obtain⟨k0,k1,k2,k3⟩:=Sn.cells4 (HSd.out W s0)
  clear s0
  go_simp
 go_simp
 refine tk 2 (.string t) hbS ?_ ?_
 ·intro W s0
  obtain⟨k0,k1,k2,k3⟩:=Sn.cells4 (HSd.out W s0)
  clear s0
  go_simp
 go_simp
 refine tk 3 (.pointer (some ⟨w1.heap.size,3,none⟩)) hbS ?_ ?_
 ·intro W s0
  obtain⟨k0,k1,k2,k3⟩:=Sn.cells4 (HSd.out W s0)
  clear s0
  go_simp
 go_simp
 refine tk 4 (.int .i64 body) hbS ?_ ?_
 ·intro W s0
  obtain⟨k0,k1,k2,k3⟩:=Sn.cells4 (HSd.out W s0)
  clear s0
  go_simp
 go_simp
 refine tk 5 (.string bt) hbS ?_ ?_
 ·intro W s0
  obtain⟨k0,k1,k2,k3⟩:=Sn.cells4 (HSd.out W s0)
  clear s0
  go_simp
 go_simp
 refine tk 6 (.slice (some ⟨b,0,none⟩) K.length c) hbS ?_ ?_
 ·intro W s0
  obtain⟨k0,k1,k2,k3⟩:=Sn.cells4 (HSd.out W s0)
  clear s0
  go_simp
 go_simp
 refine tk 7 (.agg #[.slice (some ⟨gf,0,none⟩) fields.length cf,.string bt,.slice (some ⟨b,0,none⟩) K.length c]) hbS ?_ ?_
 ·intro W s0
  obtain⟨k0,k1,k2,k3⟩:=Sn.cells4 (HSd.out W s0)
  clear s0
  go_simp
 go_simp
 rw[← hbt]
 clear hbt
 refine wpAnyH_all (rs:=[8]) (by kernel_rfl) (by simp) ?_
 intro j hj
 simp only[List.mem_cons,List.not_mem_nil,or_false] at hj
 subst hj
 refine wpOp_step rfl (fun KK hK=>?_)
 go_simp
 have hA:(Y0.alloc (.cells #[.slice none 0 0,.string ⟨#[]⟩,.slice none 0 0] 62)).heap[Y0.heap.size]?=some (.cells #[.slice none 0 0,.string ⟨#[]⟩,.slice none 0 0] 62 (0,0)):=heap_alloc_at _ _
 have hx2:Below w3.heap.size w3 (Y0.alloc (.cells #[.slice none 0 0,.string ⟨#[]⟩,.slice none 0 0] 62)):=hbS.alloc hbS.size _
 have hbb:=hbS.size
 have hsz:(Y0.alloc (.cells #[.slice none 0 0,.string ⟨#[]⟩,.slice none 0 0] 62)).heap.size=Y0.heap.size+1:=by simp
 generalize Y0.alloc (.cells #[.slice none 0 0,.string ⟨#[]⟩,.slice none 0 0] 62)=Y1 at hA hx2 hsz ⊢
 refine hK _ _ ⟨hx2,?_⟩
 clear hK KK
 go_simp
 refine wpAnyH_all (rs:=[9]) (by kernel_rfl) (by simp) ?_
 intro j hj
 simp only[List.mem_cons,List.not_mem_nil,or_false] at hj
 subst hj
 refine wpOp_step rfl (fun KK hK=>?_)
 refine wp_store_row 62 _ _ rfl Y0.heap.size #[.slice (some ⟨gf,0,none⟩) fields.length cf,.string bt,.slice (some ⟨b,0,none⟩) K.length c] rfl rfl 62 _ hA (by kernel_rfl) rfl (by simp[Value.oneCell']) ?_
 have hz:=hx2.grown (grown_setRow Y1 Y0.heap.size #[.slice (some ⟨gf,0,none⟩) fields.length cf,.string bt,.slice (some ⟨b,0,none⟩) K.length c]) hx2.size (fun j hj=>by cases hj;exact hbb)
 have hV:=setRow_heap Y1 Y0.heap.size _ #[.slice (some ⟨gf,0,none⟩) fields.length cf,.string bt,.slice (some ⟨b,0,none⟩) K.length c] 62 (0,0) hA
 have hz4:(Y1.setRow Y0.heap.size #[.slice (some ⟨gf,0,none⟩) fields.length cf,.string bt,.slice (some ⟨b,0,none⟩) K.length c]).heap.size=Y0.heap.size+1:=by rw[size_setRow];exact hsz
 generalize Y1.setRow Y0.heap.size #[.slice (some ⟨gf,0,none⟩) fields.length cf,.string bt,.slice (some ⟨b,0,none⟩) K.length c]=W4 at hz hV hz4 ⊢
 refine hK _ _ ⟨hz,?_⟩
 clear hK KK
 go_simp
 refine wpAnyH_done (by kernel_rfl) ?_ _
 have hB4:=HB3.out.trans (hz.mono (by omega))
 have hO4:OwnF w.heap.size (.slice (some ⟨gf,0,none⟩) fields.length cf) fields W4:=World.ownsRow.kept HO3.out (grown_below (r:=none) hz) (Classical.em _)
 have hK4:=HK.out.below hB4
 have hW4:=HW.out.below hB4
 have h4s:w.heap.size≤W4.heap.size:=hB4.size
 have HB4:=mkHid hB4
 have HO4:=mkHid hO4
 have HK4:=mkHid hK4
 have HW4:=mkHid hW4
 have HV4:=mkHid hV
 obtain⟨m0,m1,m2⟩:=Sn.cells3 hV
 have hgY:Y0.heap.size<W4.heap.size:=by omega
 clear hz hV hB4 hO4 hK4 hW4 HB3 HR3 HSd HO3 hbS hA hx2 hsz HK HW hs2 hs3 hbb hz4
 go_wp2
 clear m0 m1 m2
 go_loopw [7,35] (fun v iv wr=>∃ (k:Nat) (C:List (ByteArray × Int)),iv=.int .i64 k∧k≤fields.length∧C.length≤10∧(∃ov cap,v=.slice ov C.length cap)∧Hid (C=Sn.sgAns K bt fields k)∧Hid (Sn.An W4.heap.size v C wr)∧Hid (Below W4.heap.size W4 wr)) (fun _ iv _=>fields.length-(Lib.intOf iv).toNat)
 case atStart=>exact⟨0,[],rfl,Nat.zero_le _,Nat.zero_le _,⟨none,0,rfl⟩,rfl,Sn.An.nil _ _,Below.refl _ _⟩
 case round=>
  obtain⟨k,C,rfl,hk,hC,⟨ov,vc,rfl⟩,hCe,hAn,hb⟩:=hrel
  have hwr:=hb.out.size
  by_cases hlt:k<fields.length
  ·obtain⟨n,hn⟩:∃x:ByteArray,x=⟨fields[k].1.toArray⟩:=⟨_,rfl⟩
   obtain⟨v,hv⟩:∃x:ByteArray,x=⟨fields[k].2.toArray⟩:=⟨_,rfl⟩
   have hOr:OwnF w.heap.size (.slice (some ⟨gf,0,none⟩) fields.length cf) fields wr:=World.ownsRow.kept HO4.out (grown_below (r:=none) hb.out) (Classical.em _)
   have z0:wr.cell? ⟨gf,k*2,none⟩=some (.string n):=by
    have:=World.ownsRow.cells hOr (g:=gf) rfl (k*2) _ (cellsF_get fields k hlt).1
    rw[add_off] at this
    rw[hn]
    exact this
   have z1:wr.cell? ⟨gf,k*2+1,none⟩=some (.string v):=by
    have:=World.ownsRow.cells hOr (g:=gf) rfl (k*2+1) _ (cellsF_get fields k hlt).2
    rw[add_off] at this
    rw[hv]
    exact this
   have hnz:n.size≤100000:=by
    rw[hn]
    show(fields[k].1.toArray).size≤_
    have:=(Hfz.out _ (List.getElem_mem hlt)).1
    simp;omega
   obtain⟨W5,hW5⟩:∃W,W=wr.alloc (.cells #[.string n,.string v] 38):=⟨_,rfl⟩
   have b5:Below wr.heap.size wr W5:=by rw[hW5];exact(Below.refl _ _).alloc (Nat.le_refl _) _
   have hs5:W5.heap.size=wr.heap.size+1:=by rw[hW5];simp
   have r5:W5.heap[wr.heap.size]?=some (.cells #[.string n,.string v] 38 (0,0)):=by rw[hW5];exact heap_alloc_at _ _
   have hb5:=hb.out.trans (b5.mono hwr)
   have cN:=mkHid (implNamed n v sgName W5 hnz (by decide))
   have HAn5:=mkHid (World.ownsRow.kept hAn.out (grown_below (r:=none) b5) (Classical.em _))
   have HB5:=mkHid hb5
   have HW5:=mkHid hW5
   have Hn:=mkHid hn
   have Hv:=mkHid hv
   clear b5 r5 hb5 hW5 hOr hn hv hAn hb
   go_wp2_with fail
   have e5:wr.alloc (.cells #[.string n,.string v] 38)=W5:=HW5.out.symm
   rw[e5]
   clear e5 z0 z1
   refine cN.out.mono ?_
   rintro e w6 ⟨rfl,hb6⟩
   clear cN
   have hs6:=hb6.size
   have HAn6:=mkHid (World.ownsRow.kept HAn5.out (grown_below (r:=none) hb6) (Classical.em _))
   have hB6:=HB5.out.trans (hb6.mono (by omega))
   have HB6:=mkHid hB6
   clear HAn5 HB5 HW5 hb6
   cases hnm:namedB n sgName
   ·have hst:=mkHid (Sn.sgAns_no K bt fields k hlt (.inl (by rw[← Hn.out];exact hnm)))
    clear hnm
    go_wp2
    go_roundw
    case rel=>exact⟨k+1,C,by go_num,by omega,hC,⟨_,_,rfl⟩,hCe.out.trans hst.out.symm,HAn6,HB6⟩
    case measure=>simp[Lib.intOf];omega
   ·by_cases h10:C.length<10
    ·have hOr6:OwnF w.heap.size (.slice (some ⟨gf,0,none⟩) fields.length cf) fields w6:=World.ownsRow.kept HO4.out (grown_below (r:=none) hB6) (Classical.em _)
     have hnm2:namedB ⟨fields[k].1.toArray⟩ sgName=true:=by rw[← Hn.out];exact hnm
     have cC:=mkHid (implCheck w.heap.size (.slice (some ⟨gf,0,none⟩) fields.length cf) fields bt b c K k w6 hOr6 hlen Hfz.out hfs hlt hnm2 hbtz (HK4.out.below (hB6.mono (by omega))) hl HKz.out (HW4.out.below (hB6.mono (by omega))))
     rw[← Hn.out,← Hv.out] at cC
     obtain⟨A,hA⟩:∃A,A=Sn.ansOf K bt n v (toBA (fields.eraseIdx k)):=⟨_,rfl⟩
     rw[← hA] at cC
     have HA:=mkHid hA
     have hst:=mkHid (Sn.sgAns_yes K bt fields k hlt hnm2 (by rw[← hCe.out];exact h10))
     obtain⟨m0,m1,m2⟩:=Sn.cells3 ((hB6.block _ hgY).trans HV4.out)
     clear hOr6 hnm2 hA hB6 hnm
     go_wp2_with fail
     refine cC.out.mono ?_
     rintro e w7 ⟨rfl,hb7⟩
     clear cC m0 m1 m2
     have hs7:=hb7.size
     have HAn7:=mkHid (World.ownsRow.kept HAn6.out (grown_below (r:=none) hb7) (Classical.em _))
     have HB7:=mkHid (HB6.out.trans (hb7.mono (by omega)))
     clear HAn6 HB6 hb7
     obtain⟨vv,hvv⟩:∃vv:Value,.slice ov C.length vc=vv:=⟨_,rfl⟩
     rw[hvv] at HAn7 ⊢
     clear hvv
     go_wp2_with (at_builtin;go_must (refine wp_appAn (w:=w7) rfl _ _ rfl W4.heap.size vv C rfl HAn7.out A 1 rfl (by omega) (by omega) ?_);intro v' w' hA' hB')
     go_roundw
     case rel=>
      have hBz:=HB7.out.trans hB'
      refine⟨k+1,C ++ [A],by go_num,by omega,by simp;omega,?_,?_,hA',hBz⟩
      ·rcases Sn.An.form hA' with ⟨-,h0⟩|⟨g,cap,h0⟩
       ·exact absurd h0 (by simp)
       ·exact⟨_,_,h0⟩
      ·show C ++ [A]=Sn.sgAns K bt fields (k+1)
       rw[hst.out,← hCe.out,HA.out,Hn.out,Hv.out]
     case measure=>simp[Lib.intOf];omega
    ·have hst:=mkHid (Sn.sgAns_no K bt fields k hlt (.inr (by rw[← hCe.out];exact h10)))
     have h10':¬(C.length:Int)<10:=by omega
     clear hnm hB6
     go_wp2
     go_roundw
     case rel=>exact⟨k+1,C,by go_num,by omega,hC,⟨_,_,rfl⟩,hCe.out.trans hst.out.symm,HAn6,HB6⟩
     case measure=>simp[Lib.intOf];omega
  ·have HKL:Hid (k=fields.length):=mkHid (by omega)
   go_wp2
   go_ret
   refine⟨_,rfl,?_,HB4.out.trans (hb.out.mono h4s)⟩
   rw[← HBT.out,← HKL.out,← hCe.out]
   exact Sn.An.base hAn.out h4s
namespace Sn
theorem lastTo_on (p:Nat→Bool)(n:Nat):Go.Proofs.YtacaoiedcfelcaaGreatDoor.lastTo p (n+1)=if p n=true then some n else Go.Proofs.YtacaoiedcfelcaaGreatDoor.lastTo p n:=rfl
theorem lastTo_shift (p:Nat→Bool)(h0:p 0=false):∀n,Go.Proofs.YtacaoiedcfelcaaGreatDoor.lastTo p (n+1)=(Go.Proofs.YtacaoiedcfelcaaGreatDoor.lastTo (fun i=>p (i+1)) n).map (· + 1)
 | 0=>by
  simp[Go.Proofs.YtacaoiedcfelcaaGreatDoor.lastTo,h0]
 | n+1=>by
  have e:=lastTo_shift p h0 n
  rw[lastTo_on p (n+1),lastTo_on (fun i=>p (i+1)) n]
  by_cases hp:p (n+1)=true
  ·rw[if_pos hp,if_pos hp];rfl
  ·rw[if_neg hp,if_neg hp,e]
theorem tkL_ahead (h:Int)(z:Fd):∀(M:List ByteArray)(L:List Fd),(∀m ∈ M,nmF m z=false)→tkL h M (z::L)=tkL h M L
 | [],_,_=>by rw[tkL,tkL]
 | m::ms,L,hz=>by
  have hm:=hz m List.mem_cons_self
  have ih:=fun L=>tkL_ahead h z ms L fun x hx=>hz x (List.mem_cons_of_mem _ hx)
  have e:Go.Proofs.YtacaoiedcfelcaaGreatDoor.lastTo (mtAt (nmF m) (z::L)) (z::L).length=(Go.Proofs.YtacaoiedcfelcaaGreatDoor.lastTo (mtAt (nmF m) L) L.length).map (· + 1):=by
   rw[List.length_cons,lastTo_shift _ (by unfold mtAt;simp[hm])]
   rfl
  rw[tkL,tkL,e]
  cases hl:Go.Proofs.YtacaoiedcfelcaaGreatDoor.lastTo (mtAt (nmF m) L) L.length with
  | none=>simp only[Option.map_none];exact ih L
  | some k=>
   simp only[Option.map_some,List.getElem?_cons_succ]
   cases L[k]? with
   | none=>exact ih L
   | some f=>
    simp only[List.eraseIdx_cons_succ]
    rw[ih]
theorem sgAns_head (K:List Ky)(bt:ByteArray)(F:List Fl)(A:ByteArray × Int):∀(n k:Nat),(sgAns K bt F k).head?=some A→(sgAns K bt F (k+n)).head?=some A
 | 0,_,h=>h
 | n+1,k,h=>by
  have e:=sgAns_head K bt F A n k h
  rw[show k+(n+1)=k+n+1 from rfl,sgAns]
  split
  ·exact e
  ·split
   ·rw[List.head?_append,e];rfl
   ·exact e
theorem sgAns_first (K:List Ky)(bt:ByteArray)(f0:Fl)(F:List Fl)(hn:namedB ⟨f0.1.toArray⟩ sgName=true) :
  (sgAns K bt (f0::F) (f0::F).length).head?=some (ansOf K bt ⟨f0.1.toArray⟩ ⟨f0.2.toArray⟩ (toBA F)):=by
 have h1:=sgAns_yes K bt (f0::F) 0 (by simp) hn (by rw[sgAns];decide)
 rw[List.length_cons,Nat.add_comm]
 refine sgAns_head K bt (f0::F) _ F.length 1 ?_
 rw[show(1:Nat)=0+1 from rfl,h1,sgAns]
 rfl
theorem sgAns_second (K:List Ky)(bt:ByteArray)(z f0:Fl)(F:List Fl)(hz:namedB ⟨z.1.toArray⟩ sgName=false)(hn:namedB ⟨f0.1.toArray⟩ sgName=true) :
  (sgAns K bt (z::f0::F) (z::f0::F).length).head?=some (ansOf K bt ⟨f0.1.toArray⟩ ⟨f0.2.toArray⟩ (toBA (z::F))):=by
 have h0:sgAns K bt (z::f0::F) 1=[]:=(sgAns_no K bt (z::f0::F) 0 (by simp) (.inl hz)).trans (by rw[sgAns])
 have h1:=sgAns_yes K bt (z::f0::F) 1 (by simp) hn (by rw[h0];decide)
 rw[show(z::f0::F).length=2+F.length from by simp only[List.length_cons];omega]
 refine sgAns_head K bt (z::f0::F) _ F.length 2 ?_
 rw[show(2:Nat)=1+1 from rfl,h1,h0]
 rfl
theorem sgAns_len_step (K:List Ky)(bt:ByteArray)(F:List Fl)(k:Nat)(hk:k<F.length):(sgAns K bt F (k+1)).length=if namedB ⟨F[k].1.toArray⟩ sgName=true∧(sgAns K bt F k).length<10 then (sgAns K bt F k).length+1 else (sgAns K bt F k).length:=by
 by_cases h:namedB ⟨F[k].1.toArray⟩ sgName=true∧(sgAns K bt F k).length<10
 ·rw[if_pos h,sgAns_yes K bt F k hk h.1 h.2,List.length_append];rfl
 ·rw[if_neg h,sgAns_no K bt F k hk (by
   by_cases h1:namedB ⟨F[k].1.toArray⟩ sgName=true
   ·exact .inr fun h2=>h ⟨h1,h2⟩
   ·exact .inl (by simpa using h1))]
theorem sgAns_len (K K':List Ky)(bt bt':ByteArray)(F:List Fl):∀k,k≤F.length→(sgAns K bt F k).length=(sgAns K' bt' F k).length
 | 0,_=>by rw[sgAns,sgAns]
 | k+1,h=>by
  have e:=sgAns_len K K' bt bt' F k (by omega)
  rw[sgAns_len_step K bt F k (by omega),sgAns_len_step K' bt' F k (by omega),e]
theorem sgAns_len_ahead (K K':List Ky)(bt bt':ByteArray)(z:Fl)(F:List Fl)(hz:namedB ⟨z.1.toArray⟩ sgName=false):∀k,k≤F.length→(sgAns K bt (z::F) (k+1)).length=(sgAns K' bt' F k).length
 | 0,_=>by rw[sgAns_no K bt (z::F) 0 (by simp) (.inl hz),sgAns,sgAns]
 | k+1,h=>by
  have e:=sgAns_len_ahead K K' bt bt' z F hz k (by omega)
  rw[sgAns_len_step K bt (z::F) (k+1) (by simp;omega),sgAns_len_step K' bt' F k (by omega),e]
  rfl
end Sn
open Go.Lib
namespace Pl
theorem crlf_left (a b:List UInt8)(j:Nat)(h:j+1<a.length):crlf (a++b) j=crlf a j:=by
 have e:((a++b).drop j).take 2=(a.drop j).take 2:=by
  rw[List.drop_append_of_le_length (by omega),List.take_append_of_le_length (by rw[List.length_drop];omega)]
 unfold crlf
 rw[e]
theorem first_crlf (s:List UInt8):∀n k,k≤n→crlf s k=true→∃i,i≤k∧NoCr s i∧crlf s i=true
 | 0,k,hk,h=>by
  obtain rfl:k=0:=by omega
  exact⟨0,Nat.le_refl _,NoCr.zero _,h⟩
 | n+1,k,hk,h=>by
  by_cases hN:NoCr s k
  ·exact⟨k,Nat.le_refl _,hN,h⟩
  ·have:∃j,j<k∧crlf s j=true:=by
    apply Classical.byContradiction
    intro hh
    refine hN fun j hj=>?_
    cases hc:crlf s j
    ·rfl
    ·exact absurd ⟨j,hj,hc⟩ hh
   obtain⟨j,hj,hc⟩:=this
   obtain⟨i,hi,h1,h2⟩:=first_crlf s n j (by omega) hc
   exact⟨i,by omega,h1,h2⟩
theorem lines_app:∀(n:Nat)(s t:List UInt8),s.length≤n→(s=[]∨∃ p,s=p ++ [13,10])→lines (s++t)=lines s++lines t
 | _,_,t,_,.inl rfl=>by rw[lines_nil,List.nil_append,List.nil_append]
 | 0,s,t,hn,.inr ⟨p,hp⟩=>by
  subst hp
  simp at hn
 | n+1,s,t,hn,.inr ⟨p,hp⟩=>by
  have hl:s.length=p.length+2:=by rw[hp];simp
  have hc:crlf s p.length=true:=by
   unfold crlf
   rw[hp,List.drop_left]
   rfl
  obtain⟨i,hi,hN,hc2⟩:=first_crlf s p.length p.length (Nat.le_refl _) hc
  have hN2:NoCr (s++t) i:=fun j hj=>by rw[crlf_left s t j (by omega)];exact hN j hj
  have hc3:crlf (s++t) i=true:=by rw[crlf_left s t i (by omega)];exact hc2
  have hs0:s ≠ []:=fun e=>by rw[e] at hl;simp at hl
  have hs1:s++t ≠ []:=fun e=>hs0 (List.append_eq_nil_iff.1 e).1
  rw[lines_step s hs0,lines_step (s++t) hs1,cut_hit s i hN hc2,cut_hit (s++t) i hN2 hc3]
  simp only
  rw[List.take_append_of_le_length (by omega),List.drop_append_of_le_length (by omega),List.cons_append]
  congr 1
  refine lines_app n (s.drop (i+2)) t (by rw[List.length_drop];omega) ?_
  by_cases h1:i=p.length
  ·left
   rw[List.drop_eq_nil_iff]
   omega
  ·right
   have h2:i+2≤p.length:=by
    apply Classical.byContradiction
    intro hh
    have h3:i+1=p.length:=by omega
    obtain⟨g,-,g2⟩:=(crlf_iff s i).1 hc2
    have:s[p.length]'(by omega)=13:=by
     have:s[p.length]?=some 13:=by rw[hp];simp
     rw[List.getElem?_eq_getElem (by omega)] at this
     exact Option.some.inj this
    have e:s[i+1]'g=s[p.length]'(by omega):=by congr 1
    rw[e,this] at g2
    exact absurd g2 (by decide)
   exact⟨p.drop (i+2),by rw[hp,List.drop_append_of_le_length h2]⟩
theorem dt_two (X:List (List UInt8)):dt (X ++ [[],[]])=dt X:=by
 unfold dt
 simp[List.dropWhile]
end Pl
def tailB:ByteArray:=⟨#[32,13,10,13,10]⟩
theorem canon_tail (a t:ByteArray)(p:List UInt8)(h:a.data.toList=p ++ [13,10])(ht:t.data.toList=a.data.toList ++ [32,13,10,13,10])(hz:t.size≤100000):canonAny t 1=canonAny a 1:=by
 have hl:t.size=a.size+5:=by
  have e1:t.data.toList.length=t.size:=by simp
  have e2:a.data.toList.length=a.size:=by simp
  rw[← e1,ht,List.length_append,e2]
  rfl
 have e:bodyL t 1=bodyL a 1:=by
  unfold bodyL
  rw[if_pos rfl,if_pos rfl,ht,Pl.lines_app _ a.data.toList [32,13,10,13,10] (Nat.le_refl _) (.inr ⟨p,h⟩),List.map_append]
  have:(Pl.lines [32,13,10,13,10]).map Pl.runs=[[],[]]:=by decide
  rw[this,Pl.dt_two]
 unfold canonAny canonB
 rw[e,if_neg (by omega),if_neg (by omega),if_neg (by omega)]
namespace Pl
theorem rd_last (l:List UInt8):∀(g k:Nat)(fs:List Fl),k≤l.length→l.length+1≤g+k→(rd l g k fs).code=0→(rd l g k fs).body=l.length∨∃ j,(rd l g k fs).body=j+2∧crlf l j=true
 | 0,k,fs,hk,hg,_=>by omega
 | g+1,k,fs,hk,hg,hc=>by
  rw[rd] at hc ⊢
  split at hc
  ·rename_i h
   rw[if_pos h]
   exact .inl rfl
  ·rename_i h
   rw[if_neg h]
   split at hc
   ·rename_i h2
    rw[if_pos h2]
    exact .inr ⟨k,rfl,h2⟩
   ·rename_i h2
    rw[if_neg h2]
    cases hI:implF l k with
    | inl p=>rw[hI] at hc;cases hc
    | inr y=>
     obtain⟨n,v,x⟩:=y
     rw[hI] at hc
     simp only at hc ⊢
     split at hc
     ·cases hc
     ·rename_i h3
      rw[if_neg h3]
      obtain⟨hx,hxl⟩:=field_next l k x n v (by omega) hI
      exact rd_last l g x (fs ++ [(n,v)]) hxl (by omega) hc
end Pl
namespace Sn
theorem body_ends (msg:ByteArray)(hc:(RH msg).code=0)(p:List UInt8)(hm:msg.data.toList=p ++ [13,10])(hcb:canonAny (msg.extract (RH msg).body msg.size) 1≠⟨#[]⟩) :
  (RH msg).body≤p.length∧(msg.extract (RH msg).body msg.size).data.toList=p.drop (RH msg).body ++ [13,10]:=by
 obtain⟨hmz,-⟩:=RH_good msg hc
 have hrm:RH msg=Pl.readHead msg.data.toList:=by unfold RH;rw[if_pos hmz]
 have hl:msg.data.toList.length=p.length+2:=by rw[hm];simp
 have hls:msg.data.toList.length=msg.size:=by simp
 have hle:(RH msg).body≤p.length:=by
  have hb:=RH_body msg
  have hc2:=hc
  rw[hrm] at hc2
  have he:(RH msg).body=msg.data.toList.length∨∃ j,(RH msg).body=j+2∧Pl.crlf msg.data.toList j=true:=by
   have h:=Pl.rd_last msg.data.toList (msg.data.toList.length+1) 0 [] (Nat.zero_le _) (by omega) hc2
   rw[hrm]
   exact h
  apply Classical.byContradiction
  intro hh
  by_cases hB:(RH msg).body=msg.data.toList.length
  ·have h:=hB
   refine hcb ?_
   have e:msg.extract (RH msg).body msg.size=⟨#[]⟩:=by
    apply ba_eq
    rw[Lib.extract_to_end,h]
    simp
   rw[e]
   decide
  ·obtain⟨j,h,hj⟩:=he.resolve_left hB
   obtain⟨g,-,g2⟩:=(Pl.crlf_iff _ _).1 hj
   have h1:j+1=p.length:=by omega
   have h2:msg.data.toList[j+1]?=some 13:=by rw[hm,h1];simp
   rw[List.getElem?_eq_getElem g,g2] at h2
   exact absurd h2 (by decide)
 refine⟨hle,?_⟩
 rw[Lib.extract_to_end,hm,List.drop_append_of_le_length hle]
theorem own_tail (msg d s:ByteArray)(A B:Int)(M:List ByteArray)(h:Int)(hne:plSign msg d s A B M h 1≠⟨#[]⟩)(p:List UInt8)(hm:msg.data.toList=p ++ [13,10])(hcb:sgBody msg 1≠⟨#[]⟩)
  (t:ByteArray) (ht:t.data.toList=(plSign msg d s A B M h 1).data.toList ++ [32,13,10,13,10]) (hz:t.size≤100000) :
  RH t=⟨0,0,(Pl.lineL (sgName.data.toList,(sgValue msg d s A.toNat B.toNat M h 1).data.toList)).length+(RH msg).body,(sgName.data.toList,(sgValue msg d s A.toNat B.toNat M h 1).data.toList)::(RH msg).fields⟩ ∧
   canonAny (t.extract (RH t).body t.size) 1=sgBody msg 1:=by
 obtain⟨h1,h2,h3,h4,h5,h6,h7⟩:=sign_form msg d s A B M h 1 hne
 obtain⟨hmz,-⟩:=RH_good msg h2
 have hrm:RH msg=Pl.readHead msg.data.toList:=by unfold RH;rw[if_pos hmz]
 obtain⟨q1,q2⟩:=body_ends msg h2 p hm hcb
 have hl:msg.data.toList.length=p.length+2:=by rw[hm];simp
 have hrt:RH t=Pl.readHead t.data.toList:=by unfold RH;rw[if_pos hz]
 have ht2:t.data.toList=Pl.lineL (sgName.data.toList,(sgValue msg d s A.toNat B.toNat M h 1).data.toList)++(msg.data.toList ++ [32,13,10,13,10]):=by rw[ht,h6,List.append_assoc]
 have hR:RH t=⟨0,0,(Pl.lineL (sgName.data.toList,(sgValue msg d s A.toNat B.toNat M h 1).data.toList)).length+(RH msg).body,(sgName.data.toList,(sgValue msg d s A.toNat B.toNat M h 1).data.toList)::(RH msg).fields⟩:=by
  rw[hrt,ht2,hrm]
  rw[hrm] at h2 h3 q1
  refine Pl.readHead_line _ _ msg.data.toList (msg.data.toList ++ [32,13,10,13,10]) h4 h5 h2 h3 (by omega) (by rw[List.length_append];omega) (fun j hj=>?_)
  have hj2:j<msg.data.toList.length:=by omega
  unfold Pl.b
  rw[List.getD_eq_getElem?_getD,List.getD_eq_getElem?_getD,List.getElem?_append_left hj2]
 refine⟨hR,?_⟩
 rw[hR]
 simp only
 have e:(t.extract ((Pl.lineL (sgName.data.toList,(sgValue msg d s A.toNat B.toNat M h 1).data.toList)).length+(RH msg).body) t.size).data.toList=(msg.extract (RH msg).body msg.size).data.toList ++ [32,13,10,13,10]:=by
  rw[Lib.extract_to_end,Lib.extract_to_end,ht2,Pl.drop_sf,List.drop_append_of_le_length (by omega)]
 unfold sgBody
 refine canon_tail _ _ (p.drop (RH msg).body) q2 e ?_
 rw[ByteArray.size_extract]
 omega
end Sn
end Go.Proofs.YtacaoiedcfelcaaGreatDoor
