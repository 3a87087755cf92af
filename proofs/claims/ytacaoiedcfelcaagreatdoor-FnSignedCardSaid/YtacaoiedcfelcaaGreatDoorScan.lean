import Derived.Test.YtacaoiedcfelcaaGreatDoorAnyVals
import Derived.Laws.Rows
import Derived.Test.YtacaoiedcfelcaaGreatDoorCkTurn
import Derived.Test.YtacaoiedcfelcaaGreatDoorOwnF
import Derived.Lib.QuietBelow
import Derived.Test.YtacaoiedcfelcaaGreatDoorReadLine
import Derived.Deep.QuietTactic
import Derived.BigQuiet
import Derived.Deep.RegionWith
import Derived.WalkSmall
set_option maxRecDepth 20000
set_option maxHeartbeats 4000000
namespace Go.Proofs.YtacaoiedcfelcaaGreatDoor
open Go.RowKit Go.Lib
abbrev sigV (d s:ByteArray)(A B:Int)(n:Value)(h b:Int)(x y p q:Nat):Value:=.agg #[.string d,.string s,.int .i64 A,.int .i64 B,n,.int .i64 h,.int .i64 b,.int .i64 x,.int .i64 y,.int .i64 p,.int .i64 q]
theorem hp_lt' {w:World} {b:Nat} {ob:Obj} (h:w.heap[b]?=some ob):b<w.heap.size:=by
 rcases Nat.lt_or_ge b w.heap.size with h'|h'
 ·exact h'
 ·rw[Array.getElem?_eq_none h'] at h;cases h
theorem hp_al (w:World)(ob:Obj):(w.alloc ob).heap[w.heap.size]?=some ob:=heap_alloc_at w ob
theorem dec_len10:∀(k n:Nat),n<10 ^ (k+1)→(decDigits n).length≤k+1
 | 0,n,h=>by
  rw[decDigits,dif_pos (by omega)]
  simp
 | k+1,n,h=>by
  rw[decDigits]
  by_cases h10:n<10
  ·rw[dif_pos h10];simp
  ·rw[dif_neg h10,List.length_append]
   have:=dec_len10 k (n / 10) (by
    rw[Nat.pow_succ] at h
    omega)
   simp only[List.length_cons,List.length_nil]
   omega
theorem sumT_size (a b:Nat)(ha:a<2147483647)(hb:b<2147483647):(sumT a b).size≤21:=by
 have h1:=dec_len10 9 a (by omega)
 have h2:=dec_len10 9 b (by omega)
 unfold sumT
 rw[ByteArray.size_append,ByteArray.size_append]
 show(decDigits a).toArray.size+1+(decDigits b).toArray.size≤21
 rw[List.size_toArray,List.size_toArray]
 omega
theorem jc_join:∀F:List ByteArray,Lib.join (F.map (·.data.toList)) [58]=jc F
 | []=>rfl
 | [a]=>by simp[Lib.join,List.intercalate,jc]
 | a::b::r=>by
  have ih:=jc_join (b::r)
  simp only[Lib.join,List.intercalate,List.map_cons,List.intersperse,List.flatten_cons] at ih ⊢
  rw[ih]
  show _=a.data.toList++58::jc (b::r)
  simp
theorem cat_front (d s:ByteArray)(F:List ByteArray)(h b:Int)(x y:Nat):catT [⟨#[32,100,61]⟩,d,⟨#[59,32,115,61]⟩,s,⟨#[59,32,99,61]⟩,formT h,⟨#[47]⟩,formT b,⟨#[59,32,104,61]⟩,⟨(jc F).toArray⟩,⟨#[59,32,98,61]⟩,sumT x y,⟨#[59,32,120,61]⟩]=frontT d s F h b x y:=by
 unfold catT frontT
 apply ByteArray.ext
 simp[ByteArray.data_append]
abbrev uvRow (d s th tb tj ts:ByteArray):Obj:=.cells #[.string ⟨#[32,100,61]⟩,.string d,.string ⟨#[59,32,115,61]⟩,.string s,.string ⟨#[59,32,99,61]⟩,.string th,.string ⟨#[47]⟩,.string tb,.string ⟨#[59,32,104,61]⟩,.string tj,.string ⟨#[59,32,98,61]⟩,.string ts,.string ⟨#[59,32,120,61]⟩] 9
def uvFact (g:Nat)(d s:ByteArray)(h b:Int)(fb fo n cap:Nat)(x y:Nat)(th tb tj ts R:ByteArray)(j:Nat)(v:Value)(w:World):Prop:=
 match j with
 | 0=>v=.pointer (some ⟨g,0,none⟩)
 | 1=>v=.pointer (some ⟨g,0,none⟩)
 | 2=>v=.pointer (some ⟨g,0,none⟩)
 | 3=>v=.string d
 | 4=>v=.pointer (some ⟨g,0,none⟩)
 | 5=>v=.pointer (some ⟨g,0,none⟩)
 | 6=>v=.pointer (some ⟨g,1,none⟩)
 | 7=>v=.string s
 | 8=>v=.pointer (some ⟨g,0,none⟩)
 | 9=>v=.pointer (some ⟨g,5,none⟩)
 | 10=>v=.int .i64 h
 | 11=>v=.string th
 | 12=>v=.pointer (some ⟨g,0,none⟩)
 | 13=>v=.pointer (some ⟨g,6,none⟩)
 | 14=>v=.int .i64 b
 | 15=>v=.string tb
 | 16=>v=.pointer (some ⟨g,0,none⟩)
 | 17=>v=.pointer (some ⟨g,4,none⟩)
 | 18=>v=.slice (some ⟨fb,fo,none⟩) n cap
 | 19=>v=.string tj
 | 20=>v=.pointer (some ⟨g,7,none⟩)
 | 21=>v=.agg #[.int .i64 x,.int .i64 y]
 | 22=>v=.string ts
 | 23=>∃ bk,v=.slice (some ⟨bk,0,none⟩) 13 13∧w.heap[bk]?=some (uvRow d s th tb tj ts)
 | 24=>v=.string R
 | 25=>v=.string R
 | _=>True
def uvDst (j:Nat):Nat:=if j=25 then 2 else j+3
abbrev uvAct (g:Nat)(v0:Value)(z:Nat→Value):Act:={ tmps:=#[v0,.pointer (some ⟨g,0,none⟩),z 2,z 3,z 4,z 5,z 6,z 7,z 8,z 9,z 10,z 11,z 12,z 13,z 14,z 15,z 16,z 17,z 18,z 19,z 20,z 21,z 22,z 23,z 24,z 25,z 26,z 27],defers:=[] }
theorem uvFact.gr {g:Nat} {d s:ByteArray} {h b:Int} {fb fo n cap:Nat} {x y:Nat} {th tb tj ts R:ByteArray} (j:Nat)(v:Value)(w w':World)(hf:uvFact g d s h b fb fo n cap x y th tb tj ts R j v w)(hb:Below w.heap.size w w'):uvFact g d s h b fb fo n cap x y th tb tj ts R j v w':=by
 unfold uvFact at hf ⊢
 split
 case h_24=>
  obtain⟨bk,rfl,hk⟩:=hf
  exact⟨bk,rfl,by rw[hb.block bk (hp_lt' hk)];exact hk⟩
 all_goals first|exact hf|trivial
theorem implFront (d s:ByteArray)(A B h b:Int)(fb fo:Nat)(F:List ByteArray)(cap x y p q:Nat)(w:World)(hd:d.size≤300)(hs:s.size≤300)(hF:∀(j:Nat) t,F[j]?=some t→w.cell? ⟨fb,fo+j,none⟩=some (.string t))(hfb:fb<w.heap.size)(hlen:F.length≤30)(hcap:F.length≤cap)(hsz:∀t ∈ F,t.size≤70)(hh:h=0∨h=1)(hb:b=0∨b=1)(hx:x<2147483647)(hy:y<2147483647)(hP:PTab w) :
  Calls Tryz.prog 18 #[sigV d s A B (.slice (some ⟨fb,fo,none⟩) F.length cap) h b x y p q] w fun e w'=>e=.returned (.string (frontT d s F h b x y))∧Below w.heap.size w w':=by
 obtain⟨g,hg⟩:∃g,g=w.heap.size:=⟨_,rfl⟩
 obtain⟨W,hW⟩:∃W,W=w.alloc (.cells #[.string d,.string s,.int .i64 A,.int .i64 B,.slice (some ⟨fb,fo,none⟩) F.length cap,.int .i64 h,.int .i64 b,.int .i64 x,.int .i64 y,.int .i64 p,.int .i64 q] 54):=⟨_,rfl⟩
 have hbW:Below w.heap.size w W:=by rw[hW];exact(Below.refl _ _).alloc (Nat.le_refl _) _
 have hgW:g<W.heap.size:=by rw[hW,hg];simp
 have c0:W.cell? ⟨g,0,none⟩=some (.string d):=by rw[hW,hg];simp
 have c1:W.cell? ⟨g,1,none⟩=some (.string s):=by rw[hW,hg];simp
 have c4:W.cell? ⟨g,4,none⟩=some (.slice (some ⟨fb,fo,none⟩) F.length cap):=by rw[hW,hg];simp
 have c5:W.cell? ⟨g,5,none⟩=some (.int .i64 h):=by rw[hW,hg];simp
 have c6:W.cell? ⟨g,6,none⟩=some (.int .i64 b):=by rw[hW,hg];simp
 have c7:W.cell? ⟨g,7,none⟩=some (.int .i64 x):=by rw[hW,hg];simp
 have c8:W.cell? ⟨g,8,none⟩=some (.int .i64 y):=by rw[hW,hg];simp
 have hPW:PTab W:=ptab_on hP (ptab_lt hP) hbW
 have hFW:∀(j:Nat) t,F[j]?=some t→W.cell? ⟨fb,fo+j,none⟩=some (.string t):=fun j t ht=>(hbW.cell (show fb<w.heap.size from hfb)).trans (hF j t ht)
 have hfW:fb<W.heap.size:=Nat.lt_of_lt_of_le hfb hbW.size
 have hjl:=jc_len F hsz
 have hFh:Hid (∀wr,Below W.heap.size W wr→Calls Tryz.prog 61 #[.int .i64 h] wr fun e w'=>e=.returned (.string (formT h))∧Below wr.heap.size wr w'):=fun wr _=>(implFormT h hh wr).mono (by rintro e w' ⟨rfl,rfl⟩;exact⟨rfl,Below.refl _ _⟩)
 have hFb:Hid (∀wr,Below W.heap.size W wr→Calls Tryz.prog 61 #[.int .i64 b] wr fun e w'=>e=.returned (.string (formT b))∧Below wr.heap.size wr w'):=fun wr _=>(implFormT b hb wr).mono (by rintro e w' ⟨rfl,rfl⟩;exact⟨rfl,Below.refl _ _⟩)
 have hS:Hid (∀wr,Below W.heap.size W wr→Calls Tryz.prog 63 #[.agg #[.int .i64 x,.int .i64 y]] wr fun e w'=>e=.returned (.string (sumT x y))∧Below wr.heap.size wr w'):=fun wr hR=>implSumT x y hx hy wr (ptab_on hPW (ptab_lt hPW) hR)
 have hJ:Hid (∀wr,Below W.heap.size W wr→Calls Tryz.prog 62 #[.slice (some ⟨fb,fo,none⟩) F.length cap,.string ⟨#[58]⟩] wr fun e w'=>e=.returned (.string ⟨(jc F).toArray⟩)∧Below wr.heap.size wr w'):=by
  intro wr hR
  refine(Tryz.strings_Join fb fo cap F ⟨#[58]⟩ wr (fun j t ht=>(hR.cell (show fb<W.heap.size from hfW)).trans (hFW j t ht)) (Nat.lt_of_lt_of_le hfW hR.size) (by omega) hcap ?_).mono ?_
  ·show(Lib.join (F.map (·.data.toList)) [58]).length≤_
   rw[jc_join]
   omega
  ·rintro e w' ⟨rfl,hb'⟩
   refine⟨?_,hb'⟩
   show Ending.returned (.string ⟨(Lib.join (F.map (·.data.toList)) [58]).toArray⟩)=_
   rw[jc_join]
 have zh:(formT h).size≤7:=by unfold formT;split<;>decide
 have zb:(formT b).size≤7:=by unfold formT;split<;>decide
 have zs:=sumT_size x y hx hy
 have zj:(⟨(jc F).toArray⟩:ByteArray).size≤2130:=by
  show(jc F).toArray.size≤_
  rw[List.size_toArray]
  omega
 have hcat:=cat_front d s F h b x y
 have hWr:Hid (∀(wr:World) (bk:Nat),wr.heap[bk]?=some (uvRow d s (formT h) (formT b) ⟨(jc F).toArray⟩ (sumT x y))→Calls Tryz.prog 32 #[.slice (some ⟨bk,0,none⟩) 13 13] wr fun e w'=>e=.returned (.string (frontT d s F h b x y))∧Below wr.heap.size wr w'):=by
  intro wr bk hk
  rw[← hcat]
  generalize formT h=th at *
  generalize formT b=tb at *
  generalize (⟨(jc F).toArray⟩:ByteArray)=tj at *
  generalize sumT x y=ts at *
  refine implWrittenAll [⟨#[32,100,61]⟩,d,⟨#[59,32,115,61]⟩,s,⟨#[59,32,99,61]⟩,th,⟨#[47]⟩,tb,⟨#[59,32,104,61]⟩,tj,⟨#[59,32,98,61]⟩,ts,⟨#[59,32,120,61]⟩] bk 13 wr ?_ (hp_lt' hk) (by simp) (by simp) ?_
  ·intro j t ht
   have hcell:∀(v:Value),(#[Value.string ⟨#[32,100,61]⟩,.string d,.string ⟨#[59,32,115,61]⟩,.string s,.string ⟨#[59,32,99,61]⟩,.string th,.string ⟨#[47]⟩,.string tb,.string ⟨#[59,32,104,61]⟩,.string tj,.string ⟨#[59,32,98,61]⟩,.string ts,.string ⟨#[59,32,120,61]⟩]:Array Value)[0+j]?=some v→wr.cell? ⟨bk,0+j,none⟩=some v:=by
    intro v hv
    exact(cell_of_row wr bk (0+j) _ _ _ hk).trans hv
   refine hcell _ ?_
   have hj:j<13:=by
    have:=(List.getElem?_eq_some_iff.1 ht).1
    simpa using this
   rw[Nat.zero_add]
   match j,hj,ht with
   | 0,_,ht=>cases ht;rfl
   | 1,_,ht=>cases ht;rfl
   | 2,_,ht=>cases ht;rfl
   | 3,_,ht=>cases ht;rfl
   | 4,_,ht=>cases ht;rfl
   | 5,_,ht=>cases ht;rfl
   | 6,_,ht=>cases ht;rfl
   | 7,_,ht=>cases ht;rfl
   | 8,_,ht=>cases ht;rfl
   | 9,_,ht=>cases ht;rfl
   | 10,_,ht=>cases ht;rfl
   | 11,_,ht=>cases ht;rfl
   | 12,_,ht=>cases ht;rfl
  ·have l3:(⟨#[32,100,61]⟩:ByteArray).size=3:=rfl
   have l4:(⟨#[59,32,115,61]⟩:ByteArray).size=4:=rfl
   have l5:(⟨#[59,32,99,61]⟩:ByteArray).size=4:=rfl
   have l6:(⟨#[47]⟩:ByteArray).size=1:=rfl
   have l7:(⟨#[59,32,104,61]⟩:ByteArray).size=4:=rfl
   have l8:(⟨#[59,32,98,61]⟩:ByteArray).size=4:=rfl
   have l9:(⟨#[59,32,120,61]⟩:ByteArray).size=4:=rfl
   simp only[allSz,List.map_cons,List.map_nil,List.sum_cons,List.sum_nil,l3,l4,l5,l6,l7,l8,l9]
   omega
 clear hcat zh zb zs zj hjl hF hFW hPW hP hsz hh hb hx hy
 generalize frontT d s F h b x y=R at *
 generalize formT h=th at *
 generalize formT b=tb at *
 generalize (⟨(jc F).toArray⟩:ByteArray)=tj at *
 generalize sumT x y=ts at *
 go_enter Tryz.func18,Tryz.ntmps18
 go_wp2
 rw[← hW,← hg]
 clear hW hg
 refine wp_region_any (by kernel_rfl) ?_
 refine wpAny_vals uvDst (uvAct g (sigV d s A B (.slice (some ⟨fb,fo,none⟩) F.length cap) h b x y p q)) (uvFact g d s h b fb fo F.length cap x y th tb tj ts R) (fun w w'=>Below w.heap.size w w') W (by kernel_rfl) ?_ (fun a b c h1 h2=>h1.trans (h2.mono h1.size)) uvFact.gr ?_ ?_ _ _ _ _ rfl rfl rfl ((Below.refl _ _).drew) (fun j=>if j=2 then .string ⟨#[]⟩ else undef) rfl
 ·intro i j hi hj hne
  have hi:i<26:=hi
  have hj:j<26:=hj
  unfold uvDst
  split<;>split<;>omega
 ·intro z wr hR hf
  have e:z 2=.string R:=hf 25 (by decide)
  go_simp
  go_wp2
  go_ret
  exact⟨by rw[← e];rfl,hbW.trans (hR.mono hbW.size)⟩
 ·intro z L wr i hR hi hf
  obtain⟨hlt,hL⟩:=mem_ready hi
  have hlt:i<26:=hlt
  clear hL hbW
  rcases (show i=0∨i=1∨i=2∨i=3∨i=4∨i=5∨i=6∨i=7∨i=8∨i=9∨i=10∨i=11∨i=12∨i=13∨i=14∨i=15∨i=16∨i=17∨i=18∨i=19∨i=20∨i=21∨i=22∨i=23∨i=24∨i=25 by omega) with rfl|rfl|rfl|rfl|rfl|rfl|rfl|rfl|rfl|rfl|rfl|rfl|rfl|rfl|rfl|rfl|rfl|rfl|rfl|rfl|rfl|rfl|rfl|rfl|rfl|rfl
  ·clear hi hf
   refine wpOp_step rfl (fun K hK=>?_)
   go_simp
   exact hK _ _ ⟨.pointer (some ⟨g,0,none⟩),by simp[put,uvDst],rfl,Below.refl _ _⟩
  ·have e0:z 3=.pointer (some ⟨g,0,none⟩):=hf 0 (ready_dep hi rfl 0 (by kernel_rfl))
   clear hi hf
   refine wpOp_step rfl (fun K hK=>?_)
   go_simp
   exact hK _ _ ⟨.pointer (some ⟨g,0,none⟩),by simp[put,uvDst,e0],rfl,Below.refl _ _⟩
  ·have e1:z 4=.pointer (some ⟨g,0,none⟩):=hf 1 (ready_dep hi rfl 1 (by kernel_rfl))
   clear hi hf
   refine wpOp_step rfl (fun K hK=>?_)
   go_simp
   exact hK _ _ ⟨.pointer (some ⟨g,0,none⟩),by simp[put,uvDst,e1],rfl,Below.refl _ _⟩
  ·have e2:z 5=.pointer (some ⟨g,0,none⟩):=hf 2 (ready_dep hi rfl 2 (by kernel_rfl))
   have qc0:wr.cell? ⟨g,0,none⟩=some (.string d):=(hR.cell (show g<W.heap.size from hgW)).trans c0
   clear hi hf
   refine wpOp_step rfl (fun K hK=>?_)
   go_simp
   exact hK _ _ ⟨.string d,by simp[put,uvDst,e2],rfl,Below.refl _ _⟩
  ·clear hi hf
   refine wpOp_step rfl (fun K hK=>?_)
   go_simp
   exact hK _ _ ⟨.pointer (some ⟨g,0,none⟩),by simp[put,uvDst],rfl,Below.refl _ _⟩
  ·have e4:z 7=.pointer (some ⟨g,0,none⟩):=hf 4 (ready_dep hi rfl 4 (by kernel_rfl))
   clear hi hf
   refine wpOp_step rfl (fun K hK=>?_)
   go_simp
   exact hK _ _ ⟨.pointer (some ⟨g,0,none⟩),by simp[put,uvDst,e4],rfl,Below.refl _ _⟩
  ·have e5:z 8=.pointer (some ⟨g,0,none⟩):=hf 5 (ready_dep hi rfl 5 (by kernel_rfl))
   clear hi hf
   refine wpOp_step rfl (fun K hK=>?_)
   go_simp
   exact hK _ _ ⟨.pointer (some ⟨g,1,none⟩),by simp[put,uvDst,e5],rfl,Below.refl _ _⟩
  ·have e6:z 9=.pointer (some ⟨g,1,none⟩):=hf 6 (ready_dep hi rfl 6 (by kernel_rfl))
   have qc1:wr.cell? ⟨g,1,none⟩=some (.string s):=(hR.cell (show g<W.heap.size from hgW)).trans c1
   clear hi hf
   refine wpOp_step rfl (fun K hK=>?_)
   go_simp
   exact hK _ _ ⟨.string s,by simp[put,uvDst,e6],rfl,Below.refl _ _⟩
  ·clear hi hf
   refine wpOp_step rfl (fun K hK=>?_)
   go_simp
   exact hK _ _ ⟨.pointer (some ⟨g,0,none⟩),by simp[put,uvDst],rfl,Below.refl _ _⟩
  ·have e8:z 11=.pointer (some ⟨g,0,none⟩):=hf 8 (ready_dep hi rfl 8 (by kernel_rfl))
   clear hi hf
   refine wpOp_step rfl (fun K hK=>?_)
   go_simp
   exact hK _ _ ⟨.pointer (some ⟨g,5,none⟩),by simp[put,uvDst,e8],rfl,Below.refl _ _⟩
  ·have e9:z 12=.pointer (some ⟨g,5,none⟩):=hf 9 (ready_dep hi rfl 9 (by kernel_rfl))
   have qc5:wr.cell? ⟨g,5,none⟩=some (.int .i64 h):=(hR.cell (show g<W.heap.size from hgW)).trans c5
   clear hi hf
   refine wpOp_step rfl (fun K hK=>?_)
   go_simp
   exact hK _ _ ⟨.int .i64 h,by simp[put,uvDst,e9],rfl,Below.refl _ _⟩
  ·have e10:z 13=.int .i64 h:=hf 10 (ready_dep hi rfl 10 (by kernel_rfl))
   clear hi hf
   refine wpOp_step rfl (fun K hK=>?_)
   go_simp
   refine(hFh.out wr hR).mono ?_
   rintro e w2 ⟨rfl,hb2⟩
   go_simp
   exact hK _ _ ⟨.string th,by simp[put,uvDst,e10],rfl,hb2⟩
  ·clear hi hf
   refine wpOp_step rfl (fun K hK=>?_)
   go_simp
   exact hK _ _ ⟨.pointer (some ⟨g,0,none⟩),by simp[put,uvDst],rfl,Below.refl _ _⟩
  ·have e12:z 15=.pointer (some ⟨g,0,none⟩):=hf 12 (ready_dep hi rfl 12 (by kernel_rfl))
   clear hi hf
   refine wpOp_step rfl (fun K hK=>?_)
   go_simp
   exact hK _ _ ⟨.pointer (some ⟨g,6,none⟩),by simp[put,uvDst,e12],rfl,Below.refl _ _⟩
  ·have e13:z 16=.pointer (some ⟨g,6,none⟩):=hf 13 (ready_dep hi rfl 13 (by kernel_rfl))
   have qc6:wr.cell? ⟨g,6,none⟩=some (.int .i64 b):=(hR.cell (show g<W.heap.size from hgW)).trans c6
   clear hi hf
   refine wpOp_step rfl (fun K hK=>?_)
   go_simp
   exact hK _ _ ⟨.int .i64 b,by simp[put,uvDst,e13],rfl,Below.refl _ _⟩
  ·have e14:z 17=.int .i64 b:=hf 14 (ready_dep hi rfl 14 (by kernel_rfl))
   clear hi hf
   refine wpOp_step rfl (fun K hK=>?_)
   go_simp
   refine(hFb.out wr hR).mono ?_
   rintro e w2 ⟨rfl,hb2⟩
   go_simp
   exact hK _ _ ⟨.string tb,by simp[put,uvDst,e14],rfl,hb2⟩
  ·clear hi hf
   refine wpOp_step rfl (fun K hK=>?_)
   go_simp
   exact hK _ _ ⟨.pointer (some ⟨g,0,none⟩),by simp[put,uvDst],rfl,Below.refl _ _⟩
  ·have e16:z 19=.pointer (some ⟨g,0,none⟩):=hf 16 (ready_dep hi rfl 16 (by kernel_rfl))
   clear hi hf
   refine wpOp_step rfl (fun K hK=>?_)
   go_simp
   exact hK _ _ ⟨.pointer (some ⟨g,4,none⟩),by simp[put,uvDst,e16],rfl,Below.refl _ _⟩
  ·have e17:z 20=.pointer (some ⟨g,4,none⟩):=hf 17 (ready_dep hi rfl 17 (by kernel_rfl))
   have qc4:wr.cell? ⟨g,4,none⟩=some (.slice (some ⟨fb,fo,none⟩) F.length cap):=(hR.cell (show g<W.heap.size from hgW)).trans c4
   clear hi hf
   refine wpOp_step rfl (fun K hK=>?_)
   go_simp
   exact hK _ _ ⟨.slice (some ⟨fb,fo,none⟩) F.length cap,by simp[put,uvDst,e17],rfl,Below.refl _ _⟩
  ·have e18:z 21=.slice (some ⟨fb,fo,none⟩) F.length cap:=hf 18 (ready_dep hi rfl 18 (by kernel_rfl))
   clear hi hf
   refine wpOp_step rfl (fun K hK=>?_)
   go_simp
   refine(hJ.out wr hR).mono ?_
   rintro e w2 ⟨rfl,hb2⟩
   go_simp
   exact hK _ _ ⟨.string tj,by simp[put,uvDst,e18],rfl,hb2⟩
  ·clear hi hf
   refine wpOp_step rfl (fun K hK=>?_)
   go_simp
   exact hK _ _ ⟨.pointer (some ⟨g,7,none⟩),by simp[put,uvDst],rfl,Below.refl _ _⟩
  ·have e20:z 23=.pointer (some ⟨g,7,none⟩):=hf 20 (ready_dep hi rfl 20 (by kernel_rfl))
   have qc7:wr.cell? ⟨g,7,none⟩=some (.int .i64 x):=(hR.cell (show g<W.heap.size from hgW)).trans c7
   have qc8:wr.cell? ⟨g,8,none⟩=some (.int .i64 y):=(hR.cell (show g<W.heap.size from hgW)).trans c8
   clear hi hf
   refine wpOp_step rfl (fun K hK=>?_)
   go_simp
   exact hK _ _ ⟨.agg #[.int .i64 x,.int .i64 y],by simp[put,uvDst,e20],rfl,Below.refl _ _⟩
  ·have e21:z 24=.agg #[.int .i64 x,.int .i64 y]:=hf 21 (ready_dep hi rfl 21 (by kernel_rfl))
   clear hi hf
   refine wpOp_step rfl (fun K hK=>?_)
   go_simp
   refine(hS.out wr hR).mono ?_
   rintro e w2 ⟨rfl,hb2⟩
   go_simp
   exact hK _ _ ⟨.string ts,by simp[put,uvDst,e21],rfl,hb2⟩
  ·have e3:z 6=.string d:=hf 3 (ready_dep hi rfl 3 (by kernel_rfl))
   have e7:z 10=.string s:=hf 7 (ready_dep hi rfl 7 (by kernel_rfl))
   have e11:z 14=.string th:=hf 11 (ready_dep hi rfl 11 (by kernel_rfl))
   have e15:z 18=.string tb:=hf 15 (ready_dep hi rfl 15 (by kernel_rfl))
   have e19:z 22=.string tj:=hf 19 (ready_dep hi rfl 19 (by kernel_rfl))
   have e22:z 25=.string ts:=hf 22 (ready_dep hi rfl 22 (by kernel_rfl))
   clear hi hf
   refine wpOp_step rfl (fun K hK=>?_)
   go_simp
   exact hK _ _ ⟨.slice (some ⟨wr.heap.size,0,none⟩) 13 13,by simp[put,uvDst,e3,e7,e11,e15,e19,e22],⟨_,rfl,hp_al wr _⟩,(Below.refl _ _).alloc (Nat.le_refl _) _⟩
  ·have f23:∃bk,z 26=.slice (some ⟨bk,0,none⟩) 13 13∧wr.heap[bk]?=some (uvRow d s th tb tj ts):=hf 23 (ready_dep hi rfl 23 (by kernel_rfl))
   obtain⟨bk,e23,hbk⟩:=f23
   clear hi hf
   refine wpOp_step rfl (fun K hK=>?_)
   go_simp
   refine(hWr.out wr bk hbk).mono ?_
   rintro e w2 ⟨rfl,hb2⟩
   go_simp
   exact hK _ _ ⟨.string R,by simp[put,uvDst,e23],rfl,hb2⟩
  ·have e24:z 27=.string R:=hf 24 (ready_dep hi rfl 24 (by kernel_rfl))
   clear hi hf
   refine wpOp_step rfl (fun K hK=>?_)
   go_simp
   exact hK _ _ ⟨.string R,by simp[put,uvDst,e24],rfl,Below.refl _ _⟩
set_option maxRecDepth 10000 in
theorem implValueT (d s:ByteArray)(A B h b:Int)(fb fo:Nat)(F:List ByteArray)(cap x y p q:Nat)(w:World)(hd:d.size≤300)(hs:s.size≤300)(hF:∀(j:Nat) t,F[j]?=some t→w.cell? ⟨fb,fo+j,none⟩=some (.string t))(hfb:fb<w.heap.size)(hlen:F.length≤30)(hcap:F.length≤cap)(hsz:∀t ∈ F,t.size≤70)(hh:h=0∨h=1)(hb:b=0∨b=1)(hx:x<2147483647)(hy:y<2147483647)(hp:p<2147483647)(hq:q<2147483647)(hP:PTab w) :
  Calls Tryz.prog 20 #[sigV d s A B (.slice (some ⟨fb,fo,none⟩) F.length cap) h b x y p q] w fun e w'=>e=.returned (.string (frontT d s F h b x y++sumT p q))∧Below w.heap.size w w':=by
 obtain⟨W,hW⟩:∃W,W=w.alloc (.cells #[.string d,.string s,.int .i64 A,.int .i64 B,.slice (some ⟨fb,fo,none⟩) F.length cap,.int .i64 h,.int .i64 b,.int .i64 x,.int .i64 y,.int .i64 p,.int .i64 q] 54):=⟨_,rfl⟩
 have hbW:Below w.heap.size w W:=by rw[hW];exact(Below.refl _ _).alloc (Nat.le_refl _) _
 have hPW:PTab W:=ptab_on hP (ptab_lt hP) hbW
 have hFW:∀(j:Nat) t,F[j]?=some t→W.cell? ⟨fb,fo+j,none⟩=some (.string t):=fun j t ht=>(hbW.cell (show fb<w.heap.size from hfb)).trans (hF j t ht)
 have hfW:fb<W.heap.size:=Nat.lt_of_lt_of_le hfb hbW.size
 have c0:W.cell? ⟨w.heap.size,0,none⟩=some (.string d):=by rw[hW];simp
 have c1:W.cell? ⟨w.heap.size,1,none⟩=some (.string s):=by rw[hW];simp
 have c2:W.cell? ⟨w.heap.size,2,none⟩=some (.int .i64 A):=by rw[hW];simp
 have c3:W.cell? ⟨w.heap.size,3,none⟩=some (.int .i64 B):=by rw[hW];simp
 have c4:W.cell? ⟨w.heap.size,4,none⟩=some (.slice (some ⟨fb,fo,none⟩) F.length cap):=by rw[hW];simp
 have c5:W.cell? ⟨w.heap.size,5,none⟩=some (.int .i64 h):=by rw[hW];simp
 have c6:W.cell? ⟨w.heap.size,6,none⟩=some (.int .i64 b):=by rw[hW];simp
 have c7:W.cell? ⟨w.heap.size,7,none⟩=some (.int .i64 x):=by rw[hW];simp
 have c8:W.cell? ⟨w.heap.size,8,none⟩=some (.int .i64 y):=by rw[hW];simp
 have c9:W.cell? ⟨w.heap.size,9,none⟩=some (.int .i64 p):=by rw[hW];simp
 have c10:W.cell? ⟨w.heap.size,10,none⟩=some (.int .i64 q):=by rw[hW];simp
 have k0:=cell_regrown c0
 have k1:=cell_regrown c1
 have k2:=cell_regrown c2
 have k3:=cell_regrown c3
 have k4:=cell_regrown c4
 have k5:=cell_regrown c5
 have k6:=cell_regrown c6
 have k7:=cell_regrown c7
 have k8:=cell_regrown c8
 have k9:=cell_regrown c9
 have k10:=cell_regrown c10
 have cF:∀dr os,Calls Tryz.prog 18 #[sigV d s A B (.slice (some ⟨fb,fo,none⟩) F.length cap) h b x y p q] (Go.Sort.grow (redrawn W dr) os) fun e w''=>e=.returned (.string (frontT d s F h b x y))∧∃p:Regrown,w''=Go.Sort.grow (redrawn W p.d) p.os:=fun dr os=>Calls.regrown_of (implFront d s A B h b fb fo F cap x y p q _ hd hs (fun j t ht=>cell_regrown (hFW j t ht) dr os) (Nat.lt_of_lt_of_le hfW (below_regrown W dr os).size) hlen hcap hsz hh hb hx hy (ptab_on hPW (ptab_lt hPW) (below_regrown W dr os)))
 have cS:∀dr os,Calls Tryz.prog 63 #[sumV p q] (Go.Sort.grow (redrawn W dr) os) fun e w''=>e=.returned (.string (sumT p q))∧∃p:Regrown,w''=Go.Sort.grow (redrawn W p.d) p.os:=fun dr os=>Calls.regrown_of (implSumT p q hp hq _ (ptab_on hPW (ptab_lt hPW) (below_regrown W dr os)))
 have CF:=(show Hid _ from cF)
 have CS:=(show Hid _ from cS)
 have zs:=sumT_size p q hp hq
 have zf:(frontT d s F h b x y).size≤100000:=by
  rw[← cat_front,catT_size]
  have zh:(formT h).size≤7:=by unfold formT;split<;>decide
  have zb:(formT b).size≤7:=by unfold formT;split<;>decide
  have zs:=sumT_size x y hx hy
  have hjl:=jc_len F hsz
  have zj:(⟨(jc F).toArray⟩:ByteArray).size≤2130:=by
   show(jc F).toArray.size≤_
   rw[List.size_toArray]
   omega
  have l3:(⟨#[32,100,61]⟩:ByteArray).size=3:=rfl
  have l4:(⟨#[59,32,115,61]⟩:ByteArray).size=4:=rfl
  have l5:(⟨#[59,32,99,61]⟩:ByteArray).size=4:=rfl
  have l6:(⟨#[47]⟩:ByteArray).size=1:=rfl
  have l7:(⟨#[59,32,104,61]⟩:ByteArray).size=4:=rfl
  have l8:(⟨#[59,32,98,61]⟩:ByteArray).size=4:=rfl
  have l9:(⟨#[59,32,120,61]⟩:ByteArray).size=4:=rfl
  simp only[allSz,List.map_cons,List.map_nil,List.sum_cons,List.sum_nil,l3,l4,l5,l6,l7,l8,l9]
  omega
 have n0:¬9223372036854775807<(frontT d s F h b x y).size+(sumT p q).size:=by omega
 generalize frontT d s F h b x y=R at *
 generalize sumT p q=ts at *
 clear cF cS hF hFW hPW hP hsz hh hb hx hy hp hq c0 c1 c2 c3 c4 c5 c6 c7 c8 c9 c10
 go_enter Tryz.func20,Tryz.ntmps20
 go_wp2
 rw[← hW]
 clear hW
 refine wp_region_quiet_below (by kernel_rfl) (by kernel_rfl) ?_
 repeat (quiet_step (fail))
 quiet_step (exact CF.out _ _)
 repeat (quiet_step (fail))
 quiet_step (exact CS.out _ _)
 repeat (quiet_step (fail))
 refine wpQuiet_nil ?_
 intro _ hw'
 obtain⟨⟨dq,osq⟩,hw''⟩:=hw'
 subst hw''
 have hbq:=hbW.trans ((below_regrown W dq osq).mono hbW.size)
 go_wp2
 go_ret
 exact⟨rfl,hbq⟩
namespace Sn
def numW (l:List UInt8):Int:=match Lib.parseIntB 64 l with
 | .ok v=>v
 | _=>0
def cutA (t p:ByteArray):ByteArray:=⟨(Lib.cut t.data.toList p.data.toList).1.toArray⟩
def cutR (t p:ByteArray):ByteArray:=⟨(Lib.cut t.data.toList p.data.toList).2.1.toArray⟩
def cutF (t p:ByteArray):Bool:=(Lib.cut t.data.toList p.data.toList).2.2
theorem cut_sizes (t p:ByteArray):(cutA t p).size≤t.size∧(cutR t p).size≤t.size:=by
 have hl:t.data.toList.length=t.size:=by simp
 unfold cutA cutR
 show(Lib.cut t.data.toList p.data.toList).1.toArray.size≤_∧(Lib.cut t.data.toList p.data.toList).2.1.toArray.size≤_
 rw[List.size_toArray,List.size_toArray]
 unfold Lib.cut
 split<;>simp<;>omega
end Sn
def ErrAt (g:Nat)(w:World):Prop:=g<w.heap.size∧∃ev,w.cell? ⟨g,0,none⟩=some ev∧(ev=.nilIface∨∃ te pe,ev=.iface te pe)
theorem ErrAt.below {g:Nat} {w w':World} (h:ErrAt g w)(hb:Below w.heap.size w w'):ErrAt g w':=by
 obtain⟨h0,ev,h1,h2⟩:=h
 refine⟨Nat.lt_of_lt_of_le h0 hb.size,ev,?_,h2⟩
 rw[← h1]
 exact hb.cell h0
structure CkW (w:World):Prop where
 most:∃m:Int,w.cell? ⟨0,0,none⟩=some (.int .i64 m)
 tab:PTab w
 syn:ErrAt 6 w
 rng:ErrAt 7 w
theorem CkW.below {w w':World} (h:CkW w)(hb:Below w.heap.size w w'):CkW w' where
 most:=by
  obtain⟨m,hm⟩:=h.most
  exact⟨m,(hb.cell (p:=⟨0,0,none⟩) (World.block_lt_of_cell? _ _ hm)).trans hm⟩
 tab:=ptab_on h.tab (ptab_lt h.tab) hb
 syn:=h.syn.below hb
 rng:=h.rng.below hb
theorem implNumAny (t:ByteArray)(w:World)(hs:t.size≤1048576)(hW:CkW w):Calls Tryz.prog 174 #[.string t] w fun e w'=>e=.returned (.int .i64 (Sn.numW t.data.toList))∧Below w.heap.size w w':=by
 unfold Sn.numW
 cases hp:Lib.parseIntB 64 t.data.toList with
 | ok v=>
  have cP0:=Tryz.strconv_ParseInt_10_at64_ok t (by omega) v hp w
  have cP:Hid (Calls Tryz.prog 209 #[.string t,.int .i64 10,.int .i64 64] w fun e w'=>e=.returned (.tuple #[.int .i64 v,.nilIface])∧Below w.heap.size w w'):=by
   refine cP0.mono ?_
   rintro e w' ⟨rfl,h⟩
   refine⟨rfl,?_⟩
   rcases h with rfl|⟨b,rfl⟩
   ·exact Below.refl _ _
   ·exact bytesWorld_below _ _ _
  clear cP0 hp hW
  go_enter Tryz.func174,Tryz.ntmps174
  go_wp2_with fail
  refine cP.out.mono ?_
  rintro e w1 ⟨rfl,hb⟩
  go_wp2
  go_ret
  exact⟨rfl,hb⟩
 | «syntax»=>
  obtain⟨h0,ev,h1,h2⟩:=hW.syn
  have cP:=mkHid (Tryz.strconv_ParseInt_10_at64_syntax t (by omega) hp ev w h1 h2)
  clear hp hW h1 h2
  go_enter Tryz.func174,Tryz.ntmps174
  go_wp2_with fail
  refine cP.out.mono ?_
  rintro e w1 ⟨N,rfl,-,-,hb⟩
  go_wp2
  go_ret
  exact⟨rfl,hb⟩
 | range=>
  obtain⟨h0,ev,h1,h2⟩:=hW.rng
  have cP:=mkHid (Tryz.strconv_ParseInt_10_at64_range t (by omega) hp ev w h1 h2)
  clear hp hW h1 h2
  generalize Lib.intSat 64 t.data.toList=q at *
  go_enter Tryz.func174,Tryz.ntmps174
  go_wp2_with fail
  refine cP.out.mono ?_
  rintro e w1 ⟨N,rfl,-,-,hb⟩
  go_wp2
  go_ret
  exact⟨rfl,hb⟩
theorem libCutAny (t p:ByteArray)(w:World)(ht:t.size≤1048576)(hW:CkW w) :
  Calls Tryz.prog 100 #[.string t,.string p] w fun e w'=>e=.returned (.tuple #[.string (Sn.cutA t p),.string (Sn.cutR t p),.bool (Sn.cutF t p)])∧Below w.heap.size w w':=by
 obtain⟨m,hm⟩:=hW.most
 refine(Tryz.strings_Cut t p m w (by omega) hm).mono ?_
 rintro e w' ⟨rfl,n,rfl⟩
 exact⟨rfl,Go.below_drewN (Below.refl _ _) _⟩
theorem implSumShown (t:ByteArray)(w:World)(hs:t.size≤1048576)(hW:CkW w):Calls Tryz.prog 119 #[.string t] w fun e w'=>e=.returned (.agg #[.int .i64 (Sn.numW (Sn.cutA t ⟨#[45]⟩).data.toList),.int .i64 (Sn.numW (Sn.cutR t ⟨#[45]⟩).data.toList)])∧Below w.heap.size w w':=by
 obtain⟨W,hWe⟩:∃W,W=w.alloc (.cells #[.int .i64 0,.int .i64 0] 51):=⟨_,rfl⟩
 have hbW:Below w.heap.size w W:=by rw[hWe];exact(Below.refl _ _).alloc (Nat.le_refl _) _
 have hWs:W.heap.size=w.heap.size+1:=by rw[hWe];simp
 have hrow:W.heap[w.heap.size]?=some (.cells #[.int .i64 0,.int .i64 0] 51 (0,0)):=by rw[hWe];exact heap_alloc_at _ _
 have cC:=mkHid (libCutAny t ⟨#[45]⟩ W hs (hW.below hbW))
 obtain⟨z1,z2⟩:=Sn.cut_sizes t ⟨#[45]⟩
 have HW:=mkHid (hW.below hbW)
 generalize Sn.cutA t ⟨#[45]⟩=a at *
 generalize Sn.cutR t ⟨#[45]⟩=b at *
 generalize Sn.cutF t ⟨#[45]⟩=c at *
 obtain⟨x,hx⟩:∃x,x=Sn.numW a.data.toList:=⟨_,rfl⟩
 obtain⟨y,hy⟩:∃y,y=Sn.numW b.data.toList:=⟨_,rfl⟩
 rw[← hx,← hy]
 have Hx:=mkHid hx
 have Hy:=mkHid hy
 clear hx hy
 have HWe:=mkHid hWe
 have Hrow:=mkHid hrow
 have HbW:=mkHid hbW
 have hlt:w.heap.size<W.heap.size:=by omega
 clear hW hWe hrow hWs hbW
 go_enter Tryz.func119,Tryz.ntmps119
 go_wp2_with fail
 rw[← HWe.out]
 refine cC.out.mono ?_
 rintro e w1 ⟨rfl,hb1⟩
 have HW1:=HW.out.below hb1
 have c1:=implNumAny a w1 (by omega) HW1
 rw[← Hx.out] at c1
 replace c1:=mkHid c1
 have Hb1:=mkHid hb1
 clear hb1 HWe cC
 go_wp2_with fail
 refine c1.out.mono ?_
 rintro e w2 ⟨rfl,hb2⟩
 have c2:=implNumAny b w2 (by omega) (HW1.below hb2)
 rw[← Hy.out] at c2
 replace c2:=mkHid c2
 have Hb2:=mkHid (Hb1.out.trans (hb2.mono Hb1.out.size))
 clear hb2 c1 HW1 HW
 go_wp2_with fail
 refine c2.out.mono ?_
 rintro e w3 ⟨rfl,hb3⟩
 have Hb3:=mkHid (Hb2.out.trans (hb3.mono Hb2.out.size))
 have hr3:w3.heap[w.heap.size]?=some (.cells #[.int .i64 0,.int .i64 0] 51 (0,0)):=(Hb3.out.block _ hlt).trans Hrow.out
 have Hend:=mkHid (HbW.out.trans (Hb3.out.mono HbW.out.size))
 clear hb3 c2 Hb1 Hb2
 go_wp2_with (refine wpL_store_row rfl 51 _ _ rfl w.heap.size #[.int .i64 x,.int .i64 y] rfl rfl 51 _ hr3 (by kernel_rfl) rfl (by simp[Value.oneCell']) ?_)
 refine bodyPost_ret (v:=.agg #[.int .i64 x,.int .i64 y]) (results_cell_row Tryz.results119 _ _ w.heap.size 51 _ (0,0) _ rfl (setRow_heap _ _ _ _ _ _ hr3) Tryz.underlying51 rfl (by kernel_rfl)) rfl ⟨rfl,?_⟩
 exact Hend.out.grown (grown_setRow _ _ _) Hend.out.size (fun j hj=>by cases hj;exact Nat.le_refl _)
theorem implFormNamed (t:ByteArray)(w:World):Calls Tryz.prog 118 #[.string t] w fun e w'=>e=.returned (.int .i64 (if t=⟨#[114,101,108,97,120,101,100]⟩ then 1 else 0))∧w=w':=by
 by_cases h:t=⟨#[114,101,108,97,120,101,100]⟩
 ·subst h
  rw[if_pos rfl]
  go_enter Tryz.func118,Tryz.ntmps118
  go_wp2
  go_ret
  exact⟨rfl,rfl⟩
 ·rw[if_neg h]
  have hq:(t.toList == [114,101,108,97,120,101,100])=false:=by
   rw[beq_eq_false_iff_ne,ByteArray.toList_eq]
   intro e
   exact h (by apply ByteArray.ext;apply Array.ext';exact e)
  clear h
  go_enter Tryz.func118,Tryz.ntmps118
  go_wp2
  go_ret
  exact⟨rfl,rfl⟩
def Sn.sumR (x y:Int):Bool:=decide (0≤x) && (decide (x<2147483647) && (decide (0≤y) && decide (y<2147483647)))
theorem implIsSum (x y:Int)(w:World):Calls Tryz.prog 120 #[.agg #[.int .i64 x,.int .i64 y]] w fun e w'=>e=.returned (.bool (Sn.sumR x y))∧Below w.heap.size w w':=by
 have hA:Below w.heap.size w (w.alloc (.cells #[.int .i64 x,.int .i64 y] 51)):=(Below.refl _ _).alloc (Nat.le_refl _) _
 unfold Sn.sumR
 by_cases h1:0≤x
 ·by_cases h2:x<2147483647
  ·by_cases h3:0≤y
   ·by_cases h4:y<2147483647
    ·rw[decide_eq_true h1,decide_eq_true h2,decide_eq_true h3,decide_eq_true h4]
     go_enter Tryz.func120,Tryz.ntmps120
     go_wp2
     go_ret
     exact⟨rfl,hA⟩
    ·rw[decide_eq_true h1,decide_eq_true h2,decide_eq_true h3,decide_eq_false h4]
     go_enter Tryz.func120,Tryz.ntmps120
     go_wp2
     go_ret
     exact⟨rfl,hA⟩
   ·rw[decide_eq_true h1,decide_eq_true h2,decide_eq_false h3]
    go_enter Tryz.func120,Tryz.ntmps120
    go_wp2
    go_ret
    exact⟨rfl,hA⟩
  ·rw[decide_eq_true h1,decide_eq_false h2]
   go_enter Tryz.func120,Tryz.ntmps120
   go_wp2
   go_ret
   exact⟨rfl,hA⟩
 ·rw[decide_eq_false h1]
  go_enter Tryz.func120,Tryz.ntmps120
  go_wp2
  go_ret
  exact⟨rfl,hA⟩
structure Sc (w:World)(g:Nat)(s:ByteArray)(a b:Nat):Prop where
 blk:w.heap[g]?=some (.cells #[.string s,.int .i64 a,.int .i64 b] 89)
theorem Sc.c0 {w:World} {g:Nat} {s:ByteArray} {a b:Nat} (h:Sc w g s a b):w.cell? ⟨g,0,none⟩=some (.string s):=by simp[World.cell?,h.blk]
theorem Sc.c1 {w:World} {g:Nat} {s:ByteArray} {a b:Nat} (h:Sc w g s a b):w.cell? ⟨g,1,none⟩=some (.int .i64 a):=by simp[World.cell?,h.blk]
theorem Sc.c2 {w:World} {g:Nat} {s:ByteArray} {a b:Nat} (h:Sc w g s a b):w.cell? ⟨g,2,none⟩=some (.int .i64 b):=by simp[World.cell?,h.blk]
theorem Sc.f1 {w:World} {g:Nat} {s:ByteArray} {a b:Nat} (h:Sc w g s a b):w.frozen? ⟨g,1,none⟩=false:=by simp[World.frozen?,h.blk]
theorem Sc.f2 {w:World} {g:Nat} {s:ByteArray} {a b:Nat} (h:Sc w g s a b):w.frozen? ⟨g,2,none⟩=false:=by simp[World.frozen?,h.blk]
theorem Sc.lt {w:World} {g:Nat} {s:ByteArray} {a b:Nat} (h:Sc w g s a b):g<w.heap.size:=by
 have h:=h.blk
 by_cases hg:g<w.heap.size
 ·exact hg
 ·rw[Array.getElem?_eq_none (by omega)] at h;cases h
theorem Sc.below {w w':World} {g:Nat} {s:ByteArray} {a b:Nat} (h:Sc w g s a b)(hb:Below w.heap.size w w'):Sc w' g s a b:=by
 have:=h.lt
 exact⟨by rw[hb.block g this];exact h.blk⟩
theorem Sc.set1 {w:World} {g:Nat} {s:ByteArray} {a b:Nat} (h:Sc w g s a b)(n:Int)(m:Nat)(hn:n=m):Sc (w.setCell ⟨g,1,none⟩ (.int .i64 n)) g s m b:=by
 subst hn
 exact⟨by simp[World.setCell,Array.getElem?_modify,h.blk]⟩
theorem Sc.set2 {w:World} {g:Nat} {s:ByteArray} {a b:Nat} (h:Sc w g s a b)(n:Int)(m:Nat)(hn:n=m):Sc (w.setCell ⟨g,2,none⟩ (.int .i64 n)) g s a m:=by
 subst hn
 exact⟨by simp[World.setCell,Array.getElem?_modify,h.blk]⟩
theorem grown_refl (w:World)(r:Option Nat):w.grownBy w r:=⟨rfl,rfl,rfl,Nat.le_refl _,fun _ _ _=>rfl⟩
theorem grown_trans {a b c:World} {r:Option Nat} (h:a.grownBy b r)(k:b.grownBy c r):a.grownBy c r:=
 ⟨k.os.trans h.os,k.tape.trans h.tape,k.output.trans h.output,Nat.le_trans h.size k.size,fun i hi hr=>(k.block i (Nat.lt_of_lt_of_le hi h.size) hr).trans (h.block i hi hr)⟩
theorem grown_below {w w':World} {r:Option Nat} (h:Below w.heap.size w w'):w.grownBy w' r:=⟨h.os,h.tape,h.output,h.size,fun k hk _=>h.block k hk⟩
theorem grown_set (w:World)(g j:Nat)(v:Value):w.grownBy (w.setCell ⟨g,j,none⟩ v) (some g):=by
 refine⟨rfl,rfl,rfl,by simp[World.setCell],?_⟩
 intro k hk hr
 have:g≠k:=fun e=>hr (by rw[e])
 simp[World.setCell,Array.getElem?_modify,this]
def atOf (w:World)(g:Nat):Nat:=match w.cell? ⟨g,1,none⟩ with|some (.int _ n)=>n.toNat|_=>0
theorem Sc.at {w:World} {g:Nat} {s:ByteArray} {a b:Nat} (h:Sc w g s a b):atOf w g=a:=by simp[atOf,h.c1]
abbrev scp (g:Nat):Value:=.pointer (some ⟨g,0,none⟩)
theorem scEnded (g:Nat)(s:ByteArray)(a b:Nat)(w:World)(h:Sc w g s a b) :
  Calls Tryz.prog 92 #[scp g] w fun e w'=>e=.returned (.bool ((a:Int)==(s.size:Int)))∧Below w.heap.size w w':=by
 have c0:=h.c0
 have c1:=h.c1
 clear h
 go_enter Tryz.func92,Tryz.ntmps92
 go_wp2
 go_quiet (fail)
 go_wp2
 go_ret
 exact⟨rfl,Go.below_drewN (Below.refl _ _) _⟩
theorem scFail (g:Nat)(s:ByteArray)(a b:Nat)(w:World)(h:Sc w g s a b) :
  Calls Tryz.prog 187 #[scp g] w fun e w'=>e=.panicked [{ v:=.iface 85 (.agg #[.int .i64 3,.int .i64 b]),recovered:=false }]∧w'=w:=by
 have c2:=h.c2
 clear h
 go_enter Tryz.func187,Tryz.ntmps187
 go_wp2
 exact⟨rfl,rfl,rfl⟩
theorem scPass {f:FuncId} {K:UInt8→Bool} (hK:Kind f K)(g:Nat)(s:ByteArray)(a b:Nat)(w:World)(hs:s.size≤100000)(ha:a≤s.size)(h:Sc w g s a b) :
  Calls Tryz.prog 146 #[scp g,.func (.func f) #[] #[]] w fun e w'=>e=.returned (.string (s.extract a (Pl.stop K s.data.toList a)))∧Sc w' g s (Pl.stop K s.data.toList a) b∧w.grownBy w' (some g):=by
 have hE:=hK.enters
 have HC:=(show Hid _ from hK.calls)
 obtain⟨Z,hZ⟩:∃Z,Pl.stop K s.data.toList a=Z:=⟨_,rfl⟩
 rw[hZ]
 have HZ:=(show Hid _ from hZ)
 have Hsc:=(show Hid _ from h)
 have c1:=h.c1
 clear hZ h
 go_enter Tryz.func146,Tryz.ntmps146
 go_wp2
 clear c1
 go_loopw [10] (fun _ wr=>∃ k:Nat,a≤k∧k≤s.size∧Hid (Pl.stop K s.data.toList k=Z)∧Hid (Sc wr g s k b)∧Hid (w.grownBy wr (some g))) (fun _ wr=>s.size-atOf wr g)
 case atStart=>exact⟨a,Nat.le_refl _,ha,HZ,Hsc,grown_refl _ _⟩
 case round=>
  clear HZ Hsc
  obtain⟨k,hak,hk,HZ,Hsc,Hg⟩:=hrel
  have c0:=Hsc.out.c0
  have c1:=Hsc.out.c1
  have k0:=cell_regrown c0
  have k1:=cell_regrown c1
  have cE:∀d os,Calls Tryz.prog 92 #[scp g] (Go.Sort.grow (redrawn wr d) os) fun e w''=>e=.returned (.bool ((k:Int)==(s.size:Int)))∧∃p:Regrown,w''=Go.Sort.grow (redrawn wr p.d) p.os:=fun d os=>Calls.regrown_of (scEnded g s k b _ (Hsc.out.below (below_regrown wr d os)))
  by_cases hlt:k<s.size
  ·have hne:((k:Int)==(s.size:Int))=false:=by simp;omega
   simp only[hne] at cE
   have h8:s[k].toNat<256:=UInt8.toNat_lt _
   have hkI:(k:Int)<(s.size:Int):=by omega
   have cK:∀d os,Calls Tryz.prog f #[.int .u8 (s[k].toNat:Int)] (Go.Sort.grow (redrawn wr d) os) fun e w''=>e=.returned (.bool (K s[k]))∧∃p:Regrown,w''=Go.Sort.grow (redrawn wr p.d) p.os:=fun d os=>Calls.regrown_of ((HC.out s[k] _).mono fun e w' ⟨he,hw⟩=>⟨he,by rw[← hw];exact Below.refl _ _⟩)
   have hkb:Hid (Pl.b s.data.toList k=s[k]):=Pl.b_lt _ k (by simpa using hlt)
   cases hkc:K s[k]<;>simp only[hkc] at cK
   ·have hst:Hid (Z=k):=show _=_ from by
     rw[← HZ.out]
     exact Pl.stop_eq K _ k k (Nat.le_refl _) (by simp;omega) (fun j h1 h2=>by omega) (fun _=>by rw[hkb.out];exact hkc)
    clear hkc HZ
    go_wp2
    refine wp_region_quiet_below (by kernel_rfl) (by kernel_rfl) ?_
    quiet_step (fail)
    quiet_step (exact cE _ _)
    iterate 12 (quiet_step (fail))
    quiet_step (exact cK _ _)
    repeat (quiet_step (fail))
    refine wpQuiet_nil ?_
    intro _ hw'
    obtain⟨⟨dq,osq⟩,hw''⟩:=hw'
    subst hw''
    have hbq:=below_regrown wr dq osq
    have Hs2:=(show Hid _ from Hsc.out.below hbq)
    have Hg2:=(show Hid _ from grown_trans Hg.out (grown_below hbq))
    generalize Go.Sort.grow (redrawn wr dq) osq=wq at *
    clear c0 c1 k0 k1 cE cK hbq
    have c0:=Hs2.out.c0
    have c1:=Hs2.out.c1
    have k0:=cell_regrown c0
    have k1:=cell_regrown c1
    have f1:(k:Int)≤(s.size:Int):=by omega
    have f2:(a:Int)≤(k:Int):=by omega
    have cL:∀d os,Calls Tryz.prog 101 #[.string (s.extract a k)] (Go.Sort.grow (redrawn wq d) os) fun e w''=>e=.returned (.string (s.extract a k))∧∃p:Regrown,w''=Go.Sort.grow (redrawn wq p.d) p.os:=fun d os=>Calls.regrown_of (libClone _ _ (by rw[ByteArray.size_extract];omega))
    go_wp2
    refine wp_region_quiet_below (by kernel_rfl) (by kernel_rfl) ?_
    iterate 10 (quiet_step (fail))
    quiet_step (exact cL _ _)
    repeat (quiet_step (fail))
    refine wpQuiet_nil ?_
    intro _ hw'
    obtain⟨⟨dr,osr⟩,hw''⟩:=hw'
    subst hw''
    have hbr:=below_regrown wq dr osr
    go_wp2
    go_ret
    rw[hst.out]
    exact⟨rfl,Hs2.out.below hbr,grown_trans Hg2.out (grown_below hbr)⟩
   ·have hst:Hid (Pl.stop K s.data.toList (k+1)=Z):=show _=_ from by
     rw[← HZ.out]
     exact Pl.first_miss _ _ k (by simpa using hlt) (by rw[hkb.out,hkc];rfl)
    clear hkc HZ
    go_wp2
    refine wp_region_quiet_below (by kernel_rfl) (by kernel_rfl) ?_
    quiet_step (fail)
    quiet_step (exact cE _ _)
    iterate 12 (quiet_step (fail))
    quiet_step (exact cK _ _)
    repeat (quiet_step (fail))
    refine wpQuiet_nil ?_
    intro _ hw'
    obtain⟨⟨dq,osq⟩,hw''⟩:=hw'
    subst hw''
    have hbq:=below_regrown wr dq osq
    have Hs2:=(show Hid _ from Hsc.out.below hbq)
    have Hg2:=(show Hid _ from grown_trans Hg.out (grown_below hbq))
    have hat:Hid (atOf wr g=k):=Hsc.out.at
    generalize Go.Sort.grow (redrawn wr dq) osq=wq at *
    clear c0 c1 k0 k1 cE cK hbq
    have c1:=Hs2.out.c1
    have f1:=Hs2.out.f1
    go_wp2
    go_roundw
    case rel=>exact⟨k+1,by omega,by omega,hst,Hs2.out.set1 _ _ (by omega),grown_trans Hg2.out (grown_set _ _ _ _)⟩
    case measure=>
     have:=(Hs2.out.set1 ((k:Int)+1) (k+1) (by omega)).at
     rw[hat.out,this]
     omega
  ·have hkk:k=s.size:=by omega
   have hst:Hid (Z=k):=show _=_ from by
    rw[← HZ.out]
    exact Pl.first_end _ _ _ (by simp;omega)
   obtain⟨bE,hbE⟩:∃bE,((k:Int)==(s.size:Int))=bE:=⟨_,rfl⟩
   have Hb:Hid (bE=true):=show _=_ from by rw[← hbE];simp;omega
   simp only[hbE] at cE
   have f1:(k:Int)≤(s.size:Int):=by omega
   have f2:(a:Int)≤(k:Int):=by omega
   have hce:(s.extract a k).size≤1100000:=by rw[ByteArray.size_extract];omega
   clear HZ hkk hbE hlt hk hak
   go_wp2
   refine wp_region_quiet_below (by kernel_rfl) (by kernel_rfl) ?_
   quiet_step (fail)
   quiet_step (exact cE _ _)
   quiet_step (fail)
   quiet_step (fail)
   iterate 11 (refine BigFrame.wpQuiet_skip (by obtain rfl:bE=true:=Hb.out;rfl) ?_;go_simp)
   obtain rfl:bE=true:=Hb.out
   quiet_step (fail)
   refine wpQuiet_nil ?_
   rintro⟨dq,osq⟩
   simp only
   have hbq:=below_regrown wr dq osq
   have Hs2:=(show Hid _ from Hsc.out.below hbq)
   have Hg2:=(show Hid _ from grown_trans Hg.out (grown_below hbq))
   generalize Go.Sort.grow (redrawn wr dq) osq=wq at *
   clear c0 c1 k0 k1 cE hbq
   have c0:=Hs2.out.c0
   have c1:=Hs2.out.c1
   have k0:=cell_regrown c0
   have k1:=cell_regrown c1
   have cL:∀d os,Calls Tryz.prog 101 #[.string (s.extract a k)] (Go.Sort.grow (redrawn wq d) os) fun e w''=>e=.returned (.string (s.extract a k))∧∃p:Regrown,w''=Go.Sort.grow (redrawn wq p.d) p.os:=fun d os=>Calls.regrown_of (libClone _ _ hce)
   go_wp2
   refine wp_region_quiet_below (by kernel_rfl) (by kernel_rfl) ?_
   iterate 10 (quiet_step (fail))
   quiet_step (exact cL _ _)
   repeat (quiet_step (fail))
   refine wpQuiet_nil ?_
   intro _ hw'
   obtain⟨⟨dr,osr⟩,hw''⟩:=hw'
   subst hw''
   have hbr:=below_regrown wq dr osr
   go_wp2
   go_ret
   rw[hst.out]
   exact⟨rfl,Hs2.out.below hbr,grown_trans Hg2.out (grown_below hbr)⟩
end Go.Proofs.YtacaoiedcfelcaaGreatDoor
