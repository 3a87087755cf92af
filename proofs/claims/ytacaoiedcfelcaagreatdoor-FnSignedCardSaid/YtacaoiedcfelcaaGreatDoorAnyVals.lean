import Derived.Test.YtacaoiedcfelcaaGreatDoorTexts
import Derived.Test.YtacaoiedcfelcaaGreatDoorCells
import Derived.Lib.ItoaNum
import Derived.Deep.QuietTactic
import Derived.BigQuiet
import Derived.Deep.RegionWith
import Derived.Laws.OwnMore
import Derived.WalkSmall
import Derived.Lib.QuietBelow
import Derived.Test.YtacaoiedcfelcaaGreatDoorAllOf
import Derived.Lib.Join
import Derived.WalkKit
import Derived.RegionTactic
set_option maxRecDepth 20000
set_option maxHeartbeats 4000000
namespace Go.Proofs.YtacaoiedcfelcaaGreatDoor
open Go.RowKit Go.Lib
def nameB (t:ByteArray):Bool:=Pl.sNameOk t.data.toList
theorem Pl.all_stepT (K:ByteArray→Bool)(F:List ByteArray)(k:Nat)(h:k<F.length):(F.drop k).all K=(K F[k] && (F.drop (k+1)).all K):=by
 rw[List.drop_eq_getElem_cons h,List.all_cons]
def signerOk (d s:ByteArray)(A B:Int)(F:List ByteArray)(h b:Int):Bool:=
 Pl.domOk d.data.toList && (Pl.selOk s.data.toList && (keyOk A B && (decide (h=0∨h=1) && (decide (b=0∨b=1) && (decide (1≤F.length) && (decide (F.length≤30) && F.all nameB))))))
abbrev sgV (d s:ByteArray)(A B:Int)(v:Value)(h b:Int):Value:=.agg #[.string d,.string s,.int .i64 A,.int .i64 B,v,.int .i64 h,.int .i64 b]
theorem sg_cells {w:World} {g:Nat} {d s:ByteArray} {A B h b:Int} {v:Value} {t:TypeId} (hk:w.heap[g]?=some (.cells #[.string d,.string s,.int .i64 A,.int .i64 B,v,.int .i64 h,.int .i64 b] t (0,0))) :
  w.cell? ⟨g,0,none⟩=some (.string d)∧w.cell? ⟨g,1,none⟩=some (.string s)∧w.cell? ⟨g,2,none⟩=some (.int .i64 A)∧w.cell? ⟨g,3,none⟩=some (.int .i64 B)∧w.cell? ⟨g,4,none⟩=some v∧w.cell? ⟨g,5,none⟩=some (.int .i64 h)∧w.cell? ⟨g,6,none⟩=some (.int .i64 b):=by
 refine⟨?_,?_,?_,?_,?_,?_,?_⟩<;>simp[World.cell?,hk]
theorem entersNo:∀(args:Array Value)(w:World),(callFunc 155 args).run Tryz.prog w=.ok (.enter 155 args) w:=Go.Proofs.enters_of Tryz.func155 (by kernel_rfl) rfl
theorem implIndexNo (o:Option Addr)(F:List ByteArray)(cap:Nat)(w:World)(hF:Tx w.heap.size w o F)(hlen:F.length≤1048576)(hsz:∀t ∈ F,t.size≤1048576) :
  Calls Tryz.prog 192 #[.slice o F.length cap,.func (.func 155) #[] #[]] w fun e w'=>∃ i:Int,e=.returned (.int .i64 i)∧decide (0≤i) = !F.all nameB∧w=w':=by
 have hE:=entersNo
 have HF:Hid (Tx w.heap.size w o F):=hF
 have Hsz:Hid (∀t ∈ F,t.size≤1048576):=hsz
 clear hF hsz
 obtain⟨R,hR⟩:∃R,F.all nameB=R:=⟨_,rfl⟩
 have HR:Hid ((F.drop 0).all nameB=R):=hR
 rw[hR]
 clear hR
 go_enter Tryz.func192,Tryz.ntmps192
 go_wp2
 go_loopw [5,8] (fun _ i wr=>∃ k:Nat,k≤F.length∧i=.int .i64 k∧Hid ((F.drop k).all nameB=R)∧wr=w) (fun _ i _=>F.length-(Lib.intOf i).toNat)
 case atStart=>exact⟨0,Nat.zero_le _,rfl,HR,rfl⟩
 case round=>
  clear HR
  obtain⟨k,hk,rfl,hp,rfl⟩:=hrel
  by_cases hlt:k<F.length
  ·obtain⟨a,rfl,ha,hc0⟩:=HF.out k hlt
   have hst:=Pl.all_stepT nameB F k hlt
   rw[hp.out] at hst
   have hN:=fun w=>implNoSignName F[k] w (Nat.le_trans (Hsz.out _ (List.getElem_mem hlt)) (by omega))
   have hNB:Pl.sNameOk F[k].data.toList=nameB F[k]:=rfl
   simp only[hNB] at hN
   have Hst:Hid (R=(nameB F[k] && (F.drop (k+1)).all nameB)):=hst
   clear hst hp hNB
   generalize nameB F[k]=nb at *
   generalize F[k]=f at *
   cases nb
   ·have hR:R=false:=by rw[Hst.out,Bool.false_and]
    subst hR
    clear Hst
    go_wp2_with fail
    refine(hN _).mono ?_
    rintro e w2 ⟨rfl,rfl⟩
    go_wp2
    go_ret
    exact⟨k,rfl,by simp,rfl⟩
   ·have HN:Hid ((F.drop (k+1)).all nameB=R):=by show _=_;rw[Hst.out,Bool.true_and]
    clear Hst
    go_wp2_with fail
    refine(hN _).mono ?_
    rintro e w2 ⟨rfl,rfl⟩
    go_wp2
    go_roundw
    case rel=>exact⟨k+1,by omega,by go_num,HN,trivial⟩
    case measure=>simp[Lib.intOf];omega
  ·have hR:R=true:=by rw[← hp.out,List.drop_eq_nil_of_le (by omega)];rfl
   subst hR
   clear hp
   go_wp2
   go_ret
   exact⟨-1,rfl,rfl,rfl⟩
theorem implContainsNo (o:Option Addr)(F:List ByteArray)(cap:Nat)(w:World)(hF:Tx w.heap.size w o F)(hlen:F.length≤1048576)(hsz:∀t ∈ F,t.size≤1048576) :
  Calls Tryz.prog 154 #[.slice o F.length cap,.func (.func 155) #[] #[]] w fun e w'=>e=.returned (.bool (!F.all nameB))∧w=w':=by
 have hI:=implIndexNo o F cap w hF hlen hsz
 clear hF hsz
 go_enter Tryz.func154,Tryz.ntmps154
 go_wp2_with fail
 refine hI.mono ?_
 rintro e w2 ⟨i,rfl,hi,rfl⟩
 go_wp2
 go_ret
 exact⟨by rw[← hi];rfl,rfl⟩
theorem implNames (o:Option Addr)(F:List ByteArray)(cap:Nat)(w:World)(hF:Tx w.heap.size w o F)(hlen:F.length≤1048576)(hsz:∀t ∈ F,t.size≤1048576) :
  Calls Tryz.prog 99 #[.slice o F.length cap] w fun e w'=>e=.returned (.bool (decide (1≤F.length) && (decide (F.length≤30) && F.all nameB)))∧w=w':=by
 have hC:=implContainsNo o F cap w hF hlen hsz
 clear hF hsz
 generalize F.all nameB=b at *
 by_cases h1:1≤F.length
 ·rw[decide_eq_true h1,Bool.true_and]
  by_cases h2:F.length≤30
  ·rw[decide_eq_true h2,Bool.true_and]
   go_enter Tryz.func99,Tryz.ntmps99
   go_wp2_with fail
   refine hC.mono ?_
   rintro e w2 ⟨rfl,rfl⟩
   go_wp2
   go_ret
   exact⟨by first|rfl|(cases b<;>rfl),rfl⟩
  ·rw[decide_eq_false h2,Bool.false_and]
   clear hC
   go_enter Tryz.func99,Tryz.ntmps99
   go_wp2
   go_ret
   exact⟨rfl,rfl⟩
 ·rw[decide_eq_false h1,Bool.false_and]
  clear hC
  go_enter Tryz.func99,Tryz.ntmps99
  go_wp2
  go_ret
  exact⟨rfl,rfl⟩
theorem implFormS (x:Int)(w:World):Calls Tryz.prog 57 #[.int .i64 x] w fun e w'=>e=.returned (.bool (decide (x=0∨x=1)))∧w=w':=by
 by_cases h0:x=0
 ·subst h0
  go_enter Tryz.func57,Tryz.ntmps57
  go_wp2
  go_ret
  exact⟨rfl,rfl⟩
 ·have e0:(x==0)=false:=beq_eq_false_iff_ne.2 h0
  by_cases h1:x=1
  ·subst h1
   go_enter Tryz.func57,Tryz.ntmps57
   go_wp2
   go_ret
   exact⟨rfl,rfl⟩
  ·have e1:(x==1)=false:=beq_eq_false_iff_ne.2 h1
   rw[decide_eq_false (by omega)]
   go_enter Tryz.func57,Tryz.ntmps57
   go_wp2
   go_ret
   exact⟨rfl,rfl⟩
theorem implSays (d s:ByteArray)(A B h b m:Int)(o:Option Addr)(F:List ByteArray)(cap:Nat)(w:World)(hd:d.size≤1048576)(hs:s.size≤1048576)(hF:Tx w.heap.size w o F)(hlen:F.length≤1048576)(hsz:∀t ∈ F,t.size≤1048576)(hm:w.cell? ⟨0,0,none⟩=some (.int .i64 m)) :
  Calls Tryz.prog 54 #[sgV d s A B (.slice o F.length cap) h b] w fun e w'=>e=.returned (.bool (Pl.domOk d.data.toList && (Pl.selOk s.data.toList && (decide (h=0∨h=1) && (decide (b=0∨b=1) && (decide (1≤F.length) && (decide (F.length≤30) && F.all nameB)))))))∧Below w.heap.size w w':=by
 obtain⟨W,hW⟩:∃W,W=w.alloc (.cells #[.string d,.string s,.int .i64 A,.int .i64 B,.slice o F.length cap,.int .i64 h,.int .i64 b] 27):=⟨_,rfl⟩
 have hbA:Below w.heap.size w W:=by rw[hW];exact(Below.refl _ _).alloc (Nat.le_refl _) _
 have hk0:W.heap[w.heap.size]?=some (.cells #[.string d,.string s,.int .i64 A,.int .i64 B,.slice o F.length cap,.int .i64 h,.int .i64 b] 27 (0,0)):=by rw[hW];exact heap_alloc_at _ _
 have hm0:W.cell? ⟨0,0,none⟩=some (.int .i64 m):=(hbA.cell (World.block_lt_of_cell? _ _ hm)).trans hm
 have hD:=implSignDomain d m W (by omega) hm0
 have hS:=fun w=>implSelector s w (by omega)
 have hH:=fun w=>implFormS h w
 have hB:=fun w=>implFormS b w
 have HF:Hid (Tx w.heap.size w o F):=hF
 have Hsz:Hid (∀t ∈ F,t.size≤1048576):=hsz
 clear hF hsz hm hm0
 have hN:=fun (w:World) (hF:Tx w.heap.size w o F)=>implNames o F cap w hF hlen Hsz.out
 have HN:=(show Hid _ from hN)
 clear hN
 generalize Pl.domOk d.data.toList=b1 at *
 generalize Pl.selOk s.data.toList=b2 at *
 generalize decide (h=0∨h=1)=b3 at *
 generalize decide (b=0∨b=1)=b4 at *
 generalize (decide (1≤F.length) && (decide (F.length≤30) && F.all nameB))=b5 at *
 go_enter Tryz.func54,Tryz.ntmps54
 go_wp2_with fail
 rw[← hW]
 refine hD.mono ?_
 rintro e w2 ⟨rfl,hb2⟩
 have hk2:=(hb2.block _ (heap_lt hk0)).trans hk0
 have hB2:=hbA.trans (hb2.mono hbA.size)
 obtain⟨c0,c1,c2,c3,c4,c5,c6⟩:=sg_cells hk2
 have hF2:Tx w2.heap.size w2 o F:=(HF.out.below hB2).mono hB2.size
 have hN2:=HN.out w2 hF2
 clear hD hb2 hk0 hbA HN HF Hsz hF2 hW
 cases b1
 ·go_wp2
  go_ret
  exact⟨rfl,hB2⟩
 ·go_wp2_with fail
  refine(hS _).mono ?_
  rintro e w3 ⟨rfl,rfl⟩
  cases b2
  ·go_wp2
   go_ret
   exact⟨rfl,hB2⟩
  ·go_wp2_with fail
   refine(hH _).mono ?_
   rintro e w3 ⟨rfl,rfl⟩
   cases b3
   ·go_wp2
    go_ret
    exact⟨rfl,hB2⟩
   ·go_wp2_with fail
    refine(hB _).mono ?_
    rintro e w3 ⟨rfl,rfl⟩
    cases b4
    ·go_wp2
     go_ret
     exact⟨rfl,hB2⟩
    ·go_wp2_with fail
     refine hN2.mono ?_
     rintro e w3 ⟨rfl,rfl⟩
     go_wp2
     go_ret
     exact⟨rfl,hB2⟩
theorem implSigner (d s:ByteArray)(A B h b m:Int)(o:Option Addr)(F:List ByteArray)(cap:Nat)(w:World)(hd:d.size≤1048576)(hs:s.size≤1048576)(hF:Tx w.heap.size w o F)(hlen:F.length≤1048576)(hsz:∀t ∈ F,t.size≤1048576)(hm:w.cell? ⟨0,0,none⟩=some (.int .i64 m)) :
  Calls Tryz.prog 15 #[sgV d s A B (.slice o F.length cap) h b] w fun e w'=>e=.returned (.int .i64 (dcode (signerOk d s A B F h b)))∧Below w.heap.size w w':=by
 obtain⟨W,hW⟩:∃W,W=w.alloc (.cells #[.string d,.string s,.int .i64 A,.int .i64 B,.slice o F.length cap,.int .i64 h,.int .i64 b] 27):=⟨_,rfl⟩
 have hbA:Below w.heap.size w W:=by rw[hW];exact(Below.refl _ _).alloc (Nat.le_refl _) _
 have hk0:W.heap[w.heap.size]?=some (.cells #[.string d,.string s,.int .i64 A,.int .i64 B,.slice o F.length cap,.int .i64 h,.int .i64 b] 27 (0,0)):=by rw[hW];exact heap_alloc_at _ _
 have hm0:W.cell? ⟨0,0,none⟩=some (.int .i64 m):=(hbA.cell (World.block_lt_of_cell? _ _ hm)).trans hm
 have hK:=implRight d s A B W
 have HF:Hid (Tx w.heap.size w o F):=hF
 have Hm:Hid (W.cell? ⟨0,0,none⟩=some (.int .i64 m)):=hm0
 have hSay:=fun (w:World) (hF:Tx w.heap.size w o F) hm=>implSays d s A B h b m o F cap w hd hs hF hlen hsz hm
 have HSay:=(show Hid _ from hSay)
 clear hF hsz hm hm0 hSay
 have e0:signerOk d s A B F h b=(keyOk A B && (Pl.domOk d.data.toList && (Pl.selOk s.data.toList && (decide (h=0∨h=1) && (decide (b=0∨b=1) && (decide (1≤F.length) && (decide (F.length≤30) && F.all nameB))))))):=by
  unfold signerOk
  cases Pl.domOk d.data.toList<;>cases Pl.selOk s.data.toList<;>cases keyOk A B<;>rfl
 rw[e0]
 generalize (Pl.domOk d.data.toList && (Pl.selOk s.data.toList && (decide (h=0∨h=1) && (decide (b=0∨b=1) && (decide (1≤F.length) && (decide (F.length≤30) && F.all nameB))))))=bs at *
 generalize keyOk A B=bk at *
 clear e0
 go_enter Tryz.func15,Tryz.ntmps15
 go_wp2_with fail
 rw[← hW]
 refine hK.mono ?_
 rintro e w2 ⟨rfl,hb2⟩
 have hk2:=(hb2.block _ (heap_lt hk0)).trans hk0
 have hB2:=hbA.trans (hb2.mono hbA.size)
 obtain⟨c0,c1,c2,c3,c4,c5,c6⟩:=sg_cells hk2
 have hm2:=(hb2.cell (World.block_lt_of_cell? _ _ Hm.out)).trans Hm.out
 have hS2:=HSay.out w2 ((HF.out.below hB2).mono hB2.size) hm2
 clear hK hb2 hk0 hbA HSay HF hW hm2 Hm
 cases bk
 ·go_wp2
  go_ret
  exact⟨rfl,hB2⟩
 ·go_wp2_with fail
  refine hS2.mono ?_
  rintro e w3 ⟨rfl,hb3⟩
  have hB3:=hB2.trans (hb3.mono hB2.size)
  cases bs
  ·go_wp2
   go_ret
   exact⟨rfl,hB3⟩
  ·go_wp2
   go_ret
   exact⟨rfl,hB3⟩
namespace Pl
def by8 (n:Int):UInt8:=UInt8.ofNat n.toNat
theorem by8_eq (n:Int)(a:UInt8)(h0:0≤n)(h1:n<256):by8 n=a↔n=(a.toNat:Int):=by
 constructor
 ·rintro rfl
  simp[by8,UInt8.toNat_ofNat']
  omega
 ·intro h
  apply UInt8.toNat_inj.1
  simp[by8,UInt8.toNat_ofNat']
  omega
end Pl
theorem by8_val (n:Int)(h0:0≤n)(h1:n<256):((Pl.by8 n).toNat:Int)=n:=((Pl.by8_eq n _ h0 h1).1 rfl).symm
theorem w64 (x:Int)(h0:-9223372036854775808≤x)(h1:x≤9223372036854775807):IntKind.i64.wrap x=x:=by
 unfold IntKind.wrap
 simp[IntKind.bits,IntKind.signed]
 omega
theorem w8 (x:Int)(h0:0≤x)(h1:x<256):IntKind.u8.wrap x=x:=by
 unfold IntKind.wrap
 simp[IntKind.bits,IntKind.signed]
 omega
theorem text1 (c:UInt8)(w:World):(convert 22 9 (.slice (some ⟨w.heap.size,0,none⟩) 1 1)).run Tryz.prog (w.alloc (.cells #[.int .u8 (c.toNat:Int)] 5))=.ok (.string ⟨#[c]⟩) (w.alloc (.cells #[.int .u8 (c.toNat:Int)] 5)):=by
 refine run_convert_bytes_back (P:=Tryz.prog) _ 22 9 5 ⟨w.heap.size,0,none⟩ 1 [c] Tryz.underlying22 Tryz.underlying5 Tryz.underlying9 ?_
 intro j hj
 match j,hj with
 | 0,hj=>rw[add_off];simp
theorem dec_len:∀n:Nat,(decDigits n).length≤n+1:=by
 intro n
 induction n using Nat.strongRecOn with
 | ind n ih=>
  rw[decDigits]
  by_cases h:n<10
  ·rw[dif_pos h];simp
  ·rw[dif_neg h,List.length_append]
   have:=ih (n / 10) (by omega)
   simp only[List.length_cons,List.length_nil]
   omega
theorem ba_join (a b:List UInt8):(⟨a.toArray⟩:ByteArray)++⟨b.toArray⟩=⟨(a++b).toArray⟩:=by
 apply ByteArray.ext
 simp
theorem textD (d:Int)(h0:0≤d)(h1:d<256)(w:World):(convert 22 9 (.slice (some ⟨w.heap.size,0,none⟩) 1 1)).run Tryz.prog (w.alloc (.cells #[.int .u8 d] 5))=.ok (.string ⟨#[Pl.by8 d]⟩) (w.alloc (.cells #[.int .u8 d] 5)):=by
 have:=text1 (Pl.by8 d) w
 rw[by8_val d h0 h1] at this
 exact this
theorem textAt (d:Int)(h0:0≤d)(h1:d<256)(w w3:World)(hb:Below (w.alloc (.cells #[.int .u8 d] 5)).heap.size (w.alloc (.cells #[.int .u8 d] 5)).drew w3) :
  (convert 22 9 (.slice (some ⟨w.heap.size,0,none⟩) 1 1)).run Tryz.prog w3=.ok (.string ⟨#[Pl.by8 d]⟩) w3:=by
 refine run_convert_bytes_back (P:=Tryz.prog) _ 22 9 5 ⟨w.heap.size,0,none⟩ 1 [Pl.by8 d] Tryz.underlying22 Tryz.underlying5 Tryz.underlying9 ?_
 intro j hj
 match j,hj with
 | 0,hj=>
  rw[add_off]
  refine(hb.cell (p:=⟨w.heap.size,0,none⟩) (by simp)).trans ?_
  rw[List.getElem_singleton,by8_val d h0 h1]
  simp
theorem textDd (d:Int)(h0:0≤d)(h1:d<256)(w:World):(convert 22 9 (.slice (some ⟨w.heap.size,0,none⟩) 1 1)).run Tryz.prog (w.alloc (.cells #[.int .u8 d] 5)).drew=.ok (.string ⟨#[Pl.by8 d]⟩) (w.alloc (.cells #[.int .u8 d] 5)).drew:=textD d h0 h1 w.drew
set_option maxRecDepth 10000 in
theorem specDec1 (n:Nat)(hn:n<10)(w:World):Calls Tryz.prog 73 #[.int .i64 n] w fun e w'=>e=.returned (.string ⟨(decDigits n).toArray⟩)∧Below w.heap.size w w':=by
 have hbA:∀b,Below w.heap.size w (w.alloc b):=fun b=>(Below.refl _ _).alloc (Nat.le_refl _) _
 have ht:=textD (48+(n:Int)) (by omega) (by omega) w
 have hd:Hid ((⟨(decDigits n).toArray⟩:ByteArray)=⟨#[Pl.by8 (48+(n:Int))]⟩):=show _=_ from by
  rw[decDigits,dif_pos hn]
  rfl
 rw[hd.out]
 go_enter Tryz.func73,Tryz.ntmps73
 go_wp2
 go_ret
 exact⟨rfl,hbA _⟩
set_option maxRecDepth 10000 in
theorem specDecStep (n:Nat)(hn:n≤2200000000)(h10:¬n<10)(c1:∀w:World,Calls Tryz.prog 73 #[.int .i64 ((n / 10:Nat):Int)] w fun e w'=>e=.returned (.string ⟨(decDigits (n / 10)).toArray⟩)∧Below w.heap.size w w')(w:World):Calls Tryz.prog 73 #[.int .i64 n] w fun e w'=>e=.returned (.string ⟨(decDigits n).toArray⟩)∧Below w.heap.size w w':=by
 ·skip
  have hd:Hid ((⟨(decDigits n).toArray⟩:ByteArray)=⟨(decDigits (n / 10)).toArray⟩++⟨#[Pl.by8 (48+(n:Int) % 10)]⟩):=show _=_ from by
   have e:Pl.by8 (48+(n:Int) % 10)=UInt8.ofNat (48+n % 10):=by
    unfold Pl.by8
    congr 1
   rw[e,decDigits,dif_neg h10]
   exact(ba_join _ [UInt8.ofNat (48+n % 10)]).symm
  rw[hd.out]
  have hz:(⟨(decDigits (n / 10)).toArray⟩:ByteArray).size≤2200000000:=by
   have:=dec_len (n / 10)
   show(decDigits (n / 10)).toArray.size≤2200000000
   rw[List.size_toArray]
   omega
  have c2:∀w:World,Calls Tryz.prog 73 #[.int .i64 ((n:Int) / 10)] w fun e w'=>e=.returned (.string ⟨(decDigits (n / 10)).toArray⟩)∧Below w.heap.size w w':=c1
  generalize (⟨(decDigits (n / 10)).toArray⟩:ByteArray)=db at *
  clear c1 hd
  go_enter Tryz.func73,Tryz.ntmps73
  go_wp2
  have t0:=textDd (48+(n:Int) % 10) (by omega) (by omega) w
  have hbA:∀b,Below w.heap.size w (w.alloc b):=fun b=>(Below.refl _ _).alloc (Nat.le_refl _) _
  have nz:¬9223372036854775807<db.size+1:=by omega
  have k1:IntKind.i64.wrap ((n:Int) / 10)=(n:Int) / 10:=w64 _ (by omega) (by omega)
  have k2:(n:Int).tmod 10=(n:Int) % 10:=Int.tmod_eq_emod_of_nonneg (by omega)
  have k3:IntKind.i64.wrap (48+(n:Int) % 10)=48+(n:Int) % 10:=w64 _ (by omega) (by omega)
  have k4:IntKind.u8.wrap (48+(n:Int) % 10)=48+(n:Int) % 10:=w8 _ (by omega) (by omega)
  refine wp_region_any (by kernel_rfl) ?_
  refine wpAny_take (i:=0) (v:=.int .i64 (n:Int)) rfl (by kernel_rfl) (by kernel_rfl) (by kernel_rfl) (fun _ _ _ h=>h) (Or.inl ⟨by rfl,?_⟩) ?_
  ·intro w
   go_simp
  go_simp
  refine wpAny_take (i:=1) (v:=.int .i64 ((n:Int) / 10)) rfl (by kernel_rfl) (by kernel_rfl) (by kernel_rfl) (fun _ _ _ h=>h) (Or.inl ⟨by rfl,?_⟩) ?_
  ·intro w
   go_simp
  go_simp
  refine wpAny_take (i:=3) (v:=.int .i64 (n:Int)) rfl (by kernel_rfl) (by kernel_rfl) (by kernel_rfl) (fun _ _ _ h=>h) (Or.inl ⟨by rfl,?_⟩) ?_
  ·intro w
   go_simp
  go_simp
  refine wpAny_take (i:=4) (v:=.int .i64 ((n:Int) % 10)) rfl (by kernel_rfl) (by kernel_rfl) (by kernel_rfl) (fun _ _ _ h=>h) (Or.inl ⟨by rfl,?_⟩) ?_
  ·intro w
   go_simp
  go_simp
  refine wpAny_take (i:=5) (v:=.int .i64 (48+(n:Int) % 10)) rfl (by kernel_rfl) (by kernel_rfl) (by kernel_rfl) (fun _ _ _ h=>h) (Or.inl ⟨by rfl,?_⟩) ?_
  ·intro w
   go_simp
  go_simp
  refine wpAny_take (i:=6) (v:=.int .u8 (48+(n:Int) % 10)) rfl (by kernel_rfl) (by kernel_rfl) (by kernel_rfl) (fun _ _ _ h=>h) (Or.inl ⟨by rfl,?_⟩) ?_
  ·intro w
   go_simp
  go_simp
  refine wpAny_ready (rs:=[2,7]) (by kernel_rfl) (by simp) ?_
  refine AllReady.cons rfl (fun K hK=>?_) (AllReady.cons rfl (fun K hK=>?_) AllReady.nil)
  ·go_simp
   go_wp2_with fail
   refine(c2 _).mono ?_
   rintro e w3 ⟨rfl,hb3⟩
   show K _ w3
   refine hK _ _ ?_
   clear hK K
   go_simp
   have t1:=textD (48+(n:Int) % 10) (by omega) (by omega) w3
   refine wpAny_ready (rs:=[7]) (by kernel_rfl) (by simp) ?_
   refine AllReady.cons rfl (fun K hK=>?_) AllReady.nil
   go_simp
   refine hK _ _ ?_
   clear hK K
   go_simp
   refine wpAny_ready (rs:=[8]) (by kernel_rfl) (by simp) ?_
   refine AllReady.cons rfl (fun K hK=>?_) AllReady.nil
   go_simp
   refine hK _ _ ?_
   clear hK K
   go_simp
   refine wpAny_take (i:=9) (v:=.string (db++⟨#[Pl.by8 (48+(n:Int) % 10)]⟩)) rfl (by kernel_rfl) (by kernel_rfl) (by kernel_rfl) (fun _ _ _ h=>h) (Or.inl ⟨by rfl,?_⟩) ?_
   ·intro w
    go_simp
   go_simp
   refine wpAny_take (i:=10) (v:=.string (db++⟨#[Pl.by8 (48+(n:Int) % 10)]⟩)) rfl (by kernel_rfl) (by kernel_rfl) (by kernel_rfl) (fun _ _ _ h=>h) (Or.inl ⟨by rfl,?_⟩) ?_
   ·intro w
    go_simp
   go_simp
   refine wpAny_done (by kernel_rfl) ?_ _
   have hbz:=((Below.refl _ _).drew.trans hb3).alloc hb3.size (.cells #[.int .u8 (48+(n:Int) % 10)] 5)
   clear t0
   go_wp2
   go_ret
   exact⟨rfl,hbz⟩
  ·go_simp
   refine hK _ _ ?_
   clear hK K
   go_simp
   refine wpAny_ready (rs:=[2,8]) (by kernel_rfl) (by simp) ?_
   refine AllReady.cons rfl (fun K hK=>?_) (AllReady.cons rfl (fun K hK=>?_) AllReady.nil)
   ·go_simp
    go_wp2_with fail
    refine(c2 _).mono ?_
    rintro e w3 ⟨rfl,hb3⟩
    show K _ w3
    refine hK _ _ ?_
    clear hK K
    go_simp
    have t2:=textAt (48+(n:Int) % 10) (by omega) (by omega) w w3 hb3
    refine wpAny_ready (rs:=[8]) (by kernel_rfl) (by simp) ?_
    refine AllReady.cons rfl (fun K hK=>?_) AllReady.nil
    go_simp
    refine hK _ _ ?_
    clear hK K
    go_simp
    refine wpAny_take (i:=9) (v:=.string (db++⟨#[Pl.by8 (48+(n:Int) % 10)]⟩)) rfl (by kernel_rfl) (by kernel_rfl) (by kernel_rfl) (fun _ _ _ h=>h) (Or.inl ⟨by rfl,?_⟩) ?_
    ·intro w
     go_simp
    go_simp
    refine wpAny_take (i:=10) (v:=.string (db++⟨#[Pl.by8 (48+(n:Int) % 10)]⟩)) rfl (by kernel_rfl) (by kernel_rfl) (by kernel_rfl) (fun _ _ _ h=>h) (Or.inl ⟨by rfl,?_⟩) ?_
    ·intro w
     go_simp
    go_simp
    refine wpAny_done (by kernel_rfl) ?_ _
    have hbz:=(hbA _).drew.trans (hb3.mono (hbA (.cells #[.int .u8 (48+(n:Int) % 10)] 5)).size)
    clear t0
    go_wp2
    go_ret
    exact⟨rfl,hbz⟩
   ·go_simp
    refine hK _ _ ?_
    clear hK K
    go_simp
    refine wpAny_ready (rs:=[2]) (by kernel_rfl) (by simp) ?_
    refine AllReady.cons rfl (fun K hK=>?_) AllReady.nil
    go_simp
    go_wp2_with fail
    refine(c2 _).mono ?_
    rintro e w3 ⟨rfl,hb3⟩
    show K _ w3
    refine hK _ _ ?_
    clear hK K
    go_simp
    refine wpAny_take (i:=9) (v:=.string (db++⟨#[Pl.by8 (48+(n:Int) % 10)]⟩)) rfl (by kernel_rfl) (by kernel_rfl) (by kernel_rfl) (fun _ _ _ h=>h) (Or.inl ⟨by rfl,?_⟩) ?_
    ·intro w
     go_simp
    go_simp
    refine wpAny_take (i:=10) (v:=.string (db++⟨#[Pl.by8 (48+(n:Int) % 10)]⟩)) rfl (by kernel_rfl) (by kernel_rfl) (by kernel_rfl) (fun _ _ _ h=>h) (Or.inl ⟨by rfl,?_⟩) ?_
    ·intro w
     go_simp
    go_simp
    refine wpAny_done (by kernel_rfl) ?_ _
    have hbz:=(hbA _).drew.trans (hb3.mono (hbA (.cells #[.int .u8 (48+(n:Int) % 10)] 5)).size)
    clear t0
    go_wp2
    go_ret
    exact⟨rfl,hbz⟩
theorem specDec:∀(n:Nat),n≤2200000000→∀w:World,Calls Tryz.prog 73 #[.int .i64 n] w fun e w'=>e=.returned (.string ⟨(decDigits n).toArray⟩)∧Below w.heap.size w w':=by
 intro n
 induction n using Nat.strongRecOn with
 | ind n ih=>
  intro hn w
  by_cases h10:n<10
  ·exact specDec1 n h10 w
  ·exact specDecStep n hn h10 (fun w=>ih (n / 10) (by omega) (by omega) w) w
def jc:List ByteArray→List UInt8
 | []=>[]
 | t::r=>t.data.toList++(match r with | []=>[]|_::_=>58::jc r)
theorem jc_snoc:∀(F:List ByteArray)(t:ByteArray),F ≠ []→jc (F ++ [t])=jc F++58::t.data.toList
 | [],_,h=>absurd rfl h
 | [a],t,_=>by simp[jc]
 | a::b::r,t,_=>by
  have ih:=jc_snoc (b::r) t (by simp)
  show jc (a::b::(r ++ [t]))=_
  rw[jc]
  have e:b::(r ++ [t])=(b::r) ++ [t]:=rfl
  rw[e]
  show a.data.toList++58::jc ((b::r) ++ [t])=_
  rw[ih,jc]
  simp
theorem jc_next (T:List ByteArray)(i:Nat)(h:i<T.length):jc (T.take (i+1))=if i=0 then T[i].data.toList else jc (T.take i)++58::T[i].data.toList:=by
 rw[List.take_succ_eq_append_getElem h]
 by_cases h0:i=0
 ·subst h0
  simp[jc]
 ·rw[if_neg h0,jc_snoc]
  intro e
  have:=congrArg List.length e
  rw[List.length_take,Nat.min_eq_left (Nat.le_of_lt h)] at this
  exact h0 this
def formT (h:Int):ByteArray:=if h=1 then ⟨#[114,101,108,97,120,101,100]⟩ else ⟨#[115,105,109,112,108,101]⟩
theorem specFormT (h:Int)(hh:h=0∨h=1)(w:World):Calls Tryz.prog 72 #[.int .i64 h] w fun e w'=>e=.returned (.string (formT h))∧Below w.heap.size w w':=by
 have hA:∀ob,Below w.heap.size w (w.alloc ob):=fun ob=>(Below.refl _ _).alloc (Nat.le_refl _) _
 rcases hh with rfl|rfl
 ·go_enter Tryz.func72,Tryz.ntmps72
  go_wp2
  go_ret
  exact⟨rfl,hA _⟩
 ·go_enter Tryz.func72,Tryz.ntmps72
  go_wp2
  go_ret
  exact⟨rfl,hA _⟩
def sumT (a b:Nat):ByteArray:=⟨(decDigits a).toArray⟩++⟨#[45]⟩++⟨(decDigits b).toArray⟩
theorem dec_size (n:Nat)(h:n≤2200000000):(⟨(decDigits n).toArray⟩:ByteArray).size≤2200000001:=by
 have:=dec_len n
 show(decDigits n).toArray.size≤_
 rw[List.size_toArray]
 omega
theorem specSumT (a b:Nat)(ha:a<2147483647)(hb:b<2147483647)(w:World):Calls Tryz.prog 24 #[sumV a b] w fun e w'=>e=.returned (.string (sumT a b))∧Below w.heap.size w w':=by
 have hz1:=dec_size a (by omega)
 have hz2:=dec_size b (by omega)
 have hA:=fun w=>specDec a (by omega) w
 have hB:=fun w=>specDec b (by omega) w
 unfold sumT
 generalize (⟨(decDigits a).toArray⟩:ByteArray)=ta at *
 generalize (⟨(decDigits b).toArray⟩:ByteArray)=tb at *
 obtain⟨W,hW⟩:∃W,W=w.alloc (.cells #[.int .i64 a,.int .i64 b] 51):=⟨_,rfl⟩
 have hbW:Below w.heap.size w W:=by rw[hW];exact(Below.refl _ _).alloc (Nat.le_refl _) _
 have q0:W.cell? ⟨w.heap.size,0,none⟩=some (.int .i64 a):=by rw[hW];simp
 have q1:W.cell? ⟨w.heap.size,1,none⟩=some (.int .i64 b):=by rw[hW];simp
 have k0:=cell_regrown q0
 have k1:=cell_regrown q1
 have cA:∀d os,Calls Tryz.prog 73 #[.int .i64 a] (Go.Sort.grow (redrawn W d) os) fun e w''=>e=.returned (.string ta)∧∃p:Regrown,w''=Go.Sort.grow (redrawn W p.d) p.os:=fun d os=>Calls.regrown_of (hA _)
 have cB:∀d os,Calls Tryz.prog 73 #[.int .i64 b] (Go.Sort.grow (redrawn W d) os) fun e w''=>e=.returned (.string tb)∧∃p:Regrown,w''=Go.Sort.grow (redrawn W p.d) p.os:=fun d os=>Calls.regrown_of (hB _)
 have CA:=(show Hid _ from cA)
 have CB:=(show Hid _ from cB)
 clear cA cB hA hB
 have n0:¬9223372036854775807<ta.size+1:=by omega
 have n1:¬9223372036854775807<ta.size+1+tb.size:=by omega
 go_enter Tryz.func24,Tryz.ntmps24
 go_wp2
 rw[← hW]
 clear hW
 refine wp_region_quiet_below (by kernel_rfl) (by kernel_rfl) ?_
 quiet_step (fail)
 quiet_step (fail)
 quiet_step (exact CA.out _ _)
 quiet_step (fail)
 quiet_step (fail)
 quiet_step (fail)
 quiet_step (exact CB.out _ _)
 repeat (quiet_step (fail))
 refine wpQuiet_nil ?_
 intro _ hw'
 obtain⟨⟨dq,osq⟩,hw''⟩:=hw'
 subst hw''
 have hbq:=hbW.trans ((below_regrown W dq osq).mono hbW.size)
 go_wp2
 go_ret
 exact⟨rfl,hbq⟩
def frontT (d s:ByteArray)(F:List ByteArray)(h b:Int)(x y:Nat):ByteArray:=
 ⟨#[32,100,61]⟩++d++⟨#[59,32,115,61]⟩++s++⟨#[59,32,99,61]⟩++formT h++⟨#[47]⟩++formT b++⟨#[59,32,104,61]⟩++⟨(jc F).toArray⟩++⟨#[59,32,98,61]⟩++sumT x y++⟨#[59,32,120,61]⟩
theorem jc_len:∀(F:List ByteArray),(∀t ∈ F,t.size≤70)→(jc F).length≤71*F.length
 | [],_=>by simp[jc]
 | [t],h=>by
  have:=h t (by simp)
  have e:t.data.toList.length=t.size:=by simp
  simp[jc]
  omega
 | t::a::q,h=>by
  have ih:=jc_len (a::q) (fun x hx=>h x (List.mem_cons_of_mem _ hx))
  have h0:=h t (by simp)
  have e:t.data.toList.length=t.size:=by simp
  have e2:jc (t::a::q)=t.data.toList++58::jc (a::q):=rfl
  rw[e2,List.length_append,List.length_cons,List.length_cons]
  omega
set_option maxRecDepth 10000 in
theorem specFront (d s:ByteArray)(A B h b:Int)(o:Option Addr)(F:List ByteArray)(cap x y:Nat)(w:World)(hd:d.size≤300)(hs:s.size≤300)(hF:Tx w.heap.size w o F)(hlen:F.length≤30)(hsz:∀t ∈ F,t.size≤70)(hh:h=0∨h=1)(hb:b=0∨b=1)(hx:x<2147483647)(hy:y<2147483647) :
  Calls Tryz.prog 22 #[sgV d s A B (.slice o F.length cap) h b,sumV x y] w fun e w'=>e=.returned (.string (frontT d s F h b x y))∧Below w.heap.size w w':=by
 obtain⟨W,hW⟩:∃W,W=(w.alloc (.cells #[.string d,.string s,.int .i64 A,.int .i64 B,.slice o F.length cap,.int .i64 h,.int .i64 b] 27)).alloc (.cells #[.int .i64 x,.int .i64 y] 51):=⟨_,rfl⟩
 have hbW:Below w.heap.size w W:=by rw[hW];exact((Below.refl _ _).alloc (Nat.le_refl _) _).alloc (by simp) _
 have hk0:W.heap[w.heap.size]?=some (.cells #[.string d,.string s,.int .i64 A,.int .i64 B,.slice o F.length cap,.int .i64 h,.int .i64 b] 27 (0,0)):=by rw[hW];exact(heap_alloc_old _ _ _ (by simp)).trans (heap_alloc_at _ _)
 have hs0:W.heap[w.heap.size+1]?=some (.cells #[.int .i64 x,.int .i64 y] 51 (0,0)):=by
  rw[hW]
  have:=heap_alloc_at (w.alloc (.cells #[.string d,.string s,.int .i64 A,.int .i64 B,.slice o F.length cap,.int .i64 h,.int .i64 b] 27)) (.cells #[.int .i64 x,.int .i64 y] 51)
  simpa using this
 have HFW:Hid (Tx W.heap.size W o F):=(hF.below hbW).mono hbW.size
 have Hsz:Hid (∀t ∈ F,t.size≤70):=hsz
 have hfh:=fun w=>specFormT h hh w
 have hfb:=fun w=>specFormT b hb w
 have hfs:=fun w=>specSumT x y hx hy w
 have zh:(formT h).size≤7:=by unfold formT;split<;>decide
 have zb:(formT b).size≤7:=by unfold formT;split<;>decide
 have zs:(sumT x y).size≤4400000003:=by
  unfold sumT
  rw[ByteArray.size_append,ByteArray.size_append]
  have h1:=dec_size x (by omega)
  have h2:=dec_size y (by omega)
  have h3:(⟨#[45]⟩:ByteArray).size=1:=rfl
  omega
 have hjl:=jc_len F hsz
 obtain⟨R,hR⟩:∃R,frontT d s F h b x y=R:=⟨_,rfl⟩
 have HR:Hid (⟨#[32,100,61]⟩++d++⟨#[59,32,115,61]⟩++s++⟨#[59,32,99,61]⟩++formT h++⟨#[47]⟩++formT b++⟨#[59,32,104,61]⟩++⟨(jc F).toArray⟩++⟨#[59,32,98,61]⟩++sumT x y++⟨#[59,32,120,61]⟩=R):=hR
 rw[hR]
 generalize formT h=th at *
 generalize formT b=tb at *
 generalize sumT x y=tsum at *
 clear hR hF hsz hh hb
 go_enter Tryz.func22,Tryz.ntmps22
 go_wp2
 rw[← hW]
 clear hW
 obtain⟨c0,c1,c2,c3,c4,c5,c6⟩:=sg_cells hk0
 go_loopw [5,6] (fun al i wr=>∃ (T:ByteArray) (k:Nat),k≤F.length∧al=.string T∧i=.int .i64 k∧Hid (T.data.toList=jc (F.take k))∧wr=W) (fun _ i _=>F.length-(Lib.intOf i).toNat)
 case atStart=>exact⟨⟨#[]⟩,0,Nat.zero_le _,rfl,rfl,rfl,rfl⟩
 case round=>
  obtain⟨T,k,hk,rfl,rfl,HA,rfl⟩:=hrel
  have hTs:T.size≤71*k:=by
   have h1:=jc_len (F.take k) (fun t ht=>Hsz.out t (List.mem_of_mem_take ht))
   rw[← HA.out,List.length_take,Nat.min_eq_left hk] at h1
   simpa using h1
  by_cases hlt:k<F.length
  ·obtain⟨a,rfl,ha,hc0⟩:=HFW.out k hlt
   have hxs:=Hsz.out F[k] (List.getElem_mem hlt)
   have HX:Hid (jc (F.take (k+1))=if k=0 then F[k].data.toList else jc (F.take k)++58::F[k].data.toList):=jc_next F k hlt
   generalize F[k]=f at *
   by_cases h0:0<k
   ·have HN:Hid ((T++⟨#[58]⟩++f).data.toList=jc (F.take (k+1))):=by
     show _=_
     rw[HX.out,if_neg (by omega),← HA.out]
     simp[ByteArray.data_append]
    have n1:(T++(⟨#[58]⟩:ByteArray)).size=T.size+1:=by rw[ByteArray.size_append];rfl
    clear HX HA
    go_wp2
    go_roundw
    case rel=>exact⟨T++⟨#[58]⟩++f,k+1,by omega,rfl,by go_num,HN,trivial⟩
    case measure=>simp[Lib.intOf];omega
   ·have HN:Hid ((T++f).data.toList=jc (F.take (k+1))):=by
     show _=_
     obtain rfl:k=0:=by omega
     rw[HX.out,if_pos rfl]
     have:T.data.toList=[]:=by rw[HA.out];rfl
     simp[ByteArray.data_append,this]
    clear HX HA
    go_wp2
    go_roundw
    case rel=>exact⟨T++f,k+1,by omega,rfl,by go_num,HN,trivial⟩
    case measure=>simp[Lib.intOf];omega
  ·have HT:Hid (T=⟨(jc F).toArray⟩):=by
    show _=_
    have e:T.data.toList=jc F:=by rw[HA.out,List.take_of_length_le (by omega)]
    rw[← e]
   obtain⟨s0,s1⟩:=two_cells hs0
   have k0:=cell_regrown c0
   have k1:=cell_regrown c1
   have k5:=cell_regrown c5
   have k6:=cell_regrown c6
   have q0:=cell_regrown s0
   have q1:=cell_regrown s1
   have cH:∀dr os,Calls Tryz.prog 72 #[.int .i64 h] (Go.Sort.grow (redrawn wr dr) os) fun e w''=>e=.returned (.string th)∧∃p:Regrown,w''=Go.Sort.grow (redrawn wr p.d) p.os:=fun dr os=>Calls.regrown_of (hfh _)
   have cB:∀dr os,Calls Tryz.prog 72 #[.int .i64 b] (Go.Sort.grow (redrawn wr dr) os) fun e w''=>e=.returned (.string tb)∧∃p:Regrown,w''=Go.Sort.grow (redrawn wr p.d) p.os:=fun dr os=>Calls.regrown_of (hfb _)
   have cS:∀dr os,Calls Tryz.prog 24 #[sumV x y] (Go.Sort.grow (redrawn wr dr) os) fun e w''=>e=.returned (.string tsum)∧∃p:Regrown,w''=Go.Sort.grow (redrawn wr p.d) p.os:=fun dr os=>Calls.regrown_of (hfs _)
   have CH:=(show Hid _ from cH)
   have CB:=(show Hid _ from cB)
   have CS:=(show Hid _ from cS)
   clear cH cB cS HA hfh hfb hfs c0 c1 c2 c3 c5 c6 s0 s1 hk0 hs0
   go_wp2
   have m2:¬9223372036854775807<3+d.size:=by omega
   have m3:¬9223372036854775807<3+d.size+4:=by omega
   have m4:¬9223372036854775807<3+d.size+4+s.size:=by omega
   have m5:¬9223372036854775807<3+d.size+4+s.size+4:=by omega
   have m6:¬9223372036854775807<3+d.size+4+s.size+4+th.size:=by omega
   have m7:¬9223372036854775807<3+d.size+4+s.size+4+th.size+1:=by omega
   have m8:¬9223372036854775807<3+d.size+4+s.size+4+th.size+1+tb.size:=by omega
   have m9:¬9223372036854775807<3+d.size+4+s.size+4+th.size+1+tb.size+4:=by omega
   have m10:¬9223372036854775807<3+d.size+4+s.size+4+th.size+1+tb.size+4+T.size:=by omega
   have m11:¬9223372036854775807<3+d.size+4+s.size+4+th.size+1+tb.size+4+T.size+4:=by omega
   have m12:¬9223372036854775807<3+d.size+4+s.size+4+th.size+1+tb.size+4+T.size+4+tsum.size:=by omega
   have m13:¬9223372036854775807<3+d.size+4+s.size+4+th.size+1+tb.size+4+T.size+4+tsum.size+4:=by omega
   refine wp_region_quiet_below (by kernel_rfl) (by kernel_rfl) ?_
   iterate 12 quiet_step (fail)
   quiet_step (exact CH.out _ _)
   iterate 4 quiet_step (fail)
   quiet_step (exact CB.out _ _)
   repeat (quiet_step (fail))
   quiet_step (exact CS.out _ _)
   repeat (quiet_step (fail))
   refine wpQuiet_nil ?_
   intro _ hw'
   obtain⟨⟨dq,osq⟩,hw''⟩:=hw'
   subst hw''
   have hbq:=hbW.trans ((below_regrown wr dq osq).mono hbW.size)
   go_wp2
   go_ret
   rw[HT.out] at *
   exact⟨by rw[HR.out];rfl,hbq⟩
theorem implFormT (h:Int)(hh:h=0∨h=1)(w:World):Calls Tryz.prog 61 #[.int .i64 h] w fun e w'=>e=.returned (.string (formT h))∧w=w':=by
 rcases hh with rfl|rfl
 ·go_enter Tryz.func61,Tryz.ntmps61
  go_wp2
  go_ret
  exact⟨rfl,rfl⟩
 ·go_enter Tryz.func61,Tryz.ntmps61
  go_wp2
  go_ret
  exact⟨rfl,rfl⟩
abbrev PTab (w:World):Prop:=Lib.TabIs Tryz.prog w "internal/strconv.uint64pow10" .u64 Lib.pow10Tab
theorem pGlob:Tryz.prog.globalNamed "internal/strconv.uint64pow10" = some 1:=by kernel_rfl
theorem ptab_on {w w':World} {B:Nat} (h:PTab w)(hB:1<B)(hb:Below B w w'):PTab w':=by
 unfold PTab Lib.TabIs World.var? at h ⊢
 rw[pGlob] at h ⊢
 simp only[Option.bind_some] at h ⊢
 rw[hb.block _ hB]
 exact h
theorem ptab_lt {w:World} (h:PTab w):1<w.heap.size:=by
 unfold PTab Lib.TabIs World.var? at h
 rw[pGlob] at h
 simp only[Option.bind_some] at h
 rcases Nat.lt_or_ge 1 w.heap.size with h'|h'
 ·exact h'
 ·rw[Array.getElem?_eq_none h'] at h;cases h
theorem below_drewN (w:World)(k:Nat)(os:Array Obj):Below w.heap.size w (Go.Sort.grow (w.drewN k) os):=by
 refine⟨rfl,rfl,rfl,by first|(simp[Go.Sort.grow];done)|(simp[Go.Sort.grow];omega),fun i hi=>?_⟩
 show((w.drewN k).heap++os)[i]?=_
 rw[Array.getElem?_append_left (by show i<w.heap.size;omega)]
 rfl
theorem implDec (n:Nat)(hn:n≤2200000000)(w:World)(hP:PTab w):Calls Tryz.prog 108 #[.int .i64 n,.int .i64 10] w fun e w'=>e=.returned (.string ⟨(decDigits n).toArray⟩)∧Below w.heap.size w w':=by
 refine(Tryz.strconv_FormatInt_10 (n:Int) (by omega) (by omega) w hP).mono ?_
 rintro e w' ⟨rfl,k,os,rfl⟩
 refine⟨by rw[itoa,if_neg (by omega),Int.toNat_natCast],?_⟩
 exact below_drewN _ _ _
theorem implSumT (a b:Nat)(ha:a<2147483647)(hb:b<2147483647)(w:World)(hP:PTab w):Calls Tryz.prog 63 #[sumV a b] w fun e w'=>e=.returned (.string (sumT a b))∧Below w.heap.size w w':=by
 have hz1:=dec_size a (by omega)
 have hz2:=dec_size b (by omega)
 have hA:=fun w hP=>implDec a (by omega) w hP
 have hB:=fun w hP=>implDec b (by omega) w hP
 unfold sumT
 generalize (⟨(decDigits a).toArray⟩:ByteArray)=ta at *
 generalize (⟨(decDigits b).toArray⟩:ByteArray)=tb at *
 obtain⟨W,hW⟩:∃W,W=w.alloc (.cells #[.int .i64 a,.int .i64 b] 51):=⟨_,rfl⟩
 have hbW:Below w.heap.size w W:=by rw[hW];exact(Below.refl _ _).alloc (Nat.le_refl _) _
 have hPW:PTab W:=ptab_on hP (ptab_lt hP) hbW
 have HR:∀d os,PTab (Go.Sort.grow (redrawn W d) os):=fun d os=>ptab_on hPW (ptab_lt hPW) (below_regrown W d os)
 have q0:W.cell? ⟨w.heap.size,0,none⟩=some (.int .i64 a):=by rw[hW];simp
 have q1:W.cell? ⟨w.heap.size,1,none⟩=some (.int .i64 b):=by rw[hW];simp
 have k0:=cell_regrown q0
 have k1:=cell_regrown q1
 have cA:∀d os,Calls Tryz.prog 108 #[.int .i64 a,.int .i64 10] (Go.Sort.grow (redrawn W d) os) fun e w''=>e=.returned (.string ta)∧∃p:Regrown,w''=Go.Sort.grow (redrawn W p.d) p.os:=fun d os=>Calls.regrown_of (hA _ (HR d os))
 have cB:∀d os,Calls Tryz.prog 108 #[.int .i64 b,.int .i64 10] (Go.Sort.grow (redrawn W d) os) fun e w''=>e=.returned (.string tb)∧∃p:Regrown,w''=Go.Sort.grow (redrawn W p.d) p.os:=fun d os=>Calls.regrown_of (hB _ (HR d os))
 have CA:=(show Hid _ from cA)
 have CB:=(show Hid _ from cB)
 clear cA cB hA hB HR hPW hP
 have n0:¬9223372036854775807<ta.size+1:=by omega
 have n1:¬9223372036854775807<ta.size+1+tb.size:=by omega
 go_enter Tryz.func63,Tryz.ntmps63
 go_wp2
 rw[← hW]
 clear hW
 refine wp_region_quiet_below (by kernel_rfl) (by kernel_rfl) ?_
 repeat (quiet_step (fail))
 quiet_step (exact CA.out _ _)
 repeat (quiet_step (fail))
 quiet_step (exact CB.out _ _)
 repeat (quiet_step (fail))
 refine wpQuiet_nil ?_
 intro _ hw'
 obtain⟨⟨dq,osq⟩,hw''⟩:=hw'
 subst hw''
 have hbq:=hbW.trans ((below_regrown W dq osq).mono hbW.size)
 go_wp2
 go_ret
 exact⟨rfl,hbq⟩
def catT (xs:List ByteArray):ByteArray:=⟨((xs.map (·.data.toList)).flatten).toArray⟩
def allSz (xs:List ByteArray):Nat:=(xs.map (·.size)).sum
theorem catT_size (xs:List ByteArray):(catT xs).size=allSz xs:=by
 show((xs.map (·.data.toList)).flatten).toArray.size=_
 rw[List.size_toArray]
 induction xs with
 | nil=>rfl
 | cons x xs ih=>
  simp only[List.map_cons,List.flatten_cons,List.length_append,allSz,List.sum_cons] at ih ⊢
  rw[ih]
  simp
theorem allSz_next (xs:List ByteArray)(k:Nat)(h:k<xs.length):allSz (xs.take (k+1))=allSz (xs.take k)+xs[k].size:=by
 rw[List.take_succ_eq_append_getElem h,allSz,allSz,List.map_append,List.sum_append]
 simp
theorem allSz_take (xs:List ByteArray)(k:Nat):allSz (xs.take k)≤allSz xs:=by
 induction xs generalizing k with
 | nil=>simp[allSz]
 | cons x xs ih=>
  cases k with
  | zero=>simp[allSz]
  | succ k=>
   have:=ih k
   simp only[allSz,List.take_succ_cons,List.map_cons,List.sum_cons] at this ⊢
   omega
theorem join_cat (xs:List ByteArray):Lib.join (xs.map (·.data.toList)) []=(xs.map (·.data.toList)).flatten:=by
 unfold Lib.join
 induction xs with
 | nil=>rfl
 | cons x xs ih=>
  cases xs with
  | nil=>simp[List.intercalate]
  | cons y ys=>
   simp only[List.intercalate,List.map_cons,List.intersperse,List.flatten_cons] at ih ⊢
   rw[ih]
   simp
theorem cell_of {xs:List ByteArray} {bk o:Nat} {w:World} (h:∀(j:Nat) x,xs[j]?=some x→w.cell? ⟨bk,o+j,none⟩=some (.string x))(k:Nat)(hk:k<xs.length):w.cell? ⟨bk,o+k,none⟩=some (.string xs[k]):=h k _ (List.getElem?_eq_getElem hk)
theorem implWrittenAll (xs:List ByteArray)(bk c:Nat)(w:World)(hcells:∀(j:Nat) x,xs[j]?=some x→w.cell? ⟨bk,0+j,none⟩=some (.string x))(hbk:bk<w.heap.size)(hn:xs.length≤100)(hc:xs.length≤c)(htot:allSz xs≤100000) :
  Calls Tryz.prog 32 #[.slice (some ⟨bk,0,none⟩) xs.length c] w fun e w'=>e=.returned (.string (catT xs))∧Below w.heap.size w w':=by
 have hl:(xs.map (·.data.toList)).flatten.length=allSz xs:=by
  have:=catT_size xs
  rwa [catT,show(⟨((xs.map (·.data.toList)).flatten).toArray⟩:ByteArray).size=((xs.map (·.data.toList)).flatten).toArray.size from rfl,List.size_toArray] at this
 have hJ:=Tryz.strings_Join bk 0 c xs ⟨#[]⟩ w hcells hbk (by omega) hc (by
  show(Lib.join (xs.map (·.data.toList)) []).length≤_
  rw[join_cat,hl]
  omega)
 have HJ:Hid (Calls Tryz.prog 62 #[.slice (some ⟨bk,0,none⟩) xs.length c,.string ⟨#[]⟩] w fun e w'=>e=.returned (.string (catT xs))∧Below w.heap.size w w'):=by
  refine hJ.mono ?_
  rintro e w' ⟨rfl,hb⟩
  refine⟨?_,hb⟩
  show _=Ending.returned (.string (catT xs))
  rw[catT,← join_cat]
 have HC:Hid (∀(j:Nat) x,xs[j]?=some x→w.cell? ⟨bk,0+j,none⟩=some (.string x)):=hcells
 clear hJ hl hcells
 go_enter Tryz.func32,Tryz.ntmps32
 go_wp2
 go_loopw [3,8] (fun s i wr=>∃ k:Nat,k≤xs.length∧s=.int .i64 (allSz (xs.take k))∧i=.int .i64 k∧wr=w) (fun _ i _=>xs.length-(Lib.intOf i).toNat)
 case atStart=>exact⟨0,Nat.zero_le _,rfl,rfl,rfl⟩
 case round=>
  obtain⟨k,hk,rfl,rfl,rfl⟩:=hrel
  by_cases hlt:k<xs.length
  ·have hcl:=cell_of HC.out k hlt
   rw[Nat.zero_add] at hcl
   have hnx:=allSz_next xs k hlt
   have hle:=allSz_take xs (k+1)
   have HN:Hid (allSz (xs.take (k+1))=allSz (xs.take k)+xs[k].size):=hnx
   have hle2:allSz (xs.take k)+xs[k].size≤100000:=by omega
   clear hnx hle
   generalize xs[k]=x at *
   generalize allSz (xs.take k)=z at *
   go_wp2
   go_roundw
   case rel=>exact⟨k+1,by omega,by rw[HN.out];go_num,by go_num,trivial⟩
   case measure=>simp[Lib.intOf];omega
  ·obtain rfl:k=xs.length:=by omega
   rw[List.take_length]
   go_wp2_with fail
   refine HJ.out.mono ?_
   rintro e w2 ⟨rfl,hb⟩
   go_wp2
   go_ret
   exact⟨rfl,hb⟩
open Go.RowKit
section
variable {P:Program} {ops:Array Oper} {Q:Exit→Act→World→Prop} {md:Region.Mode}
theorem wpAny_inv (S:Nat→Array Bool→Act→World→Prop)
  (h0:∀L a w,S 0 L a w→Region.ready md ops L=[]∧Q .normal a w)
  (h1:∀n L a w,S (n+1) L a w→(Region.ready md ops L=[]→Q .normal a w)∧∀i ∈ Region.ready md ops L,wpOp P ops Q i (S n (L.setIfInBounds i true)) a w) :
  ∀n L a w,S n L a w→wpAny P md ops Q n L a w
 | 0,L,a,w,h=>h0 L a w h
 | n+1,L,a,w,h=>⟨(h1 n L a w h).1,fun i hi=>wpOp_mono (fun a w=>wpAny_inv S h0 h1 n _ a w) ((h1 n L a w h).2 i hi)⟩
theorem mem_ready {L:Array Bool} {i:Nat} (h:i ∈ Region.ready md ops L):i<ops.size∧L.getD i true=false:=by
 unfold Region.ready at h
 rw[List.mem_filter,List.mem_range,Bool.and_eq_true] at h
 exact⟨h.1,by simpa using h.2.1⟩
theorem ready_dep {L:Array Bool} {i:Nat} {o:Oper} (h:i ∈ Region.ready md ops L)(ho:ops[i]?=some o)(k:Nat)(hk:(o.after.toList.any fun e=>e.on==k && Region.binds md e)=true):L.getD k false=true:=by
 unfold Region.ready at h
 rw[List.mem_filter,Bool.and_eq_true,ho] at h
 have h2:(o.after.all fun e=>!Region.binds md e || L.getD e.on false)=true:=h.2.2
 rw[List.any_eq_true] at hk
 obtain⟨e,he,hb⟩:=hk
 rw[Bool.and_eq_true,beq_iff_eq] at hb
 have h3:=Array.all_eq_true'.1 h2 e (Array.mem_toList_iff.1 he)
 rw[hb.2,hb.1] at h3
 simpa using h3
def afterLow (ops:Array Oper):Bool:=(List.range ops.size).all fun i=>((ops[i]?).map fun o=>o.after.toList.all fun e=>decide (e.on<i)).getD false
theorem getD_false {L:Array Bool} {i:Nat} (h:i<L.size):L.getD i true=L.getD i false:=by simp[Array.getD,h]
theorem all_done {L:Array Bool} (hs:L.size=ops.size)(hA:afterLow ops=true)(hr:Region.ready md ops L=[]):∀m i,i<m→i<ops.size→L.getD i false=true
 | 0,i,h,_=>by omega
 | m+1,i,h,hi=>by
  by_cases hm:i<m
  ·exact all_done hs hA hr m i hm hi
  ·cases hd:L.getD i false with
   | true=>rfl
   | false=>
    exfalso
    have hin:i ∈ Region.ready md ops L:=by
     unfold Region.ready
     rw[List.mem_filter,List.mem_range,Bool.and_eq_true]
     refine⟨hi,by rw[getD_false (by omega),hd];rfl,?_⟩
     have ha:=List.all_eq_true.1 hA i (List.mem_range.2 hi)
     obtain⟨o,ho⟩:∃o,ops[i]?=some o:=⟨ops[i],by simp⟩
     rw[ho] at ha ⊢
     have ha2:(o.after.toList.all fun e=>decide (e.on<i))=true:=ha
     show(o.after.all fun e=>!Region.binds md e || L.getD e.on false)=true
     refine Array.all_eq_true'.2 fun e he=>?_
     have hlt:=List.all_eq_true.1 ha2 e (Array.mem_toList_iff.2 he)
     rw[decide_eq_true_eq] at hlt
     rw[all_done hs hA hr m e.on (by omega) (by omega),Bool.or_true]
    rw[hr] at hin
    cases hin
def left (L:Array Bool):Nat:=L.toList.count false
theorem left_set {L:Array Bool} {i n:Nat} (h:L.getD i true=false)(hn:left L=n+1):left (L.setIfInBounds i true)=n:=by
 have hi:i<L.size:=by
  by_cases hi:i<L.size
  ·exact hi
  ·simp[Array.getD,hi] at h
 have hv:L[i]=false:=by simpa [Array.getD,hi] using h
 unfold left at hn ⊢
 rw[Array.toList_setIfInBounds,List.count_set (by simpa using hi),hn]
 simp[hv]
theorem left_zero {L:Array Bool} (h:left L=0)(i:Nat)(hi:i<L.size):L.getD i true=true:=by
 unfold left at h
 have:=List.count_eq_zero.1 h
 have hm:L[i] ∈ L.toList:=by simp
 cases hv:L[i] with
 | true=>simp[Array.getD,hi,hv]
 | false=>rw[hv] at hm;exact absurd hm this
theorem ready_zero {L:Array Bool} (hs:L.size=ops.size)(h:left L=0):Region.ready md ops L=[]:=by
 unfold Region.ready
 rw[List.filter_eq_nil_iff]
 intro i hi
 rw[left_zero h i (by rw[hs];exact List.mem_range.1 hi)]
 simp
theorem done_set {L:Array Bool} {i j:Nat} (h:j≠i):(L.setIfInBounds i true).getD j false=L.getD j false:=by
 simp only[Array.getD,Array.size_setIfInBounds]
 split
 ·rename_i hj
  show(L.setIfInBounds i true)[j]'(by simpa using hj)=L[j]
  rw[Array.getElem_setIfInBounds hj,if_neg (Ne.symm h)]
 ·rfl
theorem wpAny_by (S:Nat→Array Bool→Act→World→Prop)(hlow:afterLow ops=true)(hS:∀n L a w,S n L a w→L.size=ops.size∧left L=n)
  (hend:∀n L a w,S n L a w→(∀i,i<ops.size→L.getD i false=true)→Q .normal a w)
  (hstep:∀n L a w,S (n+1) L a w→∀i ∈ Region.ready md ops L,wpOp P ops Q i (S n (L.setIfInBounds i true)) a w) :
  ∀n L a w,S n L a w→wpAny P md ops Q n L a w:=
 wpAny_inv S
  (fun L a w h=>⟨ready_zero (hS _ _ _ _ h).1 (hS _ _ _ _ h).2,hend _ _ _ _ h fun i hi=>by
   have hs:=(hS _ _ _ _ h).1
   rw[← getD_false (by omega)]
   exact left_zero (hS _ _ _ _ h).2 i (by omega)⟩)
  (fun n L a w h=>⟨fun hr=>hend _ _ _ _ h fun i hi=>all_done (hS _ _ _ _ h).1 hlow hr _ i (Nat.lt_succ_self i) hi,hstep n L a w h⟩)
end
def put (x:Nat→Value)(d:Nat)(v:Value)(j:Nat):Value:=if j=d then v else x j
section
variable {P:Program} {ops:Array Oper} {Q:Exit→Act→World→Prop} {md:Region.Mode}
structure ValS (ops:Array Oper)(dst:Nat→Nat)(A:(Nat→Value)→Act)(F:Nat→Value→World→Prop)(R:World→World→Prop)(W:World)(n:Nat)(L:Array Bool)(a:Act)(w:World):Prop where
 size:L.size=ops.size
 left:Go.Proofs.YtacaoiedcfelcaaGreatDoor.left L=n
 gr:R W w
 val:∃x,a=A x∧∀j,L.getD j false=true→F j (x (dst j)) w
theorem wpAny_vals (dst:Nat→Nat)(A:(Nat→Value)→Act)(F:Nat→Value→World→Prop)(R:World→World→Prop)(W:World)
  (hlow:afterLow ops=true) (hdst:∀i j,i<ops.size→j<ops.size→j≠i→dst j≠dst i) (htr:∀a b c,R a b→R b c→R a c) (hF:∀j v w w',F j v w→R w w'→F j v w')
  (hend:∀x w,R W w→(∀i,i<ops.size→F i (x (dst i)) w)→Q .normal (A x) w)
  (hstep:∀x L w i,R W w→i ∈ Region.ready md ops L→(∀j,L.getD j false=true→F j (x (dst j)) w)→wpOp P ops Q i (fun a' w'=>∃ v,a'=A (put x (dst i) v)∧F i v w'∧R w w') (A x) w)
  (n:Nat) (L:Array Bool) (a:Act) (w:World) (hs:L.size=ops.size) (hl:left L=n) (h0:(L.toList.all fun b=>!b)=true) (hR:R W w) (x:Nat→Value) (ha:a=A x):wpAny P md ops Q n L a w:=by
 refine wpAny_by (ValS ops dst A F R W) hlow (fun n L a w h=>⟨h.size,h.left⟩) ?_ ?_ n L a w ⟨hs,hl,hR,x,ha,fun j hj=>?_⟩
 ·intro n L a w h hall
  obtain⟨x,rfl,hx⟩:=h.val
  exact hend x w h.gr fun i hi=>hx i (hall i hi)
 ·intro n L a w h i hi
  obtain⟨x,rfl,hx⟩:=h.val
  have hr:=mem_ready hi
  refine wpOp_mono ?_ (hstep x L w i h.gr hi hx)
  rintro a' w' ⟨v,rfl,hv,hw⟩
  refine⟨by simpa using h.size,left_set hr.2 h.left,htr _ _ _ h.gr hw,put x (dst i) v,rfl,fun j hj=>?_⟩
  by_cases hji:j=i
  ·subst hji
   unfold put
   rw[if_pos rfl]
   exact hv
  ·rw[done_set hji] at hj
   have hjs:j<ops.size:=by
    rcases Nat.lt_or_ge j L.size with h1|h1
    ·rw[← h.size];exact h1
    ·rw[Array.getD_eq_getD_getElem?,Array.getElem?_eq_none h1] at hj;cases hj
   unfold put
   rw[if_neg (hdst i j hr.1 hjs hji)]
   exact hF j _ _ _ (hx j hj) hw
 ·exfalso
  rcases Nat.lt_or_ge j L.size with h1|h1
  ·have:=List.all_eq_true.1 h0 L[j] (by simp)
   simp[Array.getD,h1] at hj
   rw[hj] at this
   cases this
  ·rw[Array.getD_eq_getD_getElem?,Array.getElem?_eq_none h1] at hj;cases hj
end
end Go.Proofs.YtacaoiedcfelcaaGreatDoor
