import Derived.Test.YtacaoiedcfelcaaGreatDoorCells
import Derived.Deep.QuietTactic
import Derived.Test.YtacaoiedcfelcaaGreatDoorCkTurn
import Derived.BigQuiet
import Derived.Deep.RegionWith
set_option maxRecDepth 20000
set_option maxHeartbeats 2000000
namespace Go.Proofs.YtacaoiedcfelcaaGreatDoor
open Go.RowKit Go.Lib
abbrev box3 (n l d:ByteArray):Value:=.agg #[.string n,.string l,.string d]
def addrOk (n l d:ByteArray):Bool:=decide (1≤l.size) && (decide (l.size≤64) && (l.data.toList.all Pl.tb && (decide (n.size≤200) && (n.data.toList.all Pl.tb && Pl.domI d.data.toList))))
theorem specIsName (s:ByteArray)(w:World)(hs:s.size≤1100000) :
  Calls Tryz.prog 134 #[.string s] w fun e w'=>e=.returned (.bool (decide (s.size≤200) && s.data.toList.all Pl.tb))∧w=w':=by
 by_cases hn:s.size≤200
 ·have ha:=specClean s w hs
  rw[decide_eq_true hn,Bool.true_and]
  generalize s.data.toList.all Pl.tb=b at *
  go_enter Tryz.func134,Tryz.ntmps134
  go_wp2_with (go_at_call 180;go_must (refine ha.mono ?_;rintro e w2 ⟨rfl,rfl⟩))
  go_ret
  exact⟨rfl,rfl⟩
 ·rw[decide_eq_false hn,Bool.false_and]
  go_enter Tryz.func134,Tryz.ntmps134
  go_wp2
  go_ret
  exact⟨rfl,rfl⟩
theorem isEmpty_of (q:ByteArray)(h0:q.size=0):q.toList.isEmpty=true:=by
 rw[ByteArray.toList_eq,List.isEmpty_iff]
 exact List.length_eq_zero_iff.1 (by rw[Pl.len_list];exact h0)
theorem isEmpty_ne (q:ByteArray)(h0:¬q.size=0):q.toList.isEmpty=false:=by
 rw[ByteArray.toList_eq,List.isEmpty_eq_false_iff]
 intro e
 exact h0 (by rw[← Pl.len_list,e];rfl)
theorem specAddress (n l d:ByteArray)(w:World)(hn:n.size≤1100000)(hl:l.size≤1100000)(hd:d.size≤1100000) :
  Calls Tryz.prog 131 #[box3 n l d] w fun e w'=>e=.returned (.int .i64 (dcode (addrOk n l d)))∧Below w.heap.size w w':=by
 have hN:=fun w=>specIsName n w hn
 have hA:=fun w=>specClean l w hl
 have hD:=fun w=>specDomain d w hd
 have hbA:∀b,Below w.heap.size w (w.alloc b):=fun b=>(Below.refl _ _).alloc (Nat.le_refl _) _
 unfold addrOk
 generalize Pl.domI d.data.toList=b3 at *
 by_cases h0:l.size=0
 ·rw[decide_eq_false (by omega),Bool.false_and]
  go_enter Tryz.func131,Tryz.ntmps131
  go_wp2
  go_ret
  exact⟨rfl,hbA _⟩
 rw[decide_eq_true (by omega),Bool.true_and]
 by_cases h1:64<l.size
 ·rw[decide_eq_false (by omega),Bool.false_and]
  go_enter Tryz.func131,Tryz.ntmps131
  go_wp2
  go_ret
  exact⟨rfl,hbA _⟩
 rw[decide_eq_true (by omega),Bool.true_and]
 generalize l.data.toList.all Pl.tb=b1 at *
 rw[← Bool.and_assoc (decide (n.size≤200))]
 generalize (decide (n.size≤200) && n.data.toList.all Pl.tb)=b2 at *
 cases b1
 ·go_enter Tryz.func131,Tryz.ntmps131
  go_wp2_with (go_at_call 180;go_must (refine(hA _).mono ?_;rintro e w2 ⟨rfl,rfl⟩))
  go_ret
  exact⟨rfl,hbA _⟩
 have hcell:∀(b:TypeId) (w3:World),Below (w.alloc (.cells #[.string n,.string l,.string d] b)).heap.size (w.alloc (.cells #[.string n,.string l,.string d] b)) w3→w3.cell? ⟨w.heap.size,0,none⟩=some (.string n):=by
  intro b w3 hb
  refine(hb.cell (p:=⟨w.heap.size,0,none⟩) (by simp)).trans ?_
  simp
 cases b3
 all_goals
  cases b2
  all_goals
   go_enter Tryz.func131,Tryz.ntmps131
   go_wp2_with first|(go_at_call 180;go_must (refine(hA _).mono ?_;rintro e w2 ⟨rfl,rfl⟩))|(go_at_call 111;go_must (refine(hD _).mono ?_;rintro e w3 ⟨rfl,hb3⟩;have hc3:=hcell _ _ hb3;simp only[dcode]))|(go_at_call 134;go_must (refine(hN _).mono ?_;rintro e w4 ⟨rfl,rfl⟩))
   go_ret
   exact⟨rfl,(hbA _).trans (hb3.mono (hbA _).size)⟩
theorem addrOk_sizes (n l d:ByteArray)(h:addrOk n l d=true):n.size≤200∧l.size≤64∧d.size≤255:=by
 simp only[addrOk,Bool.and_eq_true,decide_eq_true_eq,Pl.domI] at h
 obtain⟨_,h1,_,h2,_,h3,_⟩:=h
 exact⟨h2,h1,by simpa using h3⟩
abbrev bx (n l d:ByteArray):Obj:=.cells #[.string n,.string l,.string d] 151
theorem box_cells (n l d:ByteArray)(w w2:World)(hb:Below (w.alloc (bx n l d)).heap.size (w.alloc (bx n l d)) w2) :
  w2.cell? ⟨w.heap.size,0,none⟩=some (.string n)∧w2.cell? ⟨w.heap.size,1,none⟩=some (.string l)∧w2.cell? ⟨w.heap.size,2,none⟩=some (.string d):=by
 refine⟨(hb.cell (p:=⟨w.heap.size,0,none⟩) (by simp)).trans ?_,(hb.cell (p:=⟨w.heap.size,1,none⟩) (by simp)).trans ?_,(hb.cell (p:=⟨w.heap.size,2,none⟩) (by simp)).trans ?_⟩<;>simp
theorem qs_len:∀l:List UInt8,(Pl.qs l).length≤2*l.length
 | []=>by simp[Pl.qs]
 | c::r=>by
  have:=qs_len r
  rw[Pl.qs]
  split<;>simp<;>omega
def quo (l:ByteArray):ByteArray:=⟨(34::Pl.qs l.data.toList ++ [34]).toArray⟩
theorem quo_size (l:ByteArray):(quo l).size≤2*l.size+2:=by
 have:=qs_len l.data.toList
 show(34::Pl.qs l.data.toList ++ [34]).toArray.size≤_
 simp at this ⊢
 exact this
def phr (l:ByteArray):ByteArray:=⟨(Pl.phrase l.data.toList).toArray⟩
theorem phr_size (l:ByteArray):(phr l).size≤2*l.size+2:=by
 have:=qs_len l.data.toList
 show(Pl.phrase l.data.toList).toArray.size≤_
 unfold Pl.phrase
 split
 ·split
  ·simp;omega
  ·simp at this ⊢;exact this
 ·simp
def addrT (l d:ByteArray):ByteArray:=(if Pl.scan 46 false l.data.toList then l else quo l)++⟨#[64]⟩++d
def boxT (n l d:ByteArray):ByteArray:=if addrOk n l d then (if n.size=0 then addrT l d else phr n++⟨#[32,60]⟩++addrT l d++⟨#[62]⟩) else ⟨#[]⟩
theorem specBox (n l d:ByteArray)(w:World)(hn:n.size≤1100000)(hl:l.size≤1100000)(hd:d.size≤1100000) :
  Calls Tryz.prog 132 #[box3 n l d] w fun e w'=>e=.returned (.string (boxT n l d))∧Below w.heap.size w w':=by
 have hA:=specAddress n l d (w.alloc (bx n l d)) hn hl hd
 have hbA:Below w.heap.size w (w.alloc (bx n l d)):=(Below.refl _ _).alloc (Nat.le_refl _) _
 cases hok:addrOk n l d
 ·rw[boxT,hok]
  rw[hok] at hA
  go_enter Tryz.func132,Tryz.ntmps132
  go_wp2_with (go_at_call 131;go_must (refine hA.mono ?_;rintro e w2 ⟨rfl,hb2⟩;simp only[dcode]))
  go_ret
  exact⟨rfl,hbA.trans (hb2.mono hbA.size)⟩
 ·obtain⟨s0,s1,s2⟩:=addrOk_sizes n l d hok
  rw[boxT,hok,if_pos rfl,addrT]
  rw[hok] at hA
  have HT:=(show Hid _ from fun (w:World)=>specAtoms 46 46 rfl l w (by omega))
  have HQ:=(show Hid (∀w,Calls Tryz.prog 181 #[.string l] w fun e w'=>e=.returned (.string (quo l))∧Below w.heap.size w w') from fun (w:World)=>specQuote l w (by omega))
  have HP:=(show Hid (∀w,Calls Tryz.prog 135 #[.string n] w fun e w'=>e=.returned (.string (phr n))∧Below w.heap.size w w') from fun (w:World)=>specPhrase n w (by omega))
  have zq:=quo_size l
  have zp:=phr_size n
  have Hb:=(show Hid _ from box_cells n l d w)
  generalize quo l=ql at *
  generalize phr n=pn at *
  clear hok hn hl hd
  cases hat:Pl.scan 46 false l.data.toList<;>simp only[hat] at HT
  ·simp only[Bool.false_eq_true,if_false]
   clear hat
   by_cases h0:n.size=0
   ·have hE:=isEmpty_of n h0
    rw[if_pos h0]
    go_enter Tryz.func132,Tryz.ntmps132
    go_wp2_with fail
    refine hA.mono ?_
    rintro e w2 ⟨rfl,hb2⟩
    simp only[dcode]
    obtain⟨c0,c1,c2⟩:=Hb.out _ hb2
    go_wp2_with fail
    refine(HT.out _).mono ?_
    rintro e w3 ⟨rfl,hb3⟩
    clear c0 c1 c2
    go_wp2_with fail
    refine(HQ.out _).mono ?_
    rintro e w4 ⟨rfl,hb4⟩
    have b4:=hb2.trans ((hb3.trans (hb4.mono hb3.size)).mono hb2.size)
    obtain⟨c0,c1,c2⟩:=Hb.out _ b4
    go_wp2
    go_ret
    exact⟨rfl,hbA.trans (b4.mono hbA.size)⟩
   ·have hE:=isEmpty_ne n h0
    rw[if_neg h0]
    go_enter Tryz.func132,Tryz.ntmps132
    go_wp2_with fail
    refine hA.mono ?_
    rintro e w2 ⟨rfl,hb2⟩
    simp only[dcode]
    obtain⟨c0,c1,c2⟩:=Hb.out _ hb2
    go_wp2_with fail
    refine(HT.out _).mono ?_
    rintro e w3 ⟨rfl,hb3⟩
    clear c0 c1 c2
    go_wp2_with fail
    refine(HQ.out _).mono ?_
    rintro e w4 ⟨rfl,hb4⟩
    have b4:=hb2.trans ((hb3.trans (hb4.mono hb3.size)).mono hb2.size)
    obtain⟨c0,c1,c2⟩:=Hb.out _ b4
    have Hc:=(show Hid (∀w9,Below w4.heap.size w4 w9→w9.cell? ⟨w.heap.size,2,none⟩=some (.string d)) from fun w9 h=>(Hb.out _ (b4.trans (h.mono b4.size))).2.2)
    go_wp2
    go_region_with (go_at_call 135;(refine(HP.out _).mono ?_;rintro e w5 ⟨rfl,hb5⟩;have c5:=Hc.out w5 (((Below.refl w4.heap.size w4).drew).trans hb5)))
    all_goals
     go_wp2
     go_ret
     refine⟨?_,hbA.trans ((b4.trans ((((Below.refl w4.heap.size w4).drew).trans hb5).mono b4.size)).mono hbA.size)⟩
     simp only[ByteArray.append_assoc]
     rfl
  ·simp only[if_true]
   clear hat
   by_cases h0:n.size=0
   ·have hE:=isEmpty_of n h0
    rw[if_pos h0]
    go_enter Tryz.func132,Tryz.ntmps132
    go_wp2_with fail
    refine hA.mono ?_
    rintro e w2 ⟨rfl,hb2⟩
    simp only[dcode]
    obtain⟨c0,c1,c2⟩:=Hb.out _ hb2
    go_wp2_with fail
    refine(HT.out _).mono ?_
    rintro e w3 ⟨rfl,hb3⟩
    have b4:=hb2.trans (hb3.mono hb2.size)
    clear c0 c1 c2
    obtain⟨c0,c1,c2⟩:=Hb.out _ b4
    go_wp2
    go_ret
    exact⟨rfl,hbA.trans (b4.mono hbA.size)⟩
   ·have hE:=isEmpty_ne n h0
    rw[if_neg h0]
    go_enter Tryz.func132,Tryz.ntmps132
    go_wp2_with fail
    refine hA.mono ?_
    rintro e w2 ⟨rfl,hb2⟩
    simp only[dcode]
    obtain⟨c0,c1,c2⟩:=Hb.out _ hb2
    go_wp2_with fail
    refine(HT.out _).mono ?_
    rintro e w3 ⟨rfl,hb3⟩
    have b4:=hb2.trans (hb3.mono hb2.size)
    clear c0 c1 c2
    obtain⟨c0,c1,c2⟩:=Hb.out _ b4
    have Hc:=(show Hid (∀w9,Below w3.heap.size w3 w9→w9.cell? ⟨w.heap.size,2,none⟩=some (.string d)) from fun w9 h=>(Hb.out _ (b4.trans (h.mono b4.size))).2.2)
    go_wp2
    go_region_with (go_at_call 135;(refine(HP.out _).mono ?_;rintro e w5 ⟨rfl,hb5⟩;have c5:=Hc.out w5 (((Below.refl w3.heap.size w3).drew).trans hb5)))
    all_goals
     go_wp2
     go_ret
     refine⟨?_,hbA.trans ((b4.trans ((((Below.refl w3.heap.size w3).drew).trans hb5).mono b4.size)).mono hbA.size)⟩
     simp only[ByteArray.append_assoc]
     rfl
end Go.Proofs.YtacaoiedcfelcaaGreatDoor
