import Derived.Test.YtibbpmhbgbafhaaGreatDoorWriteBox
import Derived.Test.YtibbpmhbgbafhaaGreatDoorBmCode
import Derived.Deep.CutBlock
import Derived.Deep.DeepCutAuto
import Derived.Deep.Cut
import Derived.Test.YtibbpmhbgbafhaaGreatDoorDraw
import Derived.Test.YtibbpmhbgbafhaaGreatDoorFields
import Derived.Test.YtibbpmhbgbafhaaGreatDoorDrawOpA
set_option maxRecDepth 20000
set_option maxHeartbeats 8000000
namespace Go.Proofs.YtibbpmhbgbafhaaGreatDoor
open Go.RowKit Go.Lib
namespace Bm
def BitOut (w:World)(e:Ending)(w':World):Prop:=∃b:Bool,e=.returned (.bool b)∧w=w'
theorem wEndAt (s:ByteArray)(i:Nat)(w:World)(hs:s.size≤100000)(hi:i≤200000):Calls Tryz.prog 146 #[.string s,.int .i64 i] w (BitOut w):=by
 by_cases h1:i<s.size
 ·have h8:s[i].toNat<256:=UInt8.toNat_lt _
  by_cases h2:i+1<s.size
  ·have h9:s[i+1].toNat<256:=UInt8.toNat_lt _
   cases h13:((s[i].toNat:Int)==13)
   all_goals
    go_enter Tryz.func146,Tryz.ntmps146
    go_wp2
    go_ret
    exact⟨_,rfl,rfl⟩
  ·cases h13:((s[i].toNat:Int)==13)
   all_goals
    go_enter Tryz.func146,Tryz.ntmps146
    go_wp2
    go_ret
    exact⟨_,rfl,rfl⟩
 ·go_enter Tryz.func146,Tryz.ntmps146
  go_wp2
  go_ret
  exact⟨_,rfl,rfl⟩
theorem wBlank (c:UInt8)(w:World):Calls Tryz.prog 20 #[.int .u8 (c.toNat:Int)] w (BitOut w):=by
 have h8:c.toNat<256:=UInt8.toNat_lt _
 cases h:((c.toNat:Int)==32)
 all_goals
  go_enter Tryz.func20,Tryz.ntmps20
  go_wp2
  go_ret
  exact⟨_,rfl,rfl⟩
theorem obase {B B':Nat} {v:Value} {p:List UInt8} {w:World} (h:Own B v p w)(hB:B'≤B):Own B' v p w:=by
 refine⟨h.1,?_⟩
 rcases h.2 with h0|⟨g,cap,cur,hv,hg,hr⟩
 ·exact .inl h0
 ·exact .inr ⟨g,cap,cur,hv,Nat.le_trans hB hg,hr⟩
set_option maxRecDepth 40000 in
theorem wQuoted (s:ByteArray)(w:World)(hs:s.size≤10000):Calls Tryz.prog 95 #[.string s] w fun e w'=>∃ t:ByteArray,e=.returned (.string t)∧t.size≤6*s.size+100∧Below w.heap.size w w':=by
 obtain⟨i0,hi,hz0,hz1,hz2⟩:=info_parts Tryz.info5
 have hc0:decide ((100000:Int)<(s.size:Int))=false:=by simp;omega
 go_enter Tryz.func95,Tryz.ntmps95
 go_wp2
 go_loopw [3,4,5] (fun v n i wr=>∃ (k m:Nat) (p:List UInt8),k≤s.size+1∧i=.int .i64 k∧n=.int .i64 m∧m≤3*k∧p.length≤6*k∧Hid (Own w.heap.size v p wr)∧Hid (Below w.heap.size w wr)) (fun _ _ i _=>s.size+2-(Lib.intOf i).toNat)
 case atStart=>exact⟨0,0,[],by omega,rfl,rfl,by omega,by simp,Own.made _ _ (Nat.le_refl _),(Below.refl _ _).alloc (Nat.le_refl _) _⟩
 case round=>
  obtain⟨k,m,p,hk,rfl,rfl,hm,hpl,HO,HB⟩:=hrel
  by_cases hlt:k<s.size
  ·have cE:=mkHid (fun i hi W=>wEndAt s i W (by omega) hi)
   go_wp2_with fail
   refine(cE.out k (by omega) _).mono ?_
   rintro e w1 ⟨b1,rfl,rfl⟩
   cases b1
   ·have h8:s[k].toNat<256:=UInt8.toNat_lt _
    have hcell:Hid (Own wr.heap.size (.slice (some ⟨wr.heap.size,0,none⟩) 1 1) [s[k]] (wr.alloc (.cells #[.int .u8 (s[k].toNat:Int)] 5))):=ownLit wr [s[k]] _ (by simp[byteCells]) (by simp)
    generalize hsk:s[k]=c at *
    go_upto_region 14 with fail
    have hbA:=mkHid ((Below.refl wr.heap.size wr).alloc (Nat.le_refl _) (.cells #[.int .u8 (c.toNat:Int)] 5))
    generalize wr.alloc (.cells #[.int .u8 (c.toNat:Int)] 5)=W1 at hcell hbA ⊢
    go_cut [8] from 93 (fun x wc=>∃ b:Bool,x=.bool b∧wc=W1)
    case first=>
     have cB:=mkHid (fun W=>wBlank c W)
     have tail:True:=trivial
     by_cases h33:33≤c.toNat
     ·by_cases h126:c.toNat≤126
      ·rcases (show c.toNat<61∨61<c.toNat∨(61≤c.toNat∧c.toNat≤61) by omega) with h61|h61|⟨h61,h61b⟩
       ·go_wp2
        go_meet
        case rel=>exact⟨_,rfl,rfl⟩
       ·go_wp2
        go_meet
        case rel=>exact⟨_,rfl,rfl⟩
       ·have c61:c=61:=UInt8.toNat_inj.1 (by show c.toNat=61;omega)
        subst c61
        have cB61:Calls Tryz.prog 20 #[.int .u8 61] W1 (BitOut W1):=wBlank 61 W1
        clear cB h33 h126 h61 h61b
        go_wp2_with fail
        refine cB61.mono ?_
        rintro e w2 ⟨b2,rfl,rfl⟩
        cases b2
        ·go_wp2
         go_meet
         case rel=>exact⟨_,rfl,rfl⟩
        ·go_wp2_with fail
         refine(cE.out (k+1) (by omega) _).mono ?_
         rintro e w3 ⟨b3,rfl,rfl⟩
         go_wp2
         go_meet
         case rel=>exact⟨_,rfl,rfl⟩
      ·go_wp2_with fail
       refine(cB.out _).mono ?_
       rintro e w2 ⟨b2,rfl,rfl⟩
       cases b2
       ·go_wp2
        go_meet
        case rel=>exact⟨_,rfl,rfl⟩
       ·go_wp2_with fail
        refine(cE.out (k+1) (by omega) _).mono ?_
        rintro e w3 ⟨b3,rfl,rfl⟩
        go_wp2
        go_meet
        case rel=>exact⟨_,rfl,rfl⟩
     ·go_wp2_with fail
      refine(cB.out _).mono ?_
      rintro e w2 ⟨b2,rfl,rfl⟩
      cases b2
      ·go_wp2
       go_meet
       case rel=>exact⟨_,rfl,rfl⟩
      ·go_wp2_with fail
       refine(cE.out (k+1) (by omega) _).mono ?_
       rintro e w3 ⟨b3,rfl,rfl⟩
       go_wp2
       go_meet
       case rel=>exact⟨_,rfl,rfl⟩
    case rest=>
     obtain⟨b,rfl,rfl⟩:=hcut
     go_upto_if 54 with fail
     go_cut [7] from 93 (fun v wc=>∃ F:List UInt8,1≤F.length∧F.length≤3∧Hid (Own wr.heap.size v F wc)∧Hid (Below wr.heap.size wr wc))
     case first=>
      cases b
      ·obtain⟨y1,hy1⟩:=hexIx (c.toNat / 16) (by omega)
       obtain⟨y2,hy2⟩:=hexIx (c.toNat % 16) (by omega)
       have x1:∀w,Sem.run Tryz.prog (Instr.index 9 (.string HEX) (.int .u8 ((c.toNat:Int) / 16))) w=.ok (.int .u8 (y1.toNat:Int)) w:=hy1
       have x2:∀w,Sem.run Tryz.prog (Instr.index 9 (.string HEX) (.int .u8 ((c.toNat:Int) % 16))) w=.ok (.int .u8 (y2.toNat:Int)) w:=hy2
       clear hy1 hy2 hcell
       go_wp2
       refine wp_region_any (by kernel_rfl) ?_
       refine wpAny_take (i:=0) (v:=.int .u8 (c.toNat:Int)) rfl (by kernel_rfl) (by kernel_rfl) (by kernel_rfl) (fun _ _ _ h=>h) (Or.inl ⟨by rfl,?_⟩) ?_
       ·intro w
        go_simp
       go_simp
       refine wpAny_take (i:=1) (v:=.int .u8 ((c.toNat:Int) / 16)) rfl (by kernel_rfl) (by kernel_rfl) (by kernel_rfl) (fun _ _ _ h=>h) (Or.inl ⟨by rfl,?_⟩) ?_
       ·intro w
        go_simp
        exact w8 _ (by omega) (by omega)
       go_simp
       refine wpAny_take (i:=2) (v:=.int .u8 (y1.toNat:Int)) rfl (by kernel_rfl) (by kernel_rfl) (by kernel_rfl) (fun _ _ _ h=>h) (Or.inl ⟨by rfl,?_⟩) ?_
       ·intro w
        go_simp
       go_simp
       refine wpAny_take (i:=3) (v:=.int .u8 (c.toNat:Int)) rfl (by kernel_rfl) (by kernel_rfl) (by kernel_rfl) (fun _ _ _ h=>h) (Or.inl ⟨by rfl,?_⟩) ?_
       ·intro w
        go_simp
       go_simp
       refine wpAny_take (i:=4) (v:=.int .u8 ((c.toNat:Int) % 16)) rfl (by kernel_rfl) (by kernel_rfl) (by kernel_rfl) (fun _ _ _ h=>h) (Or.inl ⟨by rfl,?_⟩) ?_
       ·intro w
        go_simp
        exact Int.tmod_eq_emod_of_nonneg (by omega)
       go_simp
       refine wpAny_take (i:=5) (v:=.int .u8 (y2.toNat:Int)) rfl (by kernel_rfl) (by kernel_rfl) (by kernel_rfl) (fun _ _ _ h=>h) (Or.inl ⟨by rfl,?_⟩) ?_
       ·intro w
        go_simp
       go_simp
       refine wpAny_ready (rs:=[6]) (by kernel_rfl) (by simp) ?_
       refine AllReady.cons rfl (fun K hK=>?_) AllReady.nil
       go_simp
       refine hK _ _ ?_
       clear hK K
       go_simp
       refine wpAny_ready (rs:=[7]) (by kernel_rfl) (by simp) ?_
       refine AllReady.cons rfl (fun K hK=>?_) AllReady.nil
       go_simp
       refine hK _ _ ?_
       clear hK K
       go_simp
       refine wpAny_done (by kernel_rfl) ?_ _
       go_simp
       go_wp2
       go_meet
       case rel=>exact⟨[61,y1,y2],by simp,by simp,obase (ownLit wc.drew [61,y1,y2] _ (by simp[byteCells]) (by simp)) hbA.out.size,hbA.out.trans (((Below.refl wc.heap.size wc).drew.alloc (Nat.le_refl _) _).mono hbA.out.size)⟩
      ·go_wp2
       go_meet
       case rel=>exact⟨[c],by simp,by simp,hcell,hbA⟩
     case rest=>
      clear hcell hbA
      obtain⟨F,hF1,hF3,HF,HBc⟩:=hcut
      obtain⟨o7,c7,rfl⟩:=oflat HF.out
      go_upto_region 17 with fail
      go_cut [80] from 93 (fun x wx=>∃ b:Bool,x=.bool b∧wx=wc)
      case first=>
       by_cases h75:75<m+F.length
       ·have h75i:(75:Int)<(m:Int)+(F.length:Int):=by omega
        go_wp2_with fail
        refine(cE.out (k+1) (by omega) _).mono ?_
        rintro e w3 ⟨b3,rfl,rfl⟩
        cases b3
        all_goals
         go_wp2
         go_meet
         case rel=>exact⟨_,rfl,rfl⟩
       ·have h75i:¬(75:Int)<(m:Int)+(F.length:Int):=by omega
        go_wp2
        go_meet
        case rel=>exact⟨_,rfl,rfl⟩
      case rest=>
       obtain⟨b,rfl,rfl⟩:=hcut
       have hsw:=HB.out.size
       have hpb:Hid (∀q,u3.ownBlock=some q→q<wr.heap.size):=fun q hq=>(World.ownsRow.lt HO.out q hq).2
       have HBw:=mkHid (HB.out.trans (HBc.out.mono HB.out.size))
       have HOw:=mkHid (HO.out.belowG HBc.out)
       clear HB HBc HO
       have hne:F ≠ []:=by intro e;subst e;simp at hF1
       have hap:Hid ((Value.slice o7 F.length c7).ownBlock=none∨(Value.slice o7 F.length c7).ownBlock≠u3.ownBlock):=by
        by_cases h0:(Value.slice o7 F.length c7).ownBlock=none
        ·exact .inl h0
        ·refine .inr fun e=>?_
         obtain⟨q,hq⟩:=Option.ne_none_iff_exists'.1 h0
         have g1:=(World.ownsRow.lt HF.out q hq).1
         have g2:=hpb.out q (e.symm.trans hq)
         omega
       cases b
       ·go_wp2_with (at_builtin;go_must (refine wp_appo (W:=w) rfl _ _ 22 rfl i0 Tryz.underlying22 hi hz0 hz1 hz2 w.heap.size u3 p rfl HOw.out wr.heap.size _ F rfl HF.out hne (by omega) (Nat.le_refl _) HBw.out ?_;intro v4 w4 hown4 hb4))
        go_roundw
        case rel=>exact⟨k+1,m+F.length,_,by omega,by go_num,by go_num,by omega,by rw[List.length_append];omega,hown4,hb4⟩
        case measure=>simp[Lib.intOf];omega
       ·have hszc:w.heap.size≤wc.heap.size:=HBw.out.size
        go_wp2_with (at_builtin;go_must (refine wp_appG (w:=wc) rfl _ _ 22 rfl i0 Tryz.underlying22 hi hz0 hz1 hz2 w.heap.size u3 p rfl HOw.out _ [61,13,10] rfl 3 3 rfl rfl (by simp;omega) hszc ?_;intro v3 w3 hown3 hg3;refine Hid.out ?_))
        have HF3:=mkHid (World.ownsRow.kept (World.ownsRow.alloc HF.out _) hg3 hap.out)
        have HB3:=mkHid ((HBw.out.alloc hszc (.cells #[.int .u8 61,.int .u8 13,.int .u8 10] 5)).grown hg3 (by simp;omega) (fun q hq=>(World.ownsRow.lt HOw.out q hq).1))
        have HO3:=mkHid hown3
        have hl1:(p ++ [61,13,10]:List UInt8).length≤p.length+3:=by simp
        clear hown3 hg3 HBw HOw HF
        generalize p ++ [61,13,10]=p3 at HO3 hl1
        refine mkHid ?_
        go_wp2_with (at_builtin;go_must (refine wp_appo (W:=w) rfl _ _ 22 rfl i0 Tryz.underlying22 hi hz0 hz1 hz2 w.heap.size v3 p3 rfl HO3.out wr.heap.size _ F rfl HF3.out hne (by omega) (Nat.le_refl _) HB3.out ?_;intro v4 w4 hown4 hb4))
        go_roundw
        case rel=>exact⟨k+1,F.length,_,by omega,by go_num,by go_num,by omega,by rw[List.length_append];omega,hown4,hb4⟩
        case measure=>simp[Lib.intOf];omega
   ·go_wp2_with (at_builtin;go_must (refine wp_app (W:=w) rfl _ _ 22 rfl i0 Tryz.underlying22 hi hz0 hz1 hz2 w.heap.size u3 p rfl HO.out _ [13,10] rfl 2 2 rfl rfl (by simp;omega) (Nat.le_refl _) HB.out ?_;intro v3 w3 hown3 hb3))
    go_roundw
    case rel=>exact⟨k+2,0,_,by omega,by go_num,rfl,by omega,by rw[List.length_append];simp;omega,hown3,hb3⟩
    case measure=>simp[Lib.intOf];omega
  ·have hbk:=HO.out.back (P:=Tryz.prog) 22 9 Tryz.underlying22 Tryz.underlying5 Tryz.underlying9
   have hpz:(⟨p.toArray⟩:ByteArray).size≤6*s.size+100:=by show p.toArray.size≤_;simp;omega
   go_wp2
   go_ret
   exact⟨_,rfl,hpz,HB.out⟩
end Bm
namespace Bm
theorem wDigit (v:Int)(h0:0≤v)(h1:v<64)(w:World):Calls Tryz.prog 186 #[.int .i64 v] w fun e w'=>∃ d:UInt8,e=.returned (.int .u8 (d.toNat:Int))∧w=w':=by
 rcases (show v<26∨(26≤v∧v<52)∨(52≤v∧v<62)∨v=62∨v=63 by omega) with h|h|h|h|h
 ·have e:=by8_val (65+v) (by omega) (by omega)
  go_enter Tryz.func186,Tryz.ntmps186
  go_wp2
  go_ret
  exact⟨_,congrArg (fun x:Int=>Ending.returned (.int .u8 x)) e.symm,rfl⟩
 ·have e:=by8_val (97+v-26) (by omega) (by omega)
  go_enter Tryz.func186,Tryz.ntmps186
  go_wp2
  go_ret
  exact⟨_,congrArg (fun x:Int=>Ending.returned (.int .u8 x)) e.symm,rfl⟩
 ·have e:=by8_val (48+v-52) (by omega) (by omega)
  go_enter Tryz.func186,Tryz.ntmps186
  go_wp2
  go_ret
  exact⟨_,congrArg (fun x:Int=>Ending.returned (.int .u8 x)) e.symm,rfl⟩
 all_goals
  subst h
  go_enter Tryz.func186,Tryz.ntmps186
  go_wp2
  go_ret
 ·exact⟨43,rfl,rfl⟩
 ·exact⟨47,rfl,rfl⟩
set_option maxRecDepth 100000 in
theorem wBare64 (s:ByteArray)(w:World)(hs:s.size≤100000) :
  Calls Tryz.prog 145 #[.string s] w fun e w'=>∃ t:ByteArray,e=.returned (.string t)∧t.size≤2*s.size+4∧Below w.heap.size w w':=by
 obtain⟨i0,hi,hz0,hz1,hz2⟩:=info_parts Tryz.info5
 go_enter Tryz.func145,Tryz.ntmps145
 go_wp2
 go_loopw [3,4] (fun v i wr=>∃ (k:Nat) (p:List UInt8),k≤s.size+2∧i=.int .i64 k∧p.length≤2*k∧Own w.heap.size v p wr∧Below w.heap.size w wr) (fun _ i _=>s.size+3-(Lib.intOf i).toNat)
 case atStart=>exact⟨0,[],Nat.zero_le _,rfl,by simp,Own.made _ _ (Nat.le_refl _),(Below.refl _ _).alloc (Nat.le_refl _) _⟩
 case round=>
  obtain⟨k,p,hk,rfl,hpl,hown,hb⟩:=hrel
  by_cases hlt:k<s.size
  ·have ha:s[k].toNat<256:=UInt8.toNat_lt _
   by_cases h2:k+2<s.size
   ·have hb8:s[k+1].toNat<256:=UInt8.toNat_lt _
    have hc8:s[k+2].toNat<256:=UInt8.toNat_lt _
    go_wp2_with fail
    refine(wDigit _ (by omega) (by omega) _).mono ?_
    rintro e w2 ⟨d1,rfl,rfl⟩
    go_wp2_with fail
    refine(wDigit _ (by omega) (by omega) _).mono ?_
    rintro e w2 ⟨d2,rfl,rfl⟩
    go_wp2_with (first|(at_builtin;go_must (refine wp_app (W:=w) rfl _ _ 22 rfl i0 Tryz.underlying22 hi hz0 hz1 hz2 w.heap.size u3 p rfl hown _ [d1,d2] rfl 2 2 rfl rfl (by simp;omega) (Nat.le_refl _) hb ?_;intro v1 w1 hown1 hb1;refine Hid.out ?_))|fail)
    refine mkHid ?_
    clear hown hb
    go_wp2_with fail
    refine(wDigit _ (by omega) (by omega) _).mono ?_
    rintro e w2 ⟨d3,rfl,rfl⟩
    go_wp2_with (first|(at_builtin;go_must (refine wp_app (W:=w) rfl _ _ 22 rfl i0 Tryz.underlying22 hi hz0 hz1 hz2 w.heap.size v1 _ rfl hown1 _ [d3] rfl 1 1 rfl rfl (by simp;omega) (Nat.le_refl _) hb1 ?_;intro v2 w2 hown2 hb2;refine Hid.out ?_))|fail)
    refine mkHid ?_
    clear hown1 hb1
    go_wp2_with fail
    refine(wDigit _ (by omega) (by omega) _).mono ?_
    rintro e w2 ⟨d4,rfl,rfl⟩
    go_wp2_with (first|(at_builtin;go_must (refine wp_app (W:=w) rfl _ _ 22 rfl i0 Tryz.underlying22 hi hz0 hz1 hz2 w.heap.size v2 _ rfl hown2 _ [d4] rfl 1 1 rfl rfl (by simp;omega) (Nat.le_refl _) hb2 ?_;intro v3 w3 hown3 hb3))|fail)
    go_roundw
    case rel=>exact⟨k+3,_,by omega,by go_num,by simp;omega,hown3,hb3⟩
    case measure=>simp[Lib.intOf];omega
   ·by_cases h1:k+1<s.size
    ·have hb8:s[k+1].toNat<256:=UInt8.toNat_lt _
     go_wp2_with fail
     refine(wDigit _ (by omega) (by omega) _).mono ?_
     rintro e w2 ⟨d1,rfl,rfl⟩
     go_wp2_with fail
     refine(wDigit _ (by omega) (by omega) _).mono ?_
     rintro e w2 ⟨d2,rfl,rfl⟩
     go_wp2_with (first|(at_builtin;go_must (refine wp_app (W:=w) rfl _ _ 22 rfl i0 Tryz.underlying22 hi hz0 hz1 hz2 w.heap.size u3 p rfl hown _ [d1,d2] rfl 2 2 rfl rfl (by simp;omega) (Nat.le_refl _) hb ?_;intro v1 w1 hown1 hb1;refine Hid.out ?_))|fail)
     refine mkHid ?_
     clear hown hb
     go_wp2_with fail
     refine(wDigit _ (by omega) (by omega) _).mono ?_
     rintro e w2 ⟨d3,rfl,rfl⟩
     go_wp2_with (first|(at_builtin;go_must (refine wp_app (W:=w) rfl _ _ 22 rfl i0 Tryz.underlying22 hi hz0 hz1 hz2 w.heap.size v1 _ rfl hown1 _ [d3] rfl 1 1 rfl rfl (by simp;omega) (Nat.le_refl _) hb1 ?_;intro v2 w2 hown2 hb2;refine Hid.out ?_))|fail)
     refine mkHid ?_
     clear hown1 hb1
     go_wp2_with (first|(at_builtin;go_must (refine wp_app (W:=w) rfl _ _ 22 rfl i0 Tryz.underlying22 hi hz0 hz1 hz2 w.heap.size v2 _ rfl hown2 _ [61] rfl 1 1 rfl rfl (by simp;omega) (Nat.le_refl _) hb2 ?_;intro v3 w3 hown3 hb3))|fail)
     go_roundw
     case rel=>exact⟨k+3,_,by omega,by go_num,by simp;omega,hown3,hb3⟩
     case measure=>simp[Lib.intOf];omega
    ·skip
     go_wp2_with fail
     refine(wDigit _ (by omega) (by omega) _).mono ?_
     rintro e w2 ⟨d1,rfl,rfl⟩
     go_wp2_with fail
     refine(wDigit _ (by omega) (by omega) _).mono ?_
     rintro e w2 ⟨d2,rfl,rfl⟩
     go_wp2_with (first|(at_builtin;go_must (refine wp_app (W:=w) rfl _ _ 22 rfl i0 Tryz.underlying22 hi hz0 hz1 hz2 w.heap.size u3 p rfl hown _ [d1,d2] rfl 2 2 rfl rfl (by simp;omega) (Nat.le_refl _) hb ?_;intro v1 w1 hown1 hb1;refine Hid.out ?_))|fail)
     refine mkHid ?_
     clear hown hb
     go_wp2_with (first|(at_builtin;go_must (refine wp_app (W:=w) rfl _ _ 22 rfl i0 Tryz.underlying22 hi hz0 hz1 hz2 w.heap.size v1 _ rfl hown1 _ [61] rfl 1 1 rfl rfl (by simp;omega) (Nat.le_refl _) hb1 ?_;intro v2 w2 hown2 hb2;refine Hid.out ?_))|fail)
     refine mkHid ?_
     clear hown1 hb1
     go_wp2_with (first|(at_builtin;go_must (refine wp_app (W:=w) rfl _ _ 22 rfl i0 Tryz.underlying22 hi hz0 hz1 hz2 w.heap.size v2 _ rfl hown2 _ [61] rfl 1 1 rfl rfl (by simp;omega) (Nat.le_refl _) hb2 ?_;intro v3 w3 hown3 hb3))|fail)
     go_roundw
     case rel=>exact⟨k+3,_,by omega,by go_num,by simp;omega,hown3,hb3⟩
     case measure=>simp[Lib.intOf];omega
  ·have hbk:=hown.back (P:=Tryz.prog) 22 9 Tryz.underlying22 Tryz.underlying5 Tryz.underlying9
   have hpz:(⟨p.toArray⟩:ByteArray).size≤2*s.size+4:=by show p.toArray.size≤_;simp;omega
   go_wp2
   go_ret
   exact⟨_,rfl,hpz,hb⟩
set_option maxRecDepth 100000 in
theorem wBase64 (s:ByteArray)(w:World)(hs:s.size≤100000) :
  Calls Tryz.prog 94 #[.string s] w fun e w'=>∃ t:ByteArray,e=.returned (.string t)∧t.size≤4*s.size+1000∧Below w.heap.size w w':=by
 obtain⟨i0,hi,hz0,hz1,hz2⟩:=info_parts Tryz.info5
 have hbare:=mkHid (wBare64 s w hs)
 have hc0:decide ((100000:Int)<(s.size:Int))=false:=by simp;omega
 go_enter Tryz.func94,Tryz.ntmps94
 go_wp2_with fail
 refine hbare.out.mono ?_
 rintro e w1 ⟨d,rfl,hdl,hb1⟩
 have hs1:=hb1.size
 clear hbare
 go_wp2_with fail
 go_loopw [4,5] (fun v i wr=>∃ (k:Nat) (p:List UInt8),k≤d.size+76∧i=.int .i64 k∧76*p.length≤78*k∧Own w.heap.size v p wr∧Below w.heap.size w wr) (fun _ i _=>d.size+80-(Lib.intOf i).toNat)
 case atStart=>exact⟨0,[],by omega,rfl,by simp,Own.made _ _ hs1,hb1.alloc hs1 _⟩
 case round=>
  obtain⟨k,p,hk,rfl,hpl,hown,hb⟩:=hrel
  by_cases hlt:k<d.size
  ·by_cases h76:d.size<k+76
   ·obtain⟨z,hz⟩:∃z,z=d.extract k d.size:=⟨_,rfl⟩
    have hzl:z.size≤76:=by rw[hz,ByteArray.size_extract];omega
    have HZ:=mkHid hz
    clear hz
    go_wp2_with (at_builtin;go_must (rw[← HZ.out];refine wp_apps (W:=w) rfl _ _ 22 9 rfl i0 Tryz.underlying22 Tryz.underlying9 hi hz0 hz1 hz2 w.heap.size u4 p rfl hown z rfl (by omega) (Nat.le_refl _) hb ?_;intro v1 w2 hown1 hb2;refine Hid.out ?_))
    have hl1:(p++z.data.toList).length≤p.length+76:=by simp;omega
    generalize p++z.data.toList=p1 at hown1 hl1
    clear hown hb HZ
    refine mkHid ?_
    go_wp2_with (at_builtin;go_must (refine wp_app (W:=w) rfl _ _ 22 rfl i0 Tryz.underlying22 hi hz0 hz1 hz2 w.heap.size v1 p1 rfl hown1 _ [13,10] rfl 2 2 rfl rfl (by simp;omega) (Nat.le_refl _) hb2 ?_;intro v2 w3 hown2 hb3))
    go_roundw
    case rel=>exact⟨k+76,_,by omega,by go_num,by simp;omega,hown2,hb3⟩
    case measure=>simp[Lib.intOf];omega
   ·obtain⟨z,hz⟩:∃z,z=d.extract k (k+76):=⟨_,rfl⟩
    have hzl:z.size≤76:=by rw[hz,ByteArray.size_extract];omega
    have HZ:=mkHid hz
    clear hz
    go_wp2_with (at_builtin;go_must (rw[← HZ.out];refine wp_apps (W:=w) rfl _ _ 22 9 rfl i0 Tryz.underlying22 Tryz.underlying9 hi hz0 hz1 hz2 w.heap.size u4 p rfl hown z rfl (by omega) (Nat.le_refl _) hb ?_;intro v1 w2 hown1 hb2;refine Hid.out ?_))
    have hl1:(p++z.data.toList).length≤p.length+76:=by simp;omega
    generalize p++z.data.toList=p1 at hown1 hl1
    clear hown hb HZ
    refine mkHid ?_
    go_wp2_with (at_builtin;go_must (refine wp_app (W:=w) rfl _ _ 22 rfl i0 Tryz.underlying22 hi hz0 hz1 hz2 w.heap.size v1 p1 rfl hown1 _ [13,10] rfl 2 2 rfl rfl (by simp;omega) (Nat.le_refl _) hb2 ?_;intro v2 w3 hown2 hb3))
    go_roundw
    case rel=>exact⟨k+76,_,by omega,by go_num,by simp;omega,hown2,hb3⟩
    case measure=>simp[Lib.intOf];omega
  ·have hbk:=hown.back (P:=Tryz.prog) 22 9 Tryz.underlying22 Tryz.underlying5 Tryz.underlying9
   have hpz:(⟨p.toArray⟩:ByteArray).size≤4*s.size+1000:=by show p.toArray.size≤_;simp;omega
   go_wp2
   go_ret
   exact⟨_,rfl,hpz,hb⟩
end Bm
end Go.Proofs.YtibbpmhbgbafhaaGreatDoor
namespace Go.Proofs.YtibbpmhbgbafhaaGreatDoor
open Go.RowKit Go.Lib
open Sn
namespace Bm
theorem all_in:∀(n:Nat)(V:List Nat),(∀m,m<n→m ∈ V)→n≤V.length
 | 0,_,_=>Nat.zero_le _
 | n+1,V,h=>by
  have h1:=all_in n (V.erase n) (fun m hm=>(List.mem_erase_of_ne (by omega)).2 (h m (by omega)))
  have h2:=List.length_erase_of_mem (h n (by omega))
  have h3:0<V.length:=List.length_pos_of_mem (h n (by omega))
  omega
theorem dec_ge:∀(k n:Nat),10 ^ k≤n→k+1≤(decDigits n).length
 | 0,n,_=>by
  have:=(dec_val n).2.2
  have:=List.length_pos_iff.2 this
  omega
 | k+1,n,h=>by
  have hp:0<10 ^ k:=Nat.pow_pos (by omega)
  rw[Nat.pow_succ] at h
  rw[decDigits,dif_neg (by omega),List.length_append]
  have:=dec_ge k (n / 10) (by omega)
  simp only[List.length_cons,List.length_nil]
  omega
theorem dec6 (m:Nat)(h0:100000≤m)(h1:m<1000000):(decDigits m).length=6:=by
 have a:=dec_ge 5 m (by simpa using h0)
 have b:=dec_len10 5 m (by simpa using h1)
 omega
def mark (m:Nat):List UInt8:=[45,45,61,95]++decDigits m
def hitT (t:List UInt8)(m:Nat):Prop:=∃p,p<t.length∧(mark m) <+: t.drop p
def hit (K:List ByteArray)(m:Nat):Prop:=∃t ∈ K,hitT t.data.toList m
def all (K:List ByteArray):Nat:=(K.map ByteArray.size).sum
def valAt (t:List UInt8)(p:Nat):Nat:=val10 0 ((t.drop (p+4)).take 6)-100000
def vals (K:List ByteArray):List Nat:=K.flatMap fun t=>(List.range t.size).map (valAt t.data.toList)
theorem vals_len (K:List ByteArray):(vals K).length=all K:=by
 induction K with
 | nil=>rfl
 | cons t r ih=>simp only[vals,all,List.flatMap_cons,List.length_append,List.length_map,List.length_range,List.map_cons,List.sum_cons] at ih ⊢;omega
theorem hit_val {t:List UInt8} {m:Nat} (h0:100000≤m)(h1:m<1000000)(p:Nat)(h:(mark m) <+: t.drop p):valAt t p=m-100000:=by
 obtain⟨r,hr⟩:=h
 have e:t.drop (p+4)=decDigits m++r:=by
  rw[← List.drop_drop,← hr]
  rfl
 unfold valAt
 rw[e,List.take_append_of_le_length (by rw[dec6 m h0 h1];omega),List.take_of_length_le (by rw[dec6 m h0 h1];omega),(dec_val m).1]
theorem free (K:List ByteArray)(hK:all K≤100000)(n:Nat)(h:∀m,m<n→hit K m):n<1000000:=by
 by_cases hn:n<1000000
 ·exact hn
 ·exfalso
  have:=all_in 900000 (vals K) (fun m hm=>by
   obtain⟨t,ht,p,hp,hx⟩:=h (m+100000) (by omega)
   have e:=hit_val (by omega) (by omega) p hx
   refine List.mem_flatMap.2 ⟨t,ht,List.mem_map.2 ⟨p,List.mem_range.2 (by simpa using hp),?_⟩⟩
   omega)
  rw[vals_len] at this
  omega
end Bm
end Go.Proofs.YtibbpmhbgbafhaaGreatDoor
namespace Go.Proofs.YtibbpmhbgbafhaaGreatDoor
open Go.RowKit Go.Lib Go.Maps
namespace Bm
theorem nx_step (s:ByteArray)(k:Nat)(hk:k<s.size):k<Pl.nx s.data.toList (Pl.le s.data.toList k)∧Pl.nx s.data.toList (Pl.le s.data.toList k)≤s.size:=by
 have hl:s.data.toList.length=s.size:=by simp
 have h1:k≤Pl.le s.data.toList k:=Pl.first_ge _ _ _ (by omega)
 have h2:Pl.le s.data.toList k≤s.data.toList.length:=Pl.first_le _ _ _ (by omega)
 unfold Pl.nx
 split
 ·rename_i h3
  have h4:Pl.crlf s.data.toList (Pl.le s.data.toList k)=true:=Pl.first_is _ _ k (by omega) h3
  have:=((Pl.crlf_iff _ _).1 h4).1
  omega
 ·omega
theorem pre_of (s p:ByteArray)(h:((s.extract 0 p.size).toList==p.toList)=true):p.data.toList <+: s.data.toList:=by
 rw[ByteArray.toList_eq,ByteArray.toList_eq,beq_iff_eq] at h
 have e:(s.extract 0 p.size).data.toList=s.data.toList.take p.size:=by rw[Pl.ext_data,List.drop_zero,Nat.sub_zero]
 rw[← h,e]
 exact List.take_prefix _ _
theorem wBegins (s p:ByteArray)(w:World)(_hs:s.size≤1100000000)(_hp:p.size≤100) :
  Calls Tryz.prog 187 #[.string s,.string p] w fun e w'=>∃ b:Bool,e=.returned (.bool b)∧(b=true→p.data.toList <+: s.data.toList)∧w=w':=by
 by_cases h:p.size≤s.size
 ·have h2:decide ((p.size:Int)≤(s.size:Int))=true:=by simp;omega
  have h3:(p.size:Int)≤(s.size:Int):=by omega
  go_enter Tryz.func187,Tryz.ntmps187
  go_wp2
  go_ret
  exact⟨_,rfl,pre_of s p,rfl⟩
 ·have h2:decide ((p.size:Int)≤(s.size:Int))=false:=by simp;omega
  go_enter Tryz.func187,Tryz.ntmps187
  go_wp2
  go_ret
  exact⟨false,rfl,(fun h=>by cases h),rfl⟩
def markB (m:Nat):ByteArray:=⟨(mark m).toArray⟩
theorem markB_size (m:Nat)(h:m<1000000):(markB m).size≤10:=by
 have:=dec_len10 5 m (by simpa using h)
 show(mark m).toArray.size≤_
 rw[List.size_toArray]
 unfold mark
 rw[List.length_append]
 show 4+_≤_
 omega
theorem drop_ext (s:ByteArray)(k:Nat):(s.extract k s.size).data.toList=s.data.toList.drop k:=by
 rw[Pl.ext_data]
 exact List.take_of_length_le (by simp)
theorem wHas (s:ByteArray)(m:Nat)(w:World)(hs:s.size≤1000000)(hm:m<1000000) :
  Calls Tryz.prog 147 #[.string s,.string (markB m)] w fun e w'=>∃ b:Bool,e=.returned (.bool b)∧(b=true→hitT s.data.toList m)∧w=w':=by
 have hz:=markB_size m hm
 go_enter Tryz.func147,Tryz.ntmps147
 go_wp2
 go_loopw [5] (fun i wr=>∃ k:Nat,k≤s.size∧i=.int .i64 k∧wr=w) (fun i _=>s.size-(Lib.intOf i).toNat)
 case atStart=>exact⟨0,Nat.zero_le _,rfl,rfl⟩
 case round=>
  obtain⟨k,hk,rfl,rfl⟩:=hrel
  by_cases hlt:k<s.size
  ·have cL:=mkHid (specLine s k wr (by omega) hk)
   obtain⟨hn1,hn2⟩:=nx_step s k hlt
   generalize Pl.nx s.data.toList (Pl.le s.data.toList k)=N at cL hn1 hn2
   generalize Pl.le s.data.toList k=E at cL
   go_wp2_with fail
   refine cL.out.mono ?_
   rintro e w2 ⟨rfl,rfl⟩
   clear cL
   have cB:=mkHid (wBegins (s.extract k s.size) (markB m) wr (by rw[ByteArray.size_extract];omega) (by omega))
   go_wp2_with fail
   refine cB.out.mono ?_
   rintro e w2 ⟨b,rfl,hb,rfl⟩
   clear cB
   cases b
   ·clear hb
    go_wp2
    go_roundw
    case rel=>exact⟨N,hn2,by go_num,trivial⟩
    case measure=>simp[Lib.intOf];omega
   ·have HH:=mkHid (hb rfl)
    clear hb
    go_wp2
    go_ret
    refine⟨true,rfl,fun _=>⟨k,by simpa using hlt,?_⟩,rfl⟩
    have:=HH.out
    rw[drop_ext] at this
    exact this
  ·go_wp2
   go_ret
   exact⟨false,rfl,(fun h=>by cases h),rfl⟩
theorem wAny (B:Nat)(v:Value)(K:List ByteArray)(m:Nat)(w:World)(hK:OwnX B v K w)(hl:K.length≤1000)(hs:∀t ∈ K,t.size≤1000000)(hm:m<1000000) :
  Calls Tryz.prog 96 #[v,.string (markB m)] w fun e w'=>∃ b:Bool,e=.returned (.bool b)∧(b=true→hit K m)∧w=w':=by
 obtain⟨o,cap,rfl⟩:=hK.shape
 have HT:=mkHid hK.txL
 have HS:=mkHid hs
 clear hK hs
 go_enter Tryz.func96,Tryz.ntmps96
 go_wp2
 go_loopw [5] (fun i wr=>∃ k:Nat,k≤K.length∧i=.int .i64 k∧wr=w) (fun i _=>K.length-(Lib.intOf i).toNat)
 case atStart=>exact⟨0,Nat.zero_le _,rfl,rfl⟩
 case round=>
  obtain⟨k,hk,rfl,rfl⟩:=hrel
  by_cases hlt:k<K.length
  ·obtain⟨a,rfl,ha,ha2,hc⟩:=HT.out k hlt
   have cH:=mkHid (wHas K[k] m wr (HS.out _ (List.getElem_mem hlt)) hm)
   have HM:=mkHid (List.getElem_mem hlt)
   generalize K[k]=t at hc cH HM
   go_wp2_with fail
   refine cH.out.mono ?_
   rintro e w2 ⟨b,rfl,hb,rfl⟩
   clear cH
   cases b
   ·clear hb
    go_wp2
    go_roundw
    case rel=>exact⟨k+1,by omega,by go_num,trivial⟩
    case measure=>simp[Lib.intOf];omega
   ·have HH:=mkHid (hb rfl)
    clear hb
    go_wp2
    go_ret
    exact⟨true,rfl,fun _=>⟨t,HM.out,HH.out⟩,rfl⟩
  ·go_wp2
   go_ret
   exact⟨false,rfl,(fun h=>by cases h),rfl⟩
end Bm
end Go.Proofs.YtibbpmhbgbafhaaGreatDoor
