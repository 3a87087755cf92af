import Derived.Test.YtacaoiedcfelcaaGreatDoorChecked
import Derived.Test.YtacaoiedcfelcaaGreatDoorDatePlain
import Derived.Test.YtacaoiedcfelcaaGreatDoorAllOf
import Derived.WalkKit
import Derived.WalkLawsBesides
import Derived.WalkSpells
import Derived.Lib.ItoaNum
import Derived.Lib.AppendIntMem
import Derived.Lib.QuietBelow
import Derived.Lib.LaidTab
set_option maxRecDepth 20000
set_option maxHeartbeats 4000000
namespace Go.Proofs.YtacaoiedcfelcaaGreatDoor
open Go.RowKit Go.Lib
theorem specLeap (y:Int)(w:World)(h0:1900≤y)(h1:y≤20000):Calls Tryz.prog 216 #[.int .i64 y] w fun e w'=>e=.returned (.bool (Pl.leap y))∧w=w':=by
 unfold Pl.leap
 cases h4:(y % 4==0)<;>cases h100:(y % 100==0)
 all_goals
  have hn:(y % 100 != 0) = !(y % 100==0):=rfl
  rw[h100] at hn
  rw[hn]
  simp only[Bool.not_true,Bool.not_false] at hn
  go_enter Tryz.func216,Tryz.ntmps216
  go_wp2
  go_ret
  exact⟨rfl,rfl⟩
theorem specDays (y m:Int)(w:World)(h0:1900≤y)(h1:y≤20000)(hm0:1≤m)(hm1:m≤12):Calls Tryz.prog 184 #[.int .i64 y,.int .i64 m] w fun e w'=>e=.returned (.int .i64 (Pl.dm y m))∧w=w':=by
 have hL:=fun w=>specLeap y w h0 h1
 unfold Pl.dm
 generalize Pl.leap y=b at *
 have hc:=Pl.cases12 m hm0 hm1
 clear hm0 hm1
 rcases hc with rfl|rfl|rfl|rfl|rfl|rfl|rfl|rfl|rfl|rfl|rfl|rfl<;>cases b
 all_goals
  go_enter Tryz.func184,Tryz.ntmps184
  go_wp2_with (go_at_call 216;go_must (refine(hL _).mono ?_;rintro e w2 ⟨rfl,rfl⟩))
  go_ret
  exact⟨rfl,rfl⟩
theorem specBegin (y:Int)(w:World)(h0:1970≤y)(h1:y≤20000):Calls Tryz.prog 183 #[.int .i64 y] w fun e w'=>e=.returned (.int .i64 (Pl.beg y))∧w=w':=by
 unfold Pl.beg
 go_enter Tryz.func183,Tryz.ntmps183
 go_wp2
 go_ret
 exact⟨rfl,rfl⟩
structure YearAt (d y:Int):Prop where
 low:1970≤y
 beg:Pl.beg y≤d
 goal:Pl.yrF d (Pl.fuel d y) y=Pl.yr d
theorem YearAt.start (d:Int)(h0:0≤d):YearAt d (1970+d / 366):=⟨by omega,Pl.beg_first d h0,rfl⟩
theorem YearAt.next {d y:Int} (h:YearAt d y)(hb:Pl.beg (y+1)≤d):YearAt d (y+1):=⟨by have:=h.low;omega,hb,by rw[← Pl.yrF_go d y h.low hb];exact h.goal⟩
theorem YearAt.done {d y:Int} (h:YearAt d y)(hb:¬Pl.beg (y+1)≤d):Pl.yr d=y:=by rw[← h.goal];exact Pl.yrF_stop d y _ hb
theorem YearAt.high {d y:Int} (h:YearAt d y)(hd:d≤2932896):y≤10005:=by
 have:=Pl.beg_low y h.low
 have:=h.beg
 omega
structure MonthAt (d r m:Int):Prop where
 one:1≤m
 twelve:m≤12
 pos:0≤r
 lt:r<Pl.tail (Pl.yr d) m
 goal:Pl.moF (Pl.yr d) (13-m).toNat r m=Pl.mo d
theorem MonthAt.start {d y:Int} (h:YearAt d y)(hb:¬Pl.beg (y+1)≤d):MonthAt d (d-Pl.beg y) 1:=by
 have e:=h.done hb
 have hn:=Pl.beg_next y
 have:=h.beg
 refine⟨by omega,by omega,by omega,?_,?_⟩
 ·rw[e,Pl.tail_one];omega
 ·rw[Pl.mo,e];rfl
theorem MonthAt.next {d r m:Int} (h:MonthAt d r m)(hr:Pl.dm (Pl.yr d) m≤r):MonthAt d (r-Pl.dm (Pl.yr d) m) (m+1):=by
 have hs:=Pl.tail_step (Pl.yr d) m h.one h.twelve
 have hl:=h.lt
 have h1:=h.one
 have hm:m≠12:=by
  intro e
  have h2:=Pl.tail_end (Pl.yr d)
  rw[e,show((12:Int)+1)=13 from rfl,h2] at hs
  rw[e] at hl hr
  omega
 have h12:=h.twelve
 refine⟨by omega,by omega,by omega,by omega,?_⟩
 rw[show(13-(m+1)).toNat=(13-m).toNat-1 by omega,← Pl.moF_go _ r m _ (by omega) h.one h.twelve hr]
 exact h.goal
theorem MonthAt.done {d r m:Int} (h:MonthAt d r m)(hr:¬Pl.dm (Pl.yr d) m≤r):Pl.mo d=(m,r):=by rw[← h.goal];exact Pl.moF_stop _ r m _ hr
theorem MonthAt.high {d r m:Int} (h:MonthAt d r m):r<400:=by
 have hl:=h.lt
 have h1:=h.one
 have h2:=h.twelve
 unfold Pl.tail at hl
 rcases Pl.cases12 m h1 h2 with rfl|rfl|rfl|rfl|rfl|rfl|rfl|rfl|rfl|rfl|rfl|rfl<;>cases hp:Pl.leap (Pl.yr d)<;>simp[hp] at hl<;>omega
theorem specParts (t d:Int)(w:World)(ht0:0≤t)(ht1:t≤253402300799)(hd:t / 86400=d)(h0:0≤d)(h1:d≤2932896):Calls Tryz.prog 138 #[.int .i64 t] w fun e w'=>e=.returned (.tuple #[.int .i64 (Pl.yr d),.int .i64 (Pl.mo d).1,.int .i64 ((Pl.mo d).2+1)])∧w=w':=by
 have HY:=(show Hid _ from YearAt.start d h0)
 go_enter Tryz.func138,Tryz.ntmps138
 go_wp2
 simp only[hd]
 clear hd ht0 ht1
 go_loopw [6] (fun v wr=>∃ y:Int,v=.int .i64 y∧Hid (YearAt d y)∧wr=w) (fun v _=>(20000-Lib.intOf v).toNat)
 case atStart=>exact⟨_,rfl,HY,rfl⟩
 case round=>
  clear HY
  obtain⟨y,rfl,HY,rfl⟩:=hrel
  have hy0:=HY.out.low
  have hy1:=HY.out.high h1
  have hB:=fun w=>specBegin (y+1) w (by omega) (by omega)
  by_cases hb:Pl.beg (y+1)≤d
  ·have HN:=(show Hid _ from HY.out.next hb)
   clear HY
   generalize Pl.beg (y+1)=b at *
   go_wp2_with (go_at_call 183;go_must (refine(hB _).mono ?_;rintro e w2 ⟨rfl,rfl⟩))
   go_roundw
   case rel=>exact⟨y+1,rfl,HN,trivial⟩
   case measure=>simp[Lib.intOf];omega
  ·have HD:=(show Hid (Pl.yr d=y) from HY.out.done hb)
   have HM:=(show Hid _ from MonthAt.start HY.out hb)
   have hC:=fun w=>specBegin y w (by omega) (by omega)
   have hbl:=HY.out.beg
   have hbp:0≤Pl.beg y:=by have:=Pl.beg_low y hy0;omega
   have hb':d<Pl.beg (y+1):=by omega
   clear HY hb
   generalize Pl.beg (y+1)=b at *
   generalize Pl.beg y=c at *
   go_wp2_with fail
   refine(hB _).mono ?_
   rintro e w2 ⟨rfl,rfl⟩
   go_wp2_with fail
   refine(hC _).mono ?_
   rintro e w2 ⟨rfl,rfl⟩
   clear hB hC
   go_wp2
   go_loopw [5,7] (fun v u w9=>∃ r m:Int,v=.int .i64 r∧u=.int .i64 m∧Hid (MonthAt d r m)∧w9=wr) (fun _ u _=>(20-Lib.intOf u).toNat)
   case atStart=>exact⟨_,1,rfl,rfl,HM,rfl⟩
   case round=>
    clear HM
    obtain⟨r,m,rfl,rfl,HM,rfl⟩:=hrel
    have hm1:=HM.out.one
    have hm2:=HM.out.twelve
    have hr0:=HM.out.pos
    have hr1:=HM.out.high
    have hD:=fun w=>specDays y m w (by omega) (by omega) hm1 hm2
    obtain⟨hd0,hd1⟩:=Pl.dm_pos y m
    by_cases hr:Pl.dm y m≤r
    ·have HN:Hid (MonthAt d (r-Pl.dm y m) (m+1)):=show MonthAt _ _ _ from by
      have:=HM.out.next (by rw[HD.out];exact hr)
      rw[HD.out] at this
      exact this
     clear HM
     generalize Pl.dm y m=k at *
     go_wp2_with (go_at_call 184;go_must (refine(hD _).mono ?_;rintro e w3 ⟨rfl,rfl⟩))
     go_roundw
     case rel=>exact⟨r-k,m+1,rfl,rfl,HN,trivial⟩
     case measure=>simp[Lib.intOf];omega
    ·have HE:Hid (Pl.mo d=(m,r)):=HM.out.done (by rw[HD.out];exact hr)
     have hr':r<Pl.dm y m:=by omega
     clear HM hr
     generalize Pl.dm y m=k at *
     go_wp2_with (go_at_call 184;go_must (refine(hD _).mono ?_;rintro e w3 ⟨rfl,rfl⟩))
     refine bodyPost_ret (v:=.tuple #[.int .i64 y,.int .i64 m,.int .i64 (r+1)]) (by simp[results,Tryz.results138,go_sem]) rfl ?_
     rw[HD.out,HE.out]
     exact⟨rfl,rfl⟩
namespace Pl
def twoN (n:Nat):List UInt8:=[UInt8.ofNat (48+n / 10),UInt8.ofNat (48+n % 10)]
def two (n:Int):ByteArray:=⟨(twoN n.toNat).toArray⟩
theorem two_size (n:Int):(two n).size=2:=rfl
end Pl
theorem specTwo (n:Int)(w:World)(h0:0≤n)(h1:n<100):Calls Tryz.prog 139 #[.int .i64 n] w fun e w'=>e=.returned (.string (Pl.two n))∧Below w.heap.size w w':=by
 have ha:((UInt8.ofNat (48+n.toNat / 10)).toNat:Int)=48+n / 10:=by
  rw[UInt8.toNat_ofNat_of_lt' (by simp[UInt8.size];omega)];omega
 have hb:((UInt8.ofNat (48+n.toNat % 10)).toNat:Int)=48+n % 10:=by
  rw[UInt8.toNat_ofNat_of_lt' (by simp[UInt8.size];omega)];omega
 have hcv:(convert 22 9 (.slice (some ⟨w.heap.size,0,none⟩) 2 2)).run Tryz.prog (w.alloc (.cells #[.int .u8 (48+n / 10),.int .u8 (48+n % 10)] 5))=.ok (.string (Pl.two n)) (w.alloc (.cells #[.int .u8 (48+n / 10),.int .u8 (48+n % 10)] 5)):=by
  rw[← ha,← hb]
  refine run_convert_bytes_back (P:=Tryz.prog) _ 22 9 5 ⟨w.heap.size,0,none⟩ 2 (Pl.twoN n.toNat) Tryz.underlying22 Tryz.underlying5 Tryz.underlying9 ?_
  intro j hj
  match j,hj with
  | 0,hj=>simp[Addr.add,Pl.twoN]
  | 1,hj=>simp[Addr.add,Pl.twoN]
 have hbA:Below w.heap.size w (w.alloc (.cells #[.int .u8 (48+n / 10),.int .u8 (48+n % 10)] 5)):=(Below.refl _ _).alloc (Nat.le_refl _) _
 clear ha hb
 go_enter Tryz.func139,Tryz.ntmps139
 go_wp2
 go_ret
 exact⟨rfl,hbA⟩
def clockT (t:Int):ByteArray:=Pl.two (t % 86400 / 3600)++⟨#[58]⟩++Pl.two (t % 3600 / 60)++⟨#[58]⟩++Pl.two (t % 60)
def signT (z:Int):ByteArray:=if z<0 then ⟨#[45]⟩ else ⟨#[43]⟩
def absI (z:Int):Int:=if z<0 then -z else z
def zoneT (z:Int):ByteArray:=signT z++Pl.two (absI z / 60)++Pl.two (absI z % 60)
theorem clock_size (t:Int):(clockT t).size=8:=by simp[clockT,ByteArray.size_append,Pl.two_size];rfl
theorem zone_size (t:Int):(zoneT t).size=5:=by simp only[zoneT,ByteArray.size_append,Pl.two_size,signT];split<;>rfl
theorem specClock (t:Int)(w:World)(h0:0≤t)(h1:t≤253402300799):Calls Tryz.prog 142 #[.int .i64 t] w fun e w'=>e=.returned (.string (clockT t))∧Below w.heap.size w w':=by
 have a1:=fun w=>specTwo (t % 86400 / 3600) w (by omega) (by omega)
 have a2:=fun w=>specTwo (t % 3600 / 60) w (by omega) (by omega)
 have a3:=fun w=>specTwo (t % 60) w (by omega) (by omega)
 have z1:=Pl.two_size (t % 86400 / 3600)
 have z2:=Pl.two_size (t % 3600 / 60)
 have z3:=Pl.two_size (t % 60)
 unfold clockT
 generalize Pl.two (t % 86400 / 3600)=x1 at *
 generalize Pl.two (t % 3600 / 60)=x2 at *
 generalize Pl.two (t % 60)=x3 at *
 go_enter Tryz.func142,Tryz.ntmps142
 go_wp2_with fail
 refine(a1 _).mono ?_
 rintro e w2 ⟨rfl,b1⟩
 go_wp2_with fail
 refine(a2 _).mono ?_
 rintro e w3 ⟨rfl,b2⟩
 go_wp2_with fail
 refine(a3 _).mono ?_
 rintro e w4 ⟨rfl,b3⟩
 go_wp2
 go_ret
 exact⟨rfl,b1.trans ((b2.trans (b3.mono b2.size)).mono b1.size)⟩
theorem specZone (z:Int)(w:World)(h0:-1439≤z)(h1:z≤1439):Calls Tryz.prog 143 #[.int .i64 z] w fun e w'=>e=.returned (.string (zoneT z))∧Below w.heap.size w w':=by
 unfold zoneT signT absI
 rcases Int.lt_or_le z 0 with h|h
 ·rw[if_pos h,if_pos h]
  obtain⟨k,rfl⟩:∃k:Int,z = -k:=⟨-z,by omega⟩
  rw[Int.neg_neg]
  have hk0:0<k:=by omega
  have hk1:k≤1439:=by omega
  have a1:=fun w=>specTwo (k / 60) w (by omega) (by omega)
  have a2:=fun w=>specTwo (k % 60) w (by omega) (by omega)
  have z1:=Pl.two_size (k / 60)
  have z2:=Pl.two_size (k % 60)
  generalize Pl.two (k / 60)=x1 at *
  generalize Pl.two (k % 60)=x2 at *
  go_enter Tryz.func143,Tryz.ntmps143
  go_wp2_with fail
  refine(a1 _).mono ?_
  rintro e w2 ⟨rfl,b1⟩
  go_wp2_with fail
  refine(a2 _).mono ?_
  rintro e w3 ⟨rfl,b2⟩
  go_wp2
  go_ret
  exact⟨rfl,b1.trans (b2.mono b1.size)⟩
 ·rw[if_neg (by omega),if_neg (by omega)]
  have a1:=fun w=>specTwo (z / 60) w (by omega) (by omega)
  have a2:=fun w=>specTwo (z % 60) w (by omega) (by omega)
  have z1:=Pl.two_size (z / 60)
  have z2:=Pl.two_size (z % 60)
  generalize Pl.two (z / 60)=x1 at *
  generalize Pl.two (z % 60)=x2 at *
  go_enter Tryz.func143,Tryz.ntmps143
  go_wp2_with fail
  refine(a1 _).mono ?_
  rintro e w2 ⟨rfl,b1⟩
  go_wp2_with fail
  refine(a2 _).mono ?_
  rintro e w3 ⟨rfl,b2⟩
  go_wp2
  go_ret
  exact⟨rfl,b1.trans (b2.mono b1.size)⟩
theorem specYear (y:Int)(w:World)(h0:0≤y)(h1:y≤9999):Calls Tryz.prog 141 #[.int .i64 y] w fun e w'=>e=.returned (.string (Pl.two (y / 100)++Pl.two (y % 100)))∧Below w.heap.size w w':=by
 have a1:=fun w=>specTwo (y / 100) w (by omega) (by omega)
 have a2:=fun w=>specTwo (y % 100) w (by omega) (by omega)
 have z1:=Pl.two_size (y / 100)
 have z2:=Pl.two_size (y % 100)
 generalize Pl.two (y / 100)=x1 at *
 generalize Pl.two (y % 100)=x2 at *
 go_enter Tryz.func141,Tryz.ntmps141
 go_wp2_with fail
 refine(a1 _).mono ?_
 rintro e w2 ⟨rfl,b1⟩
 go_wp2_with fail
 refine(a2 _).mono ?_
 rintro e w3 ⟨rfl,b2⟩
 go_wp2
 go_ret
 exact⟨rfl,b1.trans (b2.mono b1.size)⟩
namespace Pl
theorem year_end (d:Int)(h1:d≤2932896):∀(n:Nat)(y:Int),(20000-y).toNat≤n→YearAt d y→∃y,YearAt d y∧¬beg (y+1)≤d:=by
 intro n
 induction n with
 | zero=>
  intro y hn h
  have:=h.high h1
  omega
 | succ n ih=>
  intro y hn h
  by_cases hb:beg (y+1)≤d
  ·exact ih (y+1) (by omega) (h.next hb)
  ·exact⟨y,h,hb⟩
theorem month_end (d:Int):∀(n:Nat)(r m:Int),(20-m).toNat≤n→MonthAt d r m→∃r m,MonthAt d r m∧¬dm (yr d) m≤r:=by
 intro n
 induction n with
 | zero=>
  intro r m hn h
  have:=h.twelve
  omega
 | succ n ih=>
  intro r m hn h
  by_cases hb:dm (yr d) m≤r
  ·exact ih _ (m+1) (by omega) (h.next hb)
  ·exact⟨r,m,h,hb⟩
theorem bounds (d:Int)(h0:0≤d)(h1:d≤2932896):1970≤yr d∧yr d≤9999∧1≤(mo d).1∧(mo d).1≤12∧0≤(mo d).2∧(mo d).2≤30:=by
 obtain⟨y,hy,hb⟩:=year_end d h1 _ _ (Nat.le_refl _) (YearAt.start d h0)
 obtain⟨r,m,hm,hr⟩:=month_end d _ _ _ (Nat.le_refl _) (MonthAt.start hy hb)
 rw[hm.done hr,hy.done hb]
 have:=hy.low
 have h9:y≤9999:=by
  apply Int.le_of_lt_add_one
  apply Int.lt_of_not_ge
  intro h
  have:=beg_end y (by omega)
  have:=hy.beg
  omega
 have:=hm.one
 have:=hm.twelve
 have:=hm.pos
 have:=(dm_pos (yr d) m).2
 exact⟨by omega,by omega,by omega,by omega,by omega,by omega⟩
def months:ByteArray:=⟨#[74,97,110,70,101,98,77,97,114,65,112,114,77,97,121,74,117,110,74,117,108,65,117,103,83,101,112,79,99,116,78,111,118,68,101,99]⟩
def days:ByteArray:=⟨#[77,111,110,84,117,101,87,101,100,84,104,117,70,114,105,83,97,116,83,117,110]⟩
def monthN (j:Nat):ByteArray:=months.extract (3*j) (3*j+3)
def dayN (j:Nat):ByteArray:=days.extract (3*j) (3*j+3)
theorem month_size (j:Nat)(h:j<12):(monthN j).size=3:=by
 rw[monthN,ByteArray.size_extract]
 show min (3*j+3) 36-3*j=3
 omega
theorem day_size (j:Nat)(h:j<7):(dayN j).size=3:=by
 rw[dayN,ByteArray.size_extract]
 show min (3*j+3) 21-3*j=3
 omega
end Pl
def dateT (t z:Int)(b:ByteArray):ByteArray:=Pl.two ((Pl.mo (t / 86400)).2+1)++b++Pl.monthN ((Pl.mo (t / 86400)).1-1).toNat++b++(Pl.two (Pl.yr (t / 86400) / 100)++Pl.two (Pl.yr (t / 86400) % 100))++⟨#[32]⟩++clockT t++⟨#[32]⟩++zoneT z
def okD (x z:Int):Bool:=decide (-1439≤z) && (decide (z≤1439) && (decide (0≤x) && (decide (x≤253402300799) && (decide (0≤x+60*z) && decide (x+60*z≤253402300799)))))
theorem okD_yes {x z:Int} (h:okD x z=true):-1439≤z∧z≤1439∧0≤x∧x≤253402300799∧0≤x+60*z∧x+60*z≤253402300799:=by
 simpa [okD] using h
def fullT (x z:Int):ByteArray:=if okD x z then Pl.dayN ((3+(x+60*z) / 86400) % 7).toNat++⟨#[44,32]⟩++dateT (x+60*z) z ⟨#[32]⟩ else ⟨#[]⟩
theorem date_size (t z:Int)(b:ByteArray)(hb:b.size=1)(h0:0≤t)(h1:t≤253402300799):(dateT t z b).size=26:=by
 obtain⟨_,_,m0,m1,_,_⟩:=Pl.bounds (t / 86400) (by omega) (by omega)
 have zm:=Pl.month_size ((Pl.mo (t / 86400)).1-1).toNat (by omega)
 simp only[dateT,ByteArray.size_append,Pl.two_size,clock_size,zone_size,zm,hb]
 rfl
theorem specMonths (w:World):Calls Tryz.prog 140 #[] w fun e w'=>e=.returned (.string Pl.months)∧w'=w:=by
 go_enter Tryz.func140,Tryz.ntmps140
 go_wp2
 go_ret
 exact⟨rfl,rfl⟩
theorem specLocal (x z:Int)(w:World):Calls Tryz.prog 137 #[.int .i64 x,.int .i64 z] w fun e w'=>e=.returned (.int .i64 (if okD x z then x+60*z else -1))∧w=w':=by
 rcases Int.lt_or_le z (-1439) with h|h
 ·rw[show okD x z=false from by simp[okD];omega]
  go_enter Tryz.func137,Tryz.ntmps137
  go_wp2
  go_ret
  exact⟨rfl,rfl⟩
 rcases Int.lt_or_le 1439 z with h1|h1
 ·rw[show okD x z=false from by simp[okD];omega]
  go_enter Tryz.func137,Tryz.ntmps137
  go_wp2
  go_ret
  exact⟨rfl,rfl⟩
 rcases Int.lt_or_le x 0 with h2|h2
 ·rw[show okD x z=false from by simp[okD];omega]
  go_enter Tryz.func137,Tryz.ntmps137
  go_wp2
  go_ret
  exact⟨rfl,rfl⟩
 rcases Int.lt_or_le 253402300799 x with h3|h3
 ·rw[show okD x z=false from by simp[okD];omega]
  go_enter Tryz.func137,Tryz.ntmps137
  go_wp2
  go_ret
  exact⟨rfl,rfl⟩
 rcases Int.lt_or_le (x+60*z) 0 with h4|h4
 ·rw[show okD x z=false from by simp[okD];omega]
  go_enter Tryz.func137,Tryz.ntmps137
  go_wp2
  go_ret
  exact⟨rfl,rfl⟩
 rcases Int.lt_or_le 253402300799 (x+60*z) with h5|h5
 ·rw[show okD x z=false from by simp[okD];omega]
  go_enter Tryz.func137,Tryz.ntmps137
  go_wp2
  go_ret
  exact⟨rfl,rfl⟩
 ·rw[show okD x z=true from by simp[okD];omega,if_pos rfl]
  go_enter Tryz.func137,Tryz.ntmps137
  go_wp2
  go_ret
  exact⟨rfl,rfl⟩
theorem wrap_in (n:Int)(h0:-9223372036854775808≤n)(h1:n≤9223372036854775807):IntKind.i64.wrap n=n:=by
 simp only[IntKind.wrap,IntKind.bits,IntKind.signed,Bool.true_and]
 split<;>rename_i h<;>simp at h<;>omega
theorem specDate (x z:Int)(w:World):Calls Tryz.prog 89 #[.int .i64 x,.int .i64 z] w fun e w'=>e=.returned (.string (fullT x z))∧Below w.heap.size w w':=by
 have hL:=specLocal x z w
 unfold fullT
 cases hok:okD x z
 ·rw[hok] at hL
  simp only[Bool.false_eq_true,if_false] at hL
  go_enter Tryz.func89,Tryz.ntmps89
  go_wp2_with fail
  refine hL.mono ?_
  rintro e w2 ⟨rfl,rfl⟩
  go_wp2
  go_ret
  exact⟨rfl,Below.refl _ _⟩
 ·rw[hok,if_pos rfl] at hL
  obtain⟨z0,z1,x0,x1,t0,t1⟩:=okD_yes hok
  clear hok x0 x1
  generalize x+60*z=t at *
  rw[if_pos rfl]
  have hd0:0≤t / 86400:=by omega
  have hd1:t / 86400≤2932896:=by omega
  have hC:=fun w=>specClock t w t0 t1
  have hZ:=fun w=>specZone z w z0 z1
  unfold dateT
  have hD:=specParts t (t / 86400) w t0 t1 rfl hd0 hd1
  obtain⟨y0,y1,m0,m1,r0,r1⟩:=Pl.bounds (t / 86400) hd0 hd1
  generalize Pl.yr (t / 86400)=y at *
  generalize (Pl.mo (t / 86400)).1=m at *
  generalize (Pl.mo (t / 86400)).2=r at *
  have hY:=fun w=>specYear y w (by omega) (by omega)
  have h2:=fun w=>specTwo (r+1) w (by omega) (by omega)
  have hm:=fun w=>specMonths w
  obtain⟨j,rfl⟩:∃j:Nat,m=(j:Int)+1:=⟨(m-1).toNat,by omega⟩
  rw[show((j:Int)+1-1)=(j:Int) by omega,Int.toNat_natCast]
  have hj:j<12:=by omega
  have zm:=Pl.month_size j hj
  have z2:=Pl.two_size (r+1)
  have z4:(Pl.two (y / 100)++Pl.two (y % 100)).size=4:=by rw[ByteArray.size_append];rfl
  have zc:=clock_size t
  have zz:=zone_size z
  have zs:Pl.months.size=36:=rfl
  obtain⟨i,hi⟩:∃i:Nat,(t / 86400+3) % 7=(i:Int):=⟨((t / 86400+3) % 7).toNat,by omega⟩
  have hi7:i<7:=by omega
  rw[show(3+t / 86400) % 7=(i:Int) by omega,Int.toNat_natCast]
  have zd:=Pl.day_size i hi7
  obtain⟨p,hp⟩:∃p:Nat,3*i=p:=⟨_,rfl⟩
  obtain⟨q,hq⟩:∃q:Nat,3*i+3=q:=⟨_,rfl⟩
  have hda:ByteArray.extract ⟨#[77,111,110,84,117,101,87,101,100,84,104,117,70,114,105,83,97,116,83,117,110]⟩ p q=Pl.dayN i:=by rw[← hp,← hq];rfl
  have w3:IntKind.i64.wrap (3*(i:Int))=(p:Int):=by rw[wrap_in _ (by omega) (by omega)];omega
  have w4:IntKind.i64.wrap ((p:Int)+3)=(q:Int):=by rw[wrap_in _ (by omega) (by omega)];omega
  have f3:(q:Int)≤21:=by omega
  have f4:(p:Int)≤(q:Int):=by omega
  clear hp hq
  generalize Pl.dayN i=dn at *
  obtain⟨a,ha⟩:∃a:Nat,3*j=a:=⟨_,rfl⟩
  obtain⟨c,hc⟩:∃c:Nat,3*j+3=c:=⟨_,rfl⟩
  have hmo:Pl.months.extract a c=Pl.monthN j:=by rw[← ha,← hc];rfl
  have w1:IntKind.i64.wrap (3*((j:Int)+1))=(c:Int):=by rw[wrap_in _ (by omega) (by omega)];omega
  have w2:IntKind.i64.wrap ((c:Int)-3)=(a:Int):=by rw[wrap_in _ (by omega) (by omega)];omega
  have f1:(c:Int)≤36:=by omega
  have f2:(a:Int)≤(c:Int):=by omega
  clear ha hc
  generalize Pl.monthN j=mn at *
  generalize Pl.two (r+1)=td at *
  generalize Pl.two (y / 100)++Pl.two (y % 100)=ty at *
  generalize clockT t=tc at *
  generalize zoneT z=tz at *
  generalize Pl.months=ms at *
  have q0:0≤r+1:=by omega
  have q1:r+1≤31:=by omega
  generalize r+1=dd at *
  have cY:∀d os,Calls Tryz.prog 141 #[.int .i64 y] (Go.Sort.grow (redrawn w d) os) fun e w''=>e=.returned (.string ty)∧∃p:Regrown,w''=Go.Sort.grow (redrawn w p.d) p.os:=fun d os=>Calls.regrown_of (hY _)
  have c2:∀d os,Calls Tryz.prog 139 #[.int .i64 dd] (Go.Sort.grow (redrawn w d) os) fun e w''=>e=.returned (.string td)∧∃p:Regrown,w''=Go.Sort.grow (redrawn w p.d) p.os:=fun d os=>Calls.regrown_of (h2 _)
  have cM:∀d os,Calls Tryz.prog 140 #[] (Go.Sort.grow (redrawn w d) os) fun e w''=>e=.returned (.string ms)∧∃p:Regrown,w''=Go.Sort.grow (redrawn w p.d) p.os:=fun d os=>Calls.regrown_of ((hm _).mono fun e w' ⟨he,hw⟩=>⟨he,by rw[hw];exact Below.refl _ _⟩)
  have cC:∀d os,Calls Tryz.prog 142 #[.int .i64 t] (Go.Sort.grow (redrawn w d) os) fun e w''=>e=.returned (.string tc)∧∃p:Regrown,w''=Go.Sort.grow (redrawn w p.d) p.os:=fun d os=>Calls.regrown_of (hC _)
  have cZ:∀d os,Calls Tryz.prog 143 #[.int .i64 z] (Go.Sort.grow (redrawn w d) os) fun e w''=>e=.returned (.string tz)∧∃p:Regrown,w''=Go.Sort.grow (redrawn w p.d) p.os:=fun d os=>Calls.regrown_of (hZ _)
  have HY:=(show Hid _ from cY)
  have H2:=(show Hid _ from c2)
  have HM:=(show Hid _ from cM)
  have HC:=(show Hid _ from cC)
  have HZ:=(show Hid _ from cZ)
  clear cY c2 cM cC cZ hY h2 hm hC hZ m0 m1 hd0 hd1
  go_enter Tryz.func89,Tryz.ntmps89
  go_wp2_with fail
  refine hL.mono ?_
  rintro e w2 ⟨rfl,rfl⟩
  go_wp2_with fail
  refine hD.mono ?_
  rintro e w2 ⟨rfl,rfl⟩
  clear hL hD
  go_wp2
  try simp only[hi]
  refine wp_region_quiet_below (by kernel_rfl) (by kernel_rfl) ?_
  have n0:¬9223372036854775807<dn.size+2:=by omega
  have n1:¬9223372036854775807<dn.size+2+td.size:=by omega
  have n2:¬9223372036854775807<dn.size+2+td.size+1:=by omega
  have n3:¬9223372036854775807<dn.size+2+td.size+1+mn.size:=by omega
  have n4:¬9223372036854775807<dn.size+2+td.size+1+mn.size+1:=by omega
  have n5:¬9223372036854775807<dn.size+2+td.size+1+mn.size+1+ty.size:=by omega
  have n6:¬9223372036854775807<dn.size+2+td.size+1+mn.size+1+ty.size+1:=by omega
  have n7:¬9223372036854775807<dn.size+2+td.size+1+mn.size+1+ty.size+1+tc.size:=by omega
  have n8:¬9223372036854775807<dn.size+2+td.size+1+mn.size+1+ty.size+1+tc.size+1:=by omega
  have n9:¬9223372036854775807<dn.size+2+td.size+1+mn.size+1+ty.size+1+tc.size+1+tz.size:=by omega
  iterate 8 (quiet_step (fail))
  quiet_step (exact H2.out _ _)
  iterate 2 (quiet_step (fail))
  quiet_step (exact HM.out _ _)
  iterate 9 (quiet_step (fail))
  quiet_step (exact HY.out _ _)
  iterate 3 (quiet_step (fail))
  quiet_step (exact HC.out _ _)
  iterate 3 (quiet_step (fail))
  quiet_step (exact HZ.out _ _)
  repeat (quiet_step (fail))
  refine wpQuiet_nil ?_
  intro _ hw'
  obtain⟨⟨dq,osq⟩,hw''⟩:=hw'
  subst hw''
  go_wp2
  go_ret
  refine⟨?_,below_regrown _ dq osq⟩
  simp only[ByteArray.append_assoc]
  rfl
end Go.Proofs.YtacaoiedcfelcaaGreatDoor
