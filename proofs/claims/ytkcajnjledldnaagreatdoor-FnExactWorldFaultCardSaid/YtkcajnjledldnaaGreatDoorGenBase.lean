import Derived.WalkKit
import Derived.Lib.UnsafeStr
import Derived.Lib.AppendStr
import Derived.Laws.IdiomStrings
import Derived.Laws.Strings
import Derived.Shelf.Small.Strs
import Derived.Shelf.Small.Wraps
import Derived.Shelf.Utf8.RuneCount
import Derived.Shelf.Strconv.Itoa0
import Derived.Shelf.Strconv.Itoa1
import Derived.Shelf.LaysM
import Derived.Shelf.Strconv.Itoa2
import Derived.Shelf.Strconv.Itoa3
import Derived.Shelf.Strconv.ParseIntEmpty
import Derived.Shelf.Strconv.Clone
import Derived.Shelf.Strconv.SyntaxError
import Derived.Shelf.LaysC
import Derived.Shelf.Strconv.ToError
import Derived.Shelf.Strconv.Lower
import Derived.Shelf.Strconv.ParseUint10
import Derived.Shelf.Strconv.ParseUint10Empty
import Derived.Shelf.Strconv.ParseUint10Any
import Derived.Shelf.Strconv.ParseInt10
import Derived.Shelf.Strconv.RangeError
import Derived.Shelf.Strconv.ToErrorRange
import Derived.Shelf.Strconv.ParseUintEmpty
import Derived.Shelf.Strconv.ParseUint10b64
import Derived.Shelf.Strconv.ParseUint10b32
import Derived.Shelf.Strconv.ParseUint10b16
import Derived.Shelf.Strconv.ParseUint10b8
import Derived.Shelf.Strconv.ParseUint10At
import Derived.Shelf.Strconv.ParseInt10At64
import Derived.Shelf.Strconv.ParseInt10At32
import Derived.Shelf.Strconv.ParseInt10At16
import Derived.Shelf.Strconv.ParseInt10At8
import Derived.Shelf.Strconv.ParseInt10All
import Derived.Shelf.Strconv.ParseIntPublic10
import Derived.Shelf.Strconv.ErrVarParseInt
import Derived.Shelf.Strings.Search1
import Derived.Shelf.Strings.Search2
import Derived.Shelf.Strings.Search3
import Derived.Shelf.Strings.Count
import Derived.Shelf.Strings.Shaped
import Derived.Shelf.Strings.Prefix
import Derived.Shelf.Strings.Split
import Derived.Shelf.Strings.SplitShaped
import Derived.Shelf.Unicode.Decode
import Derived.Shelf.Strings.RuneCount
import Derived.Shelf.Strings.Explode
import Derived.Shelf.Unicode.DecodeSlow
import Derived.Shelf.Unicode.DecodeAny
import Derived.Test.YtkcajnjledldnaaGreatDoorProg
import Derived.Test.YtkcajnjledldnaaGreatDoorChecked
import Derived.Shelf.Abstract
import Derived.WalkLawsBesides
import Derived.WalkSpells
import Derived.Laws.OwnMore
import Derived.Laws.MakeOwn
import Derived.Deep.RegionWith
import Derived.Below
import Derived.Maps.OwnSet
import Derived.Deep.OwnRows
import Derived.Lib.QuietBelow
import Derived.Deep.QuietTactic
import Derived.BigQuiet
set_option maxRecDepth 20000
set_option maxHeartbeats 1000000
namespace Go.Proofs.YtkcajnjledldnaaGreatDoor
open Go.RowKit Go.Lib
def Own (B:Nat)(v:Value)(p:List UInt8)(w:World):Prop:=w.ownsRow B 5 1 v p.length (byteCells p)
theorem add_off (g j:Nat):(⟨g,0,none⟩:Addr).add j=⟨g,j,none⟩:=by
 by_cases h:j=0
 ·subst h;rfl
 ·simp[Addr.add,h]
theorem Own.nil (B:Nat)(w:World):Own B (.slice none 0 0) [] w:=World.ownsRow_nil _ _ _ _
theorem Own.made (B:Nat)(w:World)(h:B≤w.heap.size):Own B (.slice (some ⟨w.heap.size,0,none⟩) 0 0) [] (w.alloc (.cells #[] 5)):=
 World.ownsRow_made w #[] 0 h (by unfold maxLen;omega) rfl
theorem Own.form {B:Nat} {v:Value} {p:List UInt8} {w:World} (h:Own B v p w):(v=.slice none 0 0∧p=[])∨∃ g cap,v=.slice (some ⟨g,0,none⟩) p.length cap:=by
 rcases h.2 with ⟨rfl,h0⟩|⟨g,cap,cur,rfl,-⟩
 ·exact .inl ⟨rfl,List.length_eq_zero_iff.1 h0⟩
 ·exact .inr ⟨g,cap,rfl⟩
theorem Own.cell {B g cap n:Nat} {p:List UInt8} {w:World} (h:Own B (.slice (some ⟨g,0,none⟩) n cap) p w)(j:Nat)(hj:j<p.length) :
  w.cell? ⟨g,j,none⟩=some (.int .u8 (p[j].toNat:Int)):=by
 have:=World.ownsRow.cells h (g:=g) rfl j (.int .u8 (p[j].toNat:Int)) (by simp[byteCells,hj])
 rwa [add_off] at this
theorem wp_app {P:Program} {W w:World} {ops:Array Oper} {rest:List Oper} {o:Oper} {a:Act} {Q:Exit→Act→World→Prop} (hgd:o.guard=none)(s x:Operand)(t:TypeId)
  (ho:o.op=.call { callee:=.builtin .append,args:=#[s,x],argTypes:=#[t,t] })
  (i:TypeInfo) (ht:P.underlying t=some (.slice 5)) (hi:P.info? 5=some i) (hz:i.zero=some (.int .u8 0)) (hsize:i.size=1) (hby:i.bytes=1)
  (B:Nat) (v:Value) (p:List UInt8) (hs:a.eval s=v) (hown:Own B v p w) (cs:Array Value) (news:List UInt8) (hcs:cs.toList=byteCells news)
  (n c:Nat) (hn:n=news.length) (hx:a.eval x=.slice (some ⟨w.heap.size,0,none⟩) n c) (hlen:p.length+news.length≤140737488355328) (hB:B≤W.heap.size) (hb:Below B W w)
  (h:∀v' w',Own B v' (p++news) w'→Below B W w'→wpList P ops Q rest (a.put o.dst v') w'):wpList P ops Q (o::rest) a (w.alloc (.cells cs 5)):=by
 subst hn
 have hsz:=hb.size
 refine wpList_append_own _ hgd s x t ho B 5 i (.int .u8 0) 1 1 ht hi hz hsize hby rfl (by decide) v p.length (byteCells p) hs (hown.alloc _) ⟨w.heap.size,0,none⟩ news.length c (byteCells news) hx
  (by rw[byteCells_length,Nat.mul_one]) ?_ ?_ (by unfold maxLen;omega) (by omega) (by simp;omega) ?_
 ·intro j u hj
  have e2:cs[j]?=some u:=by rw[← Array.getElem?_toList,hcs];exact hj
  rw[add_off]
  simp[e2]
 ·intro u hu
  simp only[byteCells,List.mem_map] at hu
  obtain⟨b,-,rfl⟩:=hu
  rfl
 ·intro v' w' h1 h2 _
  refine h v' w' ?_ ?_
  ·unfold Own
   rw[byteCells_append,List.length_append]
   exact h1
  ·exact(hb.alloc (by omega) _).grown h2 (by simp;omega) (fun k hk=>(World.ownsRow.lt hown k hk).1)
theorem Own.back {P:Program} {B:Nat} {v:Value} {p:List UInt8} {w:World} (h:Own B v p w)(src dst:TypeId)(hs:P.underlying src=some (.slice 5))(he:P.underlying 5=some (.int .u8))(hd:P.underlying dst=some .string) :
  (convert src dst v).run P w=.ok (.string ⟨p.toArray⟩) w:=by
 rcases h.form with ⟨rfl,rfl⟩|⟨g,cap,rfl⟩
 ·have:=run_convert_bytes_string (P:=P) w src dst 5 none 0 0 hs he hd
  rw[this];rfl
 ·exact run_convert_bytes_back w src dst 5 ⟨g,0,none⟩ cap p hs he hd (fun j hj=>by rw[add_off];exact h.cell j hj)
theorem mkHid {p:Prop} (h:p):Hid p:=h
theorem heap_alloc_at (w:World)(o:Obj):(w.alloc o).heap[w.heap.size]?=some o:=by
 show(w.heap.push o)[w.heap.size]?=some o
 simp
namespace Pl
theorem drop_cons (l:List UInt8)(k:Nat)(h:k<l.length):l.drop k=l[k]::l.drop (k+1):=by
 rw[List.drop_eq_getElem_cons h]
theorem byte_eq (c d:UInt8)(n:Int)(hn:n=(d.toNat:Int))(h:((c.toNat:Int)==n)=true):c=d:=by
 subst hn
 have h:=beq_iff_eq.1 h
 exact UInt8.toNat_inj.1 (by omega)
theorem byte_ne (c d:UInt8)(n:Int)(hn:n=(d.toNat:Int))(h:((c.toNat:Int)==n)=false):c≠d:=by
 subst hn
 rintro rfl
 simp at h
theorem at_list (s:ByteArray)(k:Nat)(h:k<s.size):s.data.toList[k]'(by simpa using h)=s[k]:=rfl
theorem len_list (s:ByteArray):s.data.toList.length=s.size:=by simp
theorem ext_data (s:ByteArray)(a b:Nat):(s.extract a b).data.toList=(s.data.toList.drop a).take (b-a):=by simp
def crlf (l:List UInt8)(k:Nat):Bool:=(l.drop k).take 2 == [13,10]
end Pl
namespace Pl
def blank (c:UInt8):Bool:=c==32 || c==9
def blankAt (l:List UInt8)(k:Nat):Bool:=match l[k]? with|some c=>blank c|none=>false
def fold (l:List UInt8)(k:Nat):Bool:=crlf l k && blankAt l (k+2)
def unf:Bool→List UInt8→List UInt8
 | _,[]=>[]
 | true,_::r=>unf false r
 | false,c::r=>if fold (c::r) 0 then unf true r else c::unf false r
end Pl
namespace Pl
def lb (c:UInt8):Bool:=!(c==13 || c==10)
def val (l:List UInt8):Bool:=(unf false l).all lb
theorem all_step (f:UInt8→Bool)(l:List UInt8)(k:Nat)(hk:k<l.length):(l.drop k).all f=(f l[k] && (l.drop (k+1)).all f):=by
 rw[drop_cons l k hk,List.all_cons]
theorem all_done (f:UInt8→Bool)(l:List UInt8)(k:Nat)(hk:l.length≤k):(l.drop k).all f=true:=by
 rw[List.drop_eq_nil_of_le hk];rfl
theorem getD_lt (l:List UInt8)(k:Nat)(h:k<l.length):l.getD k 0=l[k]:=by simp[h]
end Pl
end Go.Proofs.YtkcajnjledldnaaGreatDoor
namespace Go.Proofs
open Go.Shelf
def Tryz.lays137_ren:Go.Shelf.Ren:=⟨fun|137=>209|217=>214|266=>232|n=>n,fun|9=>9|5=>5|3=>3|n=>n,fun|n=>n⟩
theorem Tryz.lays137:Go.Proofs.Lays.n137 Tryz.prog Tryz.lays137_ren:={
 mixed:=by kernel_rfl
 f137:=Tryz.func209.trans (congrArg some (by kernel_rfl))
 f217:=Tryz.func214.trans (congrArg some (by kernel_rfl))
 f266:=Tryz.func232.trans (congrArg some (by kernel_rfl))
 t3:=Tryz.underlying3
 a3:=Tryz.isAgg3
 z3:=Tryz.sizeOf3
 v3:=Tryz.zeroValue3
 t5:=Tryz.underlying5
 a5:=Tryz.isAgg5
 z5:=Tryz.sizeOf5
 v5:=Tryz.zeroValue5
 t9:=Tryz.underlying9
 a9:=Tryz.isAgg9
 z9:=Tryz.sizeOf9
 v9:=Tryz.zeroValue9 }
open Go.RowKit in
theorem Tryz.strings_IndexByte (s:ByteArray)(c:Int)(w:World) :
  Calls Tryz.prog 209 #[.string s,.int .u8 c] w fun e w'=>e=.returned (.int .i64 (Lib.indexByte s.data.toList c.toNat.toUInt8))∧w'=w:=Any.strings_IndexByte Tryz.lays137 s c w
def Tryz.lays210_ren:Go.Shelf.Ren:=⟨fun|210=>210|206=>164|n=>n,fun|9=>9|4=>4|3=>3|n=>n,fun|n=>n⟩
def Tryz.lays103_ren:Go.Shelf.Ren:=⟨fun|103=>187|210=>210|206=>164|n=>n,fun|9=>9|4=>4|24=>218|3=>3|n=>n,fun|n=>n⟩
theorem Tryz.lays103:Go.Proofs.Lays.n103 Tryz.prog Tryz.lays103_ren:={
 mixed:=by kernel_rfl
 f103:=Tryz.func187.trans (congrArg some (by kernel_rfl))
 f206:=Tryz.func164.trans (congrArg some (by kernel_rfl))
 f210:=Tryz.func210.trans (congrArg some (by kernel_rfl))
 t3:=Tryz.underlying3
 a3:=Tryz.isAgg3
 z3:=Tryz.sizeOf3
 v3:=Tryz.zeroValue3
 t4:=Tryz.underlying4
 a4:=Tryz.isAgg4
 z4:=Tryz.sizeOf4
 v4:=Tryz.zeroValue4
 t9:=Tryz.underlying9
 a9:=Tryz.isAgg9
 z9:=Tryz.sizeOf9
 v9:=Tryz.zeroValue9
 t24:=Tryz.underlying218
 a24:=Tryz.isAgg218
 z24:=Tryz.sizeOf218
 v24:=Tryz.zeroValue218 }
open Go.RowKit in
theorem Tryz.strings_CutPrefix (s p:ByteArray)(w:World) :
  Calls Tryz.prog 187 #[.string s,.string p] w fun e w'=>e=.returned (.tuple #[.string ⟨(Lib.trimPrefix s.data.toList p.data.toList).toArray⟩,.bool (Lib.hasPrefix s.data.toList p.data.toList)])∧w'=w:=Any.strings_CutPrefix Tryz.lays103 s p w
def Tryz.lays104_ren:Go.Shelf.Ren:=⟨fun|104=>188|211=>211|207=>228|n=>n,fun|9=>9|4=>4|24=>218|3=>3|n=>n,fun|n=>n⟩
theorem Tryz.lays104:Go.Proofs.Lays.n104 Tryz.prog Tryz.lays104_ren:={
 mixed:=by kernel_rfl
 f104:=Tryz.func188.trans (congrArg some (by kernel_rfl))
 f207:=Tryz.func228.trans (congrArg some (by kernel_rfl))
 f211:=Tryz.func211.trans (congrArg some (by kernel_rfl))
 t3:=Tryz.underlying3
 a3:=Tryz.isAgg3
 z3:=Tryz.sizeOf3
 v3:=Tryz.zeroValue3
 t4:=Tryz.underlying4
 a4:=Tryz.isAgg4
 z4:=Tryz.sizeOf4
 v4:=Tryz.zeroValue4
 t9:=Tryz.underlying9
 a9:=Tryz.isAgg9
 z9:=Tryz.sizeOf9
 v9:=Tryz.zeroValue9
 t24:=Tryz.underlying218
 a24:=Tryz.isAgg218
 z24:=Tryz.sizeOf218
 v24:=Tryz.zeroValue218 }
open Go.RowKit in
theorem Tryz.strings_CutSuffix (s p:ByteArray)(w:World)(hs:s.size≤9223372036854775807) :
  Calls Tryz.prog 188 #[.string s,.string p] w fun e w'=>e=.returned (.tuple #[.string ⟨(Lib.trimSuffix s.data.toList p.data.toList).toArray⟩,.bool (Lib.hasSuffix s.data.toList p.data.toList)])∧w'=w:=Any.strings_CutSuffix Tryz.lays104 s p w hs
def Tryz.laysM316_ren:Go.Shelf.Ren:=⟨fun|316=>234|n=>n,fun|9=>9|3=>3|4=>4|37=>100|0=>0|127=>244|5=>5|n=>n,fun|n=>n⟩
theorem Tryz.laysM316:Go.Proofs.LaysM.n316 Tryz.prog Tryz.laysM316_ren:={
 mixed:=by kernel_rfl
 f316:=Tryz.func234.trans (congrArg some (by kernel_rfl))
 t0:=Tryz.underlying0
 a0:=Tryz.isAgg0
 z0:=Tryz.sizeOf0
 v0:=Tryz.zeroValue0
 t3:=Tryz.underlying3
 a3:=Tryz.isAgg3
 z3:=Tryz.sizeOf3
 v3:=Tryz.zeroValue3
 t4:=Tryz.underlying4
 a4:=Tryz.isAgg4
 z4:=Tryz.sizeOf4
 v4:=Tryz.zeroValue4
 t9:=Tryz.underlying9
 a9:=Tryz.isAgg9
 z9:=Tryz.sizeOf9
 v9:=Tryz.zeroValue9
 t37:=Tryz.underlying100
 a37:=Tryz.isAgg100
 z37:=Tryz.sizeOf100
 v37:=Tryz.zeroValue100
 t127:=Tryz.underlying244
 a127:=Tryz.isAgg244
 z127:=Tryz.sizeOf244
 v127:=Tryz.zeroValue244
 t5:=Tryz.underlying5
 a5:=Tryz.isAgg5
 z5:=Tryz.sizeOf5
 v5:=Tryz.zeroValue5
 i0:=by kernel_rfl
 i3:=by kernel_rfl
 i4:=by kernel_rfl
 i5:=by kernel_rfl
 i9:=by kernel_rfl
 i37:=by kernel_rfl
 i127:=by kernel_rfl }
open Go.RowKit in
theorem Tryz.stringslite_Clone (s:ByteArray)(w:World)(hlim:s.size≤281474976710656) :
  Calls Tryz.prog 234 #[.string s] w fun e w'=>e=.returned (.string s)∧Below w.heap.size w w':=Any.stringslite_Clone Tryz.laysM316 s w hlim
def Tryz.laysC245_ren:Go.Shelf.Ren:=⟨fun|245=>237|279=>240|280=>241|281=>242|282=>243|316=>234|171=>248|205=>247|243=>249|246=>250|283=>251|284=>252|285=>253|286=>254|129=>256|317=>255|318=>257|319=>258|320=>259|337=>260|338=>261|n=>n,fun|9=>9|3=>3|75=>232|167=>245|4=>4|168=>249|210=>253|37=>100|0=>0|127=>244|145=>262|143=>260|2=>2|171=>264|53=>246|5=>5|173=>267|212=>270|51=>236|20=>20|213=>271|46=>227|232=>274|233=>275|80=>212|n=>n,fun|15=>3|16=>4|17=>7|18=>8|19=>9|n=>n⟩
def Tryz.laysC174_ren:Go.Shelf.Ren:=⟨fun|174=>226|247=>236|245=>237|287=>239|279=>240|280=>241|281=>242|282=>243|321=>245|322=>246|316=>234|171=>248|205=>247|243=>249|246=>250|283=>251|284=>252|285=>253|286=>254|129=>256|317=>255|318=>257|319=>258|320=>259|337=>260|338=>261|n=>n,fun|9=>9|3=>3|2=>2|75=>232|85=>233|4=>4|167=>245|5=>5|53=>246|175=>247|46=>227|168=>249|37=>100|0=>0|210=>253|21=>21|127=>244|145=>262|143=>260|171=>264|173=>267|212=>270|51=>236|20=>20|213=>271|232=>274|233=>275|80=>212|n=>n,fun|15=>3|16=>4|17=>7|18=>8|19=>9|n=>n⟩
theorem Tryz.laysC174:Go.Proofs.LaysC.n174 Tryz.prog Tryz.laysC174_ren:={
 mixed:=by kernel_rfl
 f129:=Tryz.func256.trans (congrArg some (by kernel_rfl))
 f171:=Tryz.func248.trans (congrArg some (by kernel_rfl))
 f174:=Tryz.func226.trans (congrArg some (by kernel_rfl))
 f205:=Tryz.func247.trans (congrArg some (by kernel_rfl))
 f243:=Tryz.func249.trans (congrArg some (by kernel_rfl))
 f245:=Tryz.func237.trans (congrArg some (by kernel_rfl))
 f246:=Tryz.func250.trans (congrArg some (by kernel_rfl))
 f247:=Tryz.func236.trans (congrArg some (by kernel_rfl))
 f279:=Tryz.func240.trans (congrArg some (by kernel_rfl))
 f280:=Tryz.func241.trans (congrArg some (by kernel_rfl))
 f281:=Tryz.func242.trans (congrArg some (by kernel_rfl))
 f282:=Tryz.func243.trans (congrArg some (by kernel_rfl))
 f283:=Tryz.func251.trans (congrArg some (by kernel_rfl))
 f284:=Tryz.func252.trans (congrArg some (by kernel_rfl))
 f285:=Tryz.func253.trans (congrArg some (by kernel_rfl))
 f286:=Tryz.func254.trans (congrArg some (by kernel_rfl))
 f287:=Tryz.func239.trans (congrArg some (by kernel_rfl))
 f316:=Tryz.func234.trans (congrArg some (by kernel_rfl))
 f317:=Tryz.func255.trans (congrArg some (by kernel_rfl))
 f318:=Tryz.func257.trans (congrArg some (by kernel_rfl))
 f319:=Tryz.func258.trans (congrArg some (by kernel_rfl))
 f320:=Tryz.func259.trans (congrArg some (by kernel_rfl))
 f321:=Tryz.func245.trans (congrArg some (by kernel_rfl))
 f322:=Tryz.func246.trans (congrArg some (by kernel_rfl))
 f337:=Tryz.func260.trans (congrArg some (by kernel_rfl))
 f338:=Tryz.func261.trans (congrArg some (by kernel_rfl))
 t0:=Tryz.underlying0
 a0:=Tryz.isAgg0
 z0:=Tryz.sizeOf0
 v0:=Tryz.zeroValue0
 t2:=Tryz.underlying2
 a2:=Tryz.isAgg2
 z2:=Tryz.sizeOf2
 v2:=Tryz.zeroValue2
 t3:=Tryz.underlying3
 a3:=Tryz.isAgg3
 z3:=Tryz.sizeOf3
 v3:=Tryz.zeroValue3
 t4:=Tryz.underlying4
 a4:=Tryz.isAgg4
 z4:=Tryz.sizeOf4
 v4:=Tryz.zeroValue4
 t5:=Tryz.underlying5
 a5:=Tryz.isAgg5
 z5:=Tryz.sizeOf5
 v5:=Tryz.zeroValue5
 t9:=Tryz.underlying9
 a9:=Tryz.isAgg9
 z9:=Tryz.sizeOf9
 v9:=Tryz.zeroValue9
 t20:=Tryz.underlying20
 a20:=Tryz.isAgg20
 z20:=Tryz.sizeOf20
 v20:=Tryz.zeroValue20
 t21:=Tryz.underlying21
 a21:=Tryz.isAgg21
 z21:=Tryz.sizeOf21
 v21:=Tryz.zeroValue21
 t37:=Tryz.underlying100
 a37:=Tryz.isAgg100
 z37:=Tryz.sizeOf100
 v37:=Tryz.zeroValue100
 t46:=Tryz.underlying227
 a46:=Tryz.isAgg227
 z46:=Tryz.sizeOf227
 v46:=Tryz.zeroValue227
 t51:=Tryz.underlying236
 a51:=Tryz.isAgg236
 z51:=Tryz.sizeOf236
 v51:=Tryz.zeroValue236
 t53:=Tryz.underlying246
 a53:=Tryz.isAgg246
 z53:=Tryz.sizeOf246
 v53:=Tryz.zeroValue246
 t75:=Tryz.underlying232
 a75:=Tryz.isAgg232
 z75:=Tryz.sizeOf232
 v75:=Tryz.zeroValue232
 t85:=Tryz.underlying233
 a85:=Tryz.isAgg233
 z85:=Tryz.sizeOf233
 v85:=Tryz.zeroValue233
 t127:=Tryz.underlying244
 a127:=Tryz.isAgg244
 z127:=Tryz.sizeOf244
 v127:=Tryz.zeroValue244
 t143:=Tryz.underlying260
 a143:=Tryz.isAgg260
 z143:=Tryz.sizeOf260
 v143:=Tryz.zeroValue260
 t145:=Tryz.underlying262
 a145:=Tryz.isAgg262
 z145:=Tryz.sizeOf262
 v145:=Tryz.zeroValue262
 t167:=Tryz.underlying245
 a167:=Tryz.isAgg245
 z167:=Tryz.sizeOf245
 v167:=Tryz.zeroValue245
 t168:=Tryz.underlying249
 a168:=Tryz.isAgg249
 z168:=Tryz.sizeOf249
 v168:=Tryz.zeroValue249
 t171:=Tryz.underlying264
 a171:=Tryz.isAgg264
 z171:=Tryz.sizeOf264
 v171:=Tryz.zeroValue264
 t173:=Tryz.underlying267
 a173:=Tryz.isAgg267
 z173:=Tryz.sizeOf267
 v173:=Tryz.zeroValue267
 t175:=Tryz.underlying247
 a175:=Tryz.isAgg247
 z175:=Tryz.sizeOf247
 v175:=Tryz.zeroValue247
 t210:=Tryz.underlying253
 a210:=Tryz.isAgg253
 z210:=Tryz.sizeOf253
 v210:=Tryz.zeroValue253
 t212:=Tryz.underlying270
 a212:=Tryz.isAgg270
 z212:=Tryz.sizeOf270
 v212:=Tryz.zeroValue270
 t213:=Tryz.underlying271
 a213:=Tryz.isAgg271
 z213:=Tryz.sizeOf271
 t232:=Tryz.underlying274
 a232:=Tryz.isAgg274
 z232:=Tryz.sizeOf274
 v232:=Tryz.zeroValue274
 t233:=Tryz.underlying275
 a233:=Tryz.isAgg275
 z233:=Tryz.sizeOf275
 v233:=Tryz.zeroValue275
 g15:=by kernel_rfl
 g16:=by kernel_rfl
 g17:=by kernel_rfl
 g18:=by kernel_rfl
 g19:=by kernel_rfl
 t80:=Tryz.underlying212
 a80:=Tryz.isAgg212
 z80:=Tryz.sizeOf212
 v80:=Tryz.zeroValue212
 i0:=by kernel_rfl
 i2:=by kernel_rfl
 i3:=by kernel_rfl
 i4:=by kernel_rfl
 i5:=by kernel_rfl
 i9:=by kernel_rfl
 i20:=by kernel_rfl
 i21:=by kernel_rfl
 i37:=by kernel_rfl
 i46:=by kernel_rfl
 i51:=by kernel_rfl
 i53:=by kernel_rfl
 i75:=by kernel_rfl
 i80:=by kernel_rfl
 i85:=by kernel_rfl
 i127:=by kernel_rfl
 i143:=by kernel_rfl
 i145:=by kernel_rfl
 i167:=by kernel_rfl
 i168:=by kernel_rfl
 i171:=by kernel_rfl
 i173:=by kernel_rfl
 i175:=by kernel_rfl
 i210:=by kernel_rfl
 i212:=by kernel_rfl
 i232:=by kernel_rfl
 i233:=by kernel_rfl
 m15:=by kernel_rfl
 m16:=by kernel_rfl
 m17:=by kernel_rfl
 m18:=by kernel_rfl
 m19:=by kernel_rfl
 c0:=by kernel_rfl
 c2:=by kernel_rfl
 c3:=by kernel_rfl
 c4:=by kernel_rfl
 c5:=by kernel_rfl
 c9:=by kernel_rfl
 c20:=by kernel_rfl
 c21:=by kernel_rfl
 c37:=by kernel_rfl
 c46:=by kernel_rfl
 c51:=by kernel_rfl
 c53:=by kernel_rfl
 c75:=by kernel_rfl
 c80:=by kernel_rfl
 c85:=by kernel_rfl
 c127:=by kernel_rfl
 c143:=by kernel_rfl
 c145:=by kernel_rfl
 c167:=by kernel_rfl
 c168:=by kernel_rfl
 c171:=by kernel_rfl
 c173:=by kernel_rfl
 c175:=by kernel_rfl
 c210:=by kernel_rfl
 c212:=by kernel_rfl
 c213:=by kernel_rfl
 c232:=by kernel_rfl
 c233:=by kernel_rfl }
open Go.RowKit in
theorem Tryz.strconv_ParseInt_10_at64_ok (s:ByteArray)(hmax:s.size≤9223372036854775806)(v:Int)(h:Lib.parseIntB 64 s.data.toList=.ok v)(w:World) :
  Calls Tryz.prog 226 #[.string s,.int .i64 10,.int .i64 64] w fun e w'=>e=.returned (.tuple #[.int .i64 v,.nilIface])∧(w'=w∨∃ t,w'=Lib.bytesWorld w 5 t):=Any.strconv_ParseInt_10_at64_ok Tryz.laysC174 s hmax v h w
open Go.RowKit in
theorem Tryz.strconv_ParseInt_10_at64_syntax (s:ByteArray)(hlim:s.size≤281474976710656)(h:Lib.parseIntB 64 s.data.toList=.«syntax»)(ev:Value)(w:World)(hv:w.cell? ⟨3,0,none⟩=some ev)(hev:ev=.nilIface∨∃ te pe,ev=.iface te pe) :
  Calls Tryz.prog 226 #[.string s,.int .i64 10,.int .i64 64] w fun e w'=>∃ N,e=.returned (.tuple #[.int .i64 (0),.iface 249 (.pointer (some ⟨N,0,none⟩))])∧w.heap.size≤N∧w'.heap[N]?=some (.cells #[.string ⟨#[80,97,114,115,101,73,110,116]⟩,.string s,ev] 253 (0,0))∧Below w.heap.size w w':=Any.strconv_ParseInt_10_at64_syntax Tryz.laysC174 s hlim h ev w hv hev
open Go.RowKit in
theorem Tryz.strconv_ParseInt_10_at64_range (s:ByteArray)(hlim:s.size≤281474976710656)(h:Lib.parseIntB 64 s.data.toList=.range)(ev:Value)(w:World)(hv:w.cell? ⟨4,0,none⟩=some ev)(hev:ev=.nilIface∨∃ te pe,ev=.iface te pe) :
  Calls Tryz.prog 226 #[.string s,.int .i64 10,.int .i64 64] w fun e w'=>∃ N,e=.returned (.tuple #[.int .i64 (Lib.intSat 64 s.data.toList),.iface 249 (.pointer (some ⟨N,0,none⟩))])∧w.heap.size≤N∧w'.heap[N]?=some (.cells #[.string ⟨#[80,97,114,115,101,73,110,116]⟩,.string s,ev] 253 (0,0))∧Below w.heap.size w w':=Any.strconv_ParseInt_10_at64_range Tryz.laysC174 s hlim h ev w hv hev
def Tryz.lays219_ren:Go.Shelf.Ren:=⟨fun|219=>194|217=>214|225=>215|224=>216|267=>217|266=>232|314=>233|n=>n,fun|9=>9|3=>3|4=>4|5=>5|46=>227|146=>237|51=>236|n=>n,fun|1=>0|n=>n⟩
def Tryz.lays138_ren:Go.Shelf.Ren:=⟨fun|138=>146|195=>170|218=>171|143=>172|219=>194|217=>214|225=>215|224=>216|267=>217|266=>232|314=>233|n=>n,fun|9=>9|3=>3|4=>4|5=>5|0=>0|46=>227|146=>237|51=>236|n=>n,fun|1=>0|n=>n⟩
theorem Tryz.lays138:Go.Proofs.Lays.n138 Tryz.prog Tryz.lays138_ren:={
 mixed:=by kernel_rfl
 f138:=Tryz.func146.trans (congrArg some (by kernel_rfl))
 f143:=Tryz.func172.trans (congrArg some (by kernel_rfl))
 f195:=Tryz.func170.trans (congrArg some (by kernel_rfl))
 f217:=Tryz.func214.trans (congrArg some (by kernel_rfl))
 f218:=Tryz.func171.trans (congrArg some (by kernel_rfl))
 f219:=Tryz.func194.trans (congrArg some (by kernel_rfl))
 f224:=Tryz.func216.trans (congrArg some (by kernel_rfl))
 f225:=Tryz.func215.trans (congrArg some (by kernel_rfl))
 f266:=Tryz.func232.trans (congrArg some (by kernel_rfl))
 f267:=Tryz.func217.trans (congrArg some (by kernel_rfl))
 f314:=Tryz.func233.trans (congrArg some (by kernel_rfl))
 t0:=Tryz.underlying0
 a0:=Tryz.isAgg0
 z0:=Tryz.sizeOf0
 v0:=Tryz.zeroValue0
 t3:=Tryz.underlying3
 a3:=Tryz.isAgg3
 z3:=Tryz.sizeOf3
 v3:=Tryz.zeroValue3
 t4:=Tryz.underlying4
 a4:=Tryz.isAgg4
 z4:=Tryz.sizeOf4
 v4:=Tryz.zeroValue4
 t5:=Tryz.underlying5
 a5:=Tryz.isAgg5
 z5:=Tryz.sizeOf5
 v5:=Tryz.zeroValue5
 t9:=Tryz.underlying9
 a9:=Tryz.isAgg9
 z9:=Tryz.sizeOf9
 v9:=Tryz.zeroValue9
 t46:=Tryz.underlying227
 a46:=Tryz.isAgg227
 z46:=Tryz.sizeOf227
 v46:=Tryz.zeroValue227
 t51:=Tryz.underlying236
 a51:=Tryz.isAgg236
 z51:=Tryz.sizeOf236
 v51:=Tryz.zeroValue236
 t146:=Tryz.underlying237
 a146:=Tryz.isAgg237
 z146:=Tryz.sizeOf237
 v146:=Tryz.zeroValue237
 g1:=by kernel_rfl }
open Go.RowKit Go.Lib in
theorem Tryz.strings_Count_one (s:ByteArray)(c:UInt8)(w:World) :
  Calls Tryz.prog 146 #[.string s,.string ⟨#[c]⟩] w fun e w'=>e=.returned (.int .i64 (Lib.countByte s.data.toList c))∧w'=w:=Any.strings_Count_one Tryz.lays138 s c w
def Tryz.laysM219_ren:Go.Shelf.Ren:=⟨fun|219=>194|217=>214|225=>215|224=>216|267=>217|266=>232|314=>233|n=>n,fun|9=>9|3=>3|4=>4|5=>5|46=>227|146=>237|51=>236|n=>n,fun|1=>0|n=>n⟩
theorem Tryz.laysM219:Go.Proofs.LaysM.n219 Tryz.prog Tryz.laysM219_ren:={
 mixed:=by kernel_rfl
 f217:=Tryz.func214.trans (congrArg some (by kernel_rfl))
 f219:=Tryz.func194.trans (congrArg some (by kernel_rfl))
 f224:=Tryz.func216.trans (congrArg some (by kernel_rfl))
 f225:=Tryz.func215.trans (congrArg some (by kernel_rfl))
 f266:=Tryz.func232.trans (congrArg some (by kernel_rfl))
 f267:=Tryz.func217.trans (congrArg some (by kernel_rfl))
 f314:=Tryz.func233.trans (congrArg some (by kernel_rfl))
 t3:=Tryz.underlying3
 a3:=Tryz.isAgg3
 z3:=Tryz.sizeOf3
 v3:=Tryz.zeroValue3
 t4:=Tryz.underlying4
 a4:=Tryz.isAgg4
 z4:=Tryz.sizeOf4
 v4:=Tryz.zeroValue4
 t5:=Tryz.underlying5
 a5:=Tryz.isAgg5
 z5:=Tryz.sizeOf5
 v5:=Tryz.zeroValue5
 t9:=Tryz.underlying9
 a9:=Tryz.isAgg9
 z9:=Tryz.sizeOf9
 v9:=Tryz.zeroValue9
 t46:=Tryz.underlying227
 a46:=Tryz.isAgg227
 z46:=Tryz.sizeOf227
 v46:=Tryz.zeroValue227
 t51:=Tryz.underlying236
 a51:=Tryz.isAgg236
 z51:=Tryz.sizeOf236
 v51:=Tryz.zeroValue236
 t146:=Tryz.underlying237
 a146:=Tryz.isAgg237
 z146:=Tryz.sizeOf237
 v146:=Tryz.zeroValue237
 g1:=by kernel_rfl
 i3:=by kernel_rfl
 i4:=by kernel_rfl
 i5:=by kernel_rfl
 i9:=by kernel_rfl
 i46:=by kernel_rfl
 i51:=by kernel_rfl
 i146:=by kernel_rfl
 m1:=by kernel_rfl
 s1_3:=fun w h=>Go.Proofs.cell_of_shapedOpen_int (zero:=#[.int .i64 0]) (t:=3) h (of_decide_eq_true (by kernel_rfl)) (by kernel_rfl) rfl (by kernel_rfl) (by kernel_rfl) Tryz.underlying3 }
def Tryz.lays99_ren:Go.Shelf.Ren:=⟨fun|99=>136|206=>164|n=>n,fun|9=>9|4=>4|3=>3|n=>n,fun|n=>n⟩
theorem Tryz.lays99:Go.Proofs.Lays.n99 Tryz.prog Tryz.lays99_ren:={
 mixed:=by kernel_rfl
 f99:=Tryz.func136.trans (congrArg some (by kernel_rfl))
 f206:=Tryz.func164.trans (congrArg some (by kernel_rfl))
 t3:=Tryz.underlying3
 a3:=Tryz.isAgg3
 z3:=Tryz.sizeOf3
 v3:=Tryz.zeroValue3
 t4:=Tryz.underlying4
 a4:=Tryz.isAgg4
 z4:=Tryz.sizeOf4
 v4:=Tryz.zeroValue4
 t9:=Tryz.underlying9
 a9:=Tryz.isAgg9
 z9:=Tryz.sizeOf9
 v9:=Tryz.zeroValue9 }
open Go.RowKit Go.Lib in
theorem Tryz.strings_HasPrefix (s p:ByteArray)(w:World) :
  Calls Tryz.prog 136 #[.string s,.string p] w fun e w'=>e=.returned (.bool (Lib.hasPrefix s.data.toList p.data.toList))∧w'=w:=Any.strings_HasPrefix Tryz.lays99 s p w
def Tryz.lays221_ren:Go.Shelf.Ren:=⟨fun|221=>207|268=>227|138=>146|143=>172|195=>170|197=>238|218=>171|219=>194|260=>244|217=>214|225=>215|224=>216|267=>217|266=>232|314=>233|n=>n,fun|9=>9|3=>3|31=>107|4=>4|0=>0|105=>242|21=>21|5=>5|46=>227|119=>256|139=>259|138=>258|146=>237|51=>236|n=>n,fun|1=>0|3=>5|4=>6|n=>n⟩
def Tryz.lays146_ren:Go.Shelf.Ren:=⟨fun|146=>185|221=>207|268=>227|138=>146|143=>172|195=>170|197=>238|218=>171|219=>194|260=>244|217=>214|225=>215|224=>216|267=>217|266=>232|314=>233|n=>n,fun|9=>9|31=>107|3=>3|4=>4|0=>0|105=>242|21=>21|5=>5|46=>227|119=>256|139=>259|138=>258|146=>237|51=>236|n=>n,fun|1=>0|3=>5|4=>6|n=>n⟩
theorem Tryz.lays146:Go.Proofs.Lays.n146 Tryz.prog Tryz.lays146_ren:={
 mixed:=by kernel_rfl
 f138:=Tryz.func146.trans (congrArg some (by kernel_rfl))
 f143:=Tryz.func172.trans (congrArg some (by kernel_rfl))
 f146:=Tryz.func185.trans (congrArg some (by kernel_rfl))
 f195:=Tryz.func170.trans (congrArg some (by kernel_rfl))
 f197:=Tryz.func238.trans (congrArg some (by kernel_rfl))
 f217:=Tryz.func214.trans (congrArg some (by kernel_rfl))
 f218:=Tryz.func171.trans (congrArg some (by kernel_rfl))
 f219:=Tryz.func194.trans (congrArg some (by kernel_rfl))
 f221:=Tryz.func207.trans (congrArg some (by kernel_rfl))
 f224:=Tryz.func216.trans (congrArg some (by kernel_rfl))
 f225:=Tryz.func215.trans (congrArg some (by kernel_rfl))
 f260:=Tryz.func244.trans (congrArg some (by kernel_rfl))
 f266:=Tryz.func232.trans (congrArg some (by kernel_rfl))
 f267:=Tryz.func217.trans (congrArg some (by kernel_rfl))
 f268:=Tryz.func227.trans (congrArg some (by kernel_rfl))
 f314:=Tryz.func233.trans (congrArg some (by kernel_rfl))
 t0:=Tryz.underlying0
 a0:=Tryz.isAgg0
 z0:=Tryz.sizeOf0
 v0:=Tryz.zeroValue0
 t3:=Tryz.underlying3
 a3:=Tryz.isAgg3
 z3:=Tryz.sizeOf3
 v3:=Tryz.zeroValue3
 t4:=Tryz.underlying4
 a4:=Tryz.isAgg4
 z4:=Tryz.sizeOf4
 v4:=Tryz.zeroValue4
 t5:=Tryz.underlying5
 a5:=Tryz.isAgg5
 z5:=Tryz.sizeOf5
 v5:=Tryz.zeroValue5
 t9:=Tryz.underlying9
 a9:=Tryz.isAgg9
 z9:=Tryz.sizeOf9
 v9:=Tryz.zeroValue9
 t21:=Tryz.underlying21
 a21:=Tryz.isAgg21
 z21:=Tryz.sizeOf21
 v21:=Tryz.zeroValue21
 t31:=Tryz.underlying107
 a31:=Tryz.isAgg107
 z31:=Tryz.sizeOf107
 v31:=Tryz.zeroValue107
 t46:=Tryz.underlying227
 a46:=Tryz.isAgg227
 z46:=Tryz.sizeOf227
 v46:=Tryz.zeroValue227
 t51:=Tryz.underlying236
 a51:=Tryz.isAgg236
 z51:=Tryz.sizeOf236
 v51:=Tryz.zeroValue236
 t105:=Tryz.underlying242
 a105:=Tryz.isAgg242
 z105:=Tryz.sizeOf242
 v105:=Tryz.zeroValue242
 t119:=Tryz.underlying256
 a119:=Tryz.isAgg256
 z119:=Tryz.sizeOf256
 t138:=Tryz.underlying258
 a138:=Tryz.isAgg258
 z138:=Tryz.sizeOf258
 v138:=Tryz.zeroValue258
 t139:=Tryz.underlying259
 a139:=Tryz.isAgg259
 z139:=Tryz.sizeOf259
 v139:=Tryz.zeroValue259
 t146:=Tryz.underlying237
 a146:=Tryz.isAgg237
 z146:=Tryz.sizeOf237
 v146:=Tryz.zeroValue237
 g1:=by kernel_rfl
 g3:=by kernel_rfl
 g4:=by kernel_rfl }
open Go.RowKit Go.Lib in
theorem Tryz.strings_Split (s sep:ByteArray)(m:Int)(w:World)(hs:s.size<4294967281)(hm:w.cell? ⟨0,0,none⟩=some (.int .i64 m))(h1:1≤sep.size) :
  Calls Tryz.prog 185 #[.string s,.string sep] w fun e w'=>
   e=.returned (.slice (some ⟨w.heap.size,0,none⟩) (Lib.countB s sep+1) (Lib.countB s sep+1))∧w'=w.alloc (.cells ((Lib.splitB sep 0 (Lib.countB s sep) s).map Value.string).toArray 9):=Any.strings_Split Tryz.lays146 (by kernel_rfl) s sep m w hs hm h1
end Go.Proofs
namespace Go.Proofs.YtkcajnjledldnaaGreatDoor
open Go.RowKit Go.Lib
theorem Tryz.info5:(Tryz.prog.info? 5).map (fun i=>(i.zero,i.size,i.bytes))=some (some (.int .u8 0),1,1):=by kernel_rfl
structure Kind (f:FuncId)(K:UInt8→Bool):Prop where
 enters:∀(args:Array Value) (w:World),(callFunc f args).run Tryz.prog w=.ok (.enter f args) w
 calls:∀(c:UInt8) (w:World),Calls Tryz.prog f #[.int .u8 (c.toNat:Int)] w fun e w'=>e=.returned (.bool (K c))∧w=w'
theorem implAllOf {f:FuncId} {K:UInt8→Bool} (hK:Kind f K)(s:ByteArray)(w:World)(_hs:s.size≤1100000) :
  Calls Tryz.prog 120 #[.string s,.func (.func f) #[] #[]] w fun e w'=>e=.returned (.bool (s.data.toList.all K))∧w=w':=by
 have hE:=hK.enters
 go_enter Tryz.func120,Tryz.ntmps120
 go_wp2
 go_loopw [5,8] (fun _ i wr=>∃ k:Nat,k≤s.size∧i=.int .i64 k∧Hid ((s.data.toList.drop k).all K=s.data.toList.all K)∧wr=w) (fun _ i _=>s.size-(Lib.intOf i).toNat)
 case atStart=>exact⟨0,Nat.zero_le _,rfl,rfl,rfl⟩
 case round=>
  obtain⟨k,hk,rfl,hp,rfl⟩:=hrel
  by_cases hlt:k<s.size
  ·have h8:s[k].toNat<256:=UInt8.toNat_lt _
   have hst:=Pl.all_step K s.data.toList k (by simpa using hlt)
   rw[Pl.at_list s k hlt] at hst
   have Hst:Hid ((s.data.toList.drop k).all K=(K s[k] && (s.data.toList.drop (k+1)).all K)):=hst
   clear hst
   cases hkc:K s[k]
   ·go_wp2_with fail
    refine(hK.calls s[k] _).mono ?_
    rintro e w2 ⟨rfl,rfl⟩
    rw[hkc]
    go_wp2
    go_ret
    have:=Hst.out
    rw[hkc,Bool.false_and,hp.out] at this
    exact⟨by rw[this];rfl,rfl⟩
   ·have Hkc:Hid (K s[k]=true):=hkc
    go_wp2_with fail
    refine(hK.calls s[k] _).mono ?_
    rintro e w2 ⟨rfl,rfl⟩
    rw[hkc]
    clear hkc
    go_wp2
    go_roundw
    case rel=>
     refine⟨k+1,by omega,by go_num,?_,trivial⟩
     have:=Hst.out
     rw[Hkc.out,Bool.true_and,hp.out] at this
     exact this.symm
    case measure=>simp[Lib.intOf];omega
  ·have h0:s.data.toList.all K=true:=by rw[← hp.out];exact Pl.all_done K _ k (by simp;omega)
   have H0:Hid (s.data.toList.all K=true):=h0
   clear h0 hp
   go_wp2
   go_ret
   exact⟨by rw[H0.out];rfl,rfl⟩
theorem libClone (s:ByteArray)(w:World)(hs:s.size≤1100000) :
  Calls Tryz.prog 218 #[.string s] w fun e w'=>e=.returned (.string s)∧Below w.heap.size w w':=by
 go_enter Tryz.func218,Tryz.ntmps218
 go_wp2_with fail
 refine(Tryz.stringslite_Clone s _ (by omega)).mono ?_
 rintro e w2 ⟨rfl,hb⟩
 go_wp2
 go_ret
 exact⟨rfl,hb⟩
open Go.RowKit Go.Lib Go.Maps
def Tx (B:Nat)(w:World)(o:Option Addr)(ps:List ByteArray):Prop:=∀k (h:k<ps.length),∃ a,o=some a∧a.block<B∧w.cell? (a.add k)=some (.string ps[k])
theorem Tx.below {B:Nat} {w w':World} {o:Option Addr} {ps:List ByteArray} (h:Tx B w o ps)(hb:Below B w w'):Tx B w' o ps:=by
 intro k hk
 obtain⟨a,rfl,ha,hc⟩:=h k hk
 refine⟨a,rfl,ha,?_⟩
 rw[← hc]
 have e:(a.add k).block=a.block:=by unfold Addr.add;split<;>rfl
 exact hb.cell (by rw[e];exact ha)
theorem Tx.mono {B B':Nat} {w:World} {o:Option Addr} {ps:List ByteArray} (h:Tx B w o ps)(hB:B≤B'):Tx B' w o ps:=by
 intro k hk
 obtain⟨a,rfl,ha,hc⟩:=h k hk
 exact⟨a,rfl,by omega,hc⟩
theorem Tryz.info9:(Tryz.prog.info? 9).map (fun i=>(i.zero,i.size,i.bytes))=some (some (.string ByteArray.empty),1,16):=by kernel_rfl
def Ints (B:Nat)(w:World)(o:Option Addr)(ps:List Int):Prop:=∀k (h:k<ps.length),∃ a,o=some a∧a.block<B∧w.cell? (a.add k)=some (.int .i64 ps[k])
theorem Ints.below {B:Nat} {w w':World} {o:Option Addr} {ps:List Int} (h:Ints B w o ps)(hb:Below B w w'):Ints B w' o ps:=by
 intro k hk
 obtain⟨a,rfl,ha,hc⟩:=h k hk
 refine⟨a,rfl,ha,?_⟩
 rw[← hc]
 have e:(a.add k).block=a.block:=by unfold Addr.add;split<;>rfl
 exact hb.cell (by rw[e];exact ha)
theorem Ints.mono {B B':Nat} {w:World} {o:Option Addr} {ps:List Int} (h:Ints B w o ps)(hB:B≤B'):Ints B' w o ps:=by
 intro k hk
 obtain⟨a,rfl,ha,hc⟩:=h k hk
 exact⟨a,rfl,by omega,hc⟩
theorem Tryz.info2:(Tryz.prog.info? 2).map (fun i=>(i.zero,i.size,i.bytes))=some (some (.int .i64 0),1,8):=by kernel_rfl
theorem lawSzTextsB (o:Option Addr)(F:List ByteArray)(cap m:Nat)(w:World)(hF:Tx w.heap.size w o F)(hlen:F.length≤maxLen)(hsz:∀t ∈ F,t.size≤maxLen)(hm:m≤1048576) :
  Calls Tryz.prog 126 #[.slice o F.length cap,.int .i64 m] w fun e w'=>∃ r:Int,e=.returned (.int .i64 r)∧(r = -1∨(0≤r∧r≤m∧F.length≤1048576∧∀t ∈ F,t.size≤1048576))∧Below w.heap.size w w':=by
 have HF:Hid (Tx w.heap.size w o F):=hF
 have Hsz:Hid (∀t ∈ F,t.size≤maxLen):=hsz
 clear hF hsz
 unfold maxLen at hlen
 by_cases h0:m<F.length
 ·go_enter Tryz.func126,Tryz.ntmps126
  go_wp2
  go_ret
  exact⟨-1,rfl,.inl rfl,Below.refl _ _⟩
 ·obtain⟨r0,hr0⟩:∃r0:Nat,m-F.length=r0:=⟨_,rfl⟩
  have hr1:(m:Int)-(F.length:Int)=(r0:Int):=by omega
  go_enter Tryz.func126,Tryz.ntmps126
  clear hr0 h0
  have hr2:r0≤m:=by omega
  have hlm:F.length≤1048576:=by omega
  go_wp2
  clear hr1
  go_loopw [1,5] (fun l i wr=>∃ (k r:Nat),k≤F.length∧i=.int .i64 k∧l=.int .i64 r∧r≤r0∧Hid (∀j (h:j<F.length),j<k→F[j].size≤1048576)∧wr=w) (fun _ i _=>F.length-(Lib.intOf i).toNat)
  case atStart=>exact⟨0,r0,Nat.zero_le _,rfl,rfl,Nat.le_refl _,fun j h h0=>absurd h0 (Nat.not_lt_zero _),rfl⟩
  case round=>
   obtain⟨k,r,hk,rfl,rfl,hr,hall,rfl⟩:=hrel
   by_cases hlt:k<F.length
   ·obtain⟨a,rfl,ha,hc0⟩:=HF.out k hlt
    have hkz:=Hsz.out F[k] (List.getElem_mem hlt)
    unfold maxLen at hkz
    have Hk:Hid (F[k].size≤r→F[k].size≤1048576):=show _→_ from fun h=>by omega
    generalize hf:F[k]=f at hc0 hkz Hk
    have Hf:Hid (F[k]=f):=hf
    clear hf
    by_cases hs:r<f.size
    ·go_wp2
     go_ret
     exact⟨-1,rfl,.inl rfl,Below.refl _ _⟩
    ·obtain⟨r1,hr1⟩:∃r1:Nat,r-f.size=r1:=⟨_,rfl⟩
     have hr3:(r:Int)-(f.size:Int)=(r1:Int):=by omega
     have hr4:r1≤r:=by omega
     have Hks:Hid (f.size≤1048576):=Hk.out (by omega)
     clear hr1 Hk
     go_wp2
     go_roundw
     case rel=>
      refine⟨k+1,r1,by omega,by go_num,by first|rfl|(rw[hr3]),by omega,?_,trivial⟩
      intro j h hj
      by_cases hjk:j<k
      ·exact hall.out j h hjk
      ·have:j=k:=by omega
       subst this
       rw[Hf.out];exact Hks.out
     case measure=>simp[Lib.intOf];omega
   ·have Hall:Hid (∀t ∈ F,t.size≤1048576):=by
     intro t ht
     obtain⟨j,hj,rfl⟩:=List.getElem_of_mem ht
     exact hall.out j hj (by omega)
    go_wp2
    go_ret
    exact⟨r,rfl,.inr ⟨by omega,by omega,hlm,Hall.out⟩,Below.refl _ _⟩
theorem lawSzInts (o:Option Addr)(n cap m:Nat)(w:World)(hlen:n≤maxLen)(hm:m≤1048576) :
  Calls Tryz.prog 37 #[.slice o n cap,.int .i64 m] w fun e w'=>∃ r:Int,e=.returned (.int .i64 r)∧(r = -1∨(0≤r∧r≤m∧n≤1048576))∧Below w.heap.size w w':=by
 unfold maxLen at hlen
 by_cases h0:m<n
 ·go_enter Tryz.func37,Tryz.ntmps37
  go_wp2
  go_ret
  exact⟨-1,rfl,.inl rfl,Below.refl _ _⟩
 ·go_enter Tryz.func37,Tryz.ntmps37
  go_wp2
  go_ret
  exact⟨_,rfl,.inr ⟨by omega,by omega,by omega⟩,Below.refl _ _⟩
theorem heap_lt {w:World} {b:Nat} {o:Obj} (h:w.heap[b]?=some o):b<w.heap.size:=by
 rw[Array.getElem?_eq_some_iff] at h;exact h.1
theorem heap_alloc_old (w:World)(o:Obj)(g:Nat)(h:g<w.heap.size):(w.alloc o).heap[g]?=w.heap[g]?:=by
 show(w.heap.push o)[g]?=w.heap[g]?
 simp[Array.getElem?_push]
 omega
theorem wpL_load_row {P:Program} {w:World} {ops:Array Oper} {rest:List Oper} {o:Oper} {a:Act} {Q:Exit→Act→World→Prop} (hg:o.guard=none)(ty:TypeId)(x:Operand)(ho:o.op=.load ty x)
  (g:Nat) (cs:Array Value) (t:TypeId) (fr:Nat × Nat) (d:TypeDesc) (hx:a.eval x=.pointer (some ⟨g,0,none⟩)) (hgp:w.heap[g]?=some (.cells cs t fr))
  (hu:P.underlying ty=some d) (hd:(match d with | .struct _ | .array _ _=>true|_=>false)=true) (hi:(P.info? ty).map (·.size)=some cs.size)
  (h:wpList P ops Q rest (a.put o.dst (.agg cs)) w):wpList P ops Q (o::rest) a w:=by
 refine wpList_plain hg fun K' hK'=>?_
 unfold Oper.wp execOp
 simp only[ho,hx,Instr.loadAt,Instr.sureAddr,Sem.run_bind,Sem.run_pure,Result.andThen_ok,run_loadVar_row w g t ty cs fr d hgp hu hd hi]
 exact hK' _ _ h
theorem wpL_store_row {P:Program} {w:World} {ops:Array Oper} {rest:List Oper} {o:Oper} {a:Act} {Q:Exit→Act→World→Prop} (hg:o.guard=none)(ty:TypeId)(x y:Operand)(ho:o.op=.store ty x y)
  (g:Nat) (cells:Array Value) (hx:a.eval x=.pointer (some ⟨g,0,none⟩)) (hy:a.eval y=.agg cells)
  (t:TypeId) (old:Array Value) (hgp:w.heap[g]?=some (.cells old t (0,0))) (hi:(P.info? ty).map (·.size)=some cells.size)
  (hold:old.size=cells.size) (h1:cells.all (·.oneCell')=true)
  (h:wpList P ops Q rest (a.put o.dst undef) (w.setRow g cells)):wpList P ops Q (o::rest) a w:=by
 refine wpList_plain hg fun K' hK'=>?_
 exact wp_store_row ty x y ho g cells hx hy t old hgp hi hold h1 (hK' _ _ h)
theorem grown_setRow (w:World)(g:Nat)(cs:Array Value):w.grownBy (w.setRow g cs) (some g):=
 ⟨rfl,rfl,rfl,by simp,fun i _ hi=>setRow_other w g i cs (fun e=>hi (by rw[e]))⟩
theorem add_blockG (a:Addr)(n:Nat):(a.add n).block=a.block:=by unfold Addr.add;split<;>rfl
def Same (lo hi:Nat)(w w':World):Prop:=∀k,lo≤k→k<hi→w'.heap[k]?=w.heap[k]?
theorem Same.cell {lo hi:Nat} {w w':World} (h:Same lo hi w w') {p:Addr} (h1:lo≤p.block)(h2:p.block<hi):w'.cell? p=w.cell? p:=World.cell?_of_block (w:=w) (h p.block h1 h2)
theorem Same.of_below {lo hi B:Nat} {w w':World} (h:Below B w w')(hB:hi≤B):Same lo hi w w':=fun k _ h2=>h.block k (Nat.lt_of_lt_of_le h2 hB)
theorem Same.gr {lo hi g:Nat} {w w':World} (h:w.grownBy w' (some g))(hg:g<lo)(hh:hi≤w.heap.size):Same lo hi w w':=fun k h1 h2=>h.block k (Nat.lt_of_lt_of_le h2 hh) (by intro e;cases e;omega)
theorem grG_trans {a b c:World} {r:Option Nat} (h:a.grownBy b r)(k:b.grownBy c r):a.grownBy c r:=
 ⟨k.os.trans h.os,k.tape.trans h.tape,k.output.trans h.output,Nat.le_trans h.size k.size,fun i hi hr=>(k.block i (Nat.lt_of_lt_of_le hi h.size) hr).trans (h.block i hi hr)⟩
theorem hp_setG (w:World)(g j k:Nat)(v:Value)(h:g≠k):(w.setCell ⟨g,j,none⟩ v).heap[k]?=w.heap[k]?:=by
 simp[World.setCell,Array.getElem?_modify,h]
theorem grG_set (w:World)(g j:Nat)(v:Value):w.grownBy (w.setCell ⟨g,j,none⟩ v) (some g):=
 ⟨rfl,rfl,rfl,by simp[World.setCell],fun k _ hr=>hp_setG _ _ _ _ _ (fun e=>hr (by rw[e]))⟩
def Soft (lo:Nat)(w:World):Prop:=∀k,lo≤k→k<w.heap.size→∃cs t,w.heap[k]?=some (.cells cs t (0,0))
theorem Soft.refl (w:World):Soft w.heap.size w:=fun k h1 h2=>by omega
theorem Soft.alloc {lo:Nat} {w:World} (h:Soft lo w)(cs:Array Value)(t:TypeId):Soft lo (w.alloc (.cells cs t)):=by
 intro k h1 h2
 by_cases hk:k<w.heap.size
 ·rw[heap_alloc_old _ _ _ hk]
  exact h k h1 hk
 ·rw[World.size_alloc] at h2
  have:k=w.heap.size:=by omega
  rw[this]
  exact⟨cs,t,heap_alloc_at _ _⟩
theorem Soft.set {lo:Nat} {w:World} (h:Soft lo w)(g j:Nat)(v:Value):Soft lo (w.setCell ⟨g,j,none⟩ v):=by
 intro k h1 h2
 have h3:k<w.heap.size:=by simpa [World.setCell] using h2
 obtain⟨cs,t,e⟩:=h k h1 h3
 by_cases hg:g=k
 ·subst hg
  exact⟨_,t,by simp[World.setCell,Array.getElem?_modify,e];rfl⟩
 ·rw[hp_setG _ _ _ _ _ hg]
  exact⟨cs,t,e⟩
theorem Soft.setRow {lo:Nat} {w:World} (h:Soft lo w)(g:Nat)(cs:Array Value):Soft lo (w.setRow g cs):=by
 intro k h1 h2
 have h3:k<w.heap.size:=by simpa using h2
 obtain⟨c0,t,e⟩:=h k h1 h3
 by_cases hg:k=g
 ·subst hg
  exact⟨cs,t,setRow_heap _ _ _ _ _ _ e⟩
 ·rw[setRow_other w g k cs hg]
  exact⟨c0,t,e⟩
theorem Soft.call {lo:Nat} {w w':World} (h:Soft lo w)(hb:Below w.heap.size w w')(h':Soft w.heap.size w'):Soft lo w':=by
 intro k h1 h2
 by_cases hk:k<w.heap.size
 ·rw[hb.block k hk]
  exact h k h1 hk
 ·exact h' k (by omega) h2
theorem three_blocks {w V:World} {G:Nat} {o1 o2 o3:Obj} (hG:w.heap.size=G)(hV:V=((w.alloc o1).alloc o2).alloc o3):Below G w V∧G+3≤V.heap.size∧V.heap[G]?=some o1∧V.heap[G+1]?=some o2∧V.heap[G+1+1]?=some o3:=by
 subst hV hG
 refine⟨(((Below.refl _ _).alloc (Nat.le_refl _) _).alloc (by simp) _).alloc (by simp;omega) _,by simp,?_,?_,?_⟩
 ·rw[heap_alloc_old _ _ _ (by simp;omega),heap_alloc_old _ _ _ (by simp)]
  exact heap_alloc_at _ _
 ·rw[heap_alloc_old _ _ _ (by simp)]
  have:=heap_alloc_at (w.alloc o1) o2
  rw[World.size_alloc] at this
  exact this
 ·have:=heap_alloc_at ((w.alloc o1).alloc o2) o3
  rw[World.size_alloc,World.size_alloc] at this
  exact this
theorem two_blocks {w V:World} {o1 o2:Obj} (hV:V=(w.alloc o1).alloc o2):Below w.heap.size w V∧w.heap.size+2≤V.heap.size∧V.heap[w.heap.size]?=some o1∧V.heap[w.heap.size+1]?=some o2:=by
 subst hV
 refine⟨((Below.refl _ _).alloc (Nat.le_refl _) _).alloc (by simp) _,by simp,?_,?_⟩
 ·rw[heap_alloc_old _ _ _ (by simp)]
  exact heap_alloc_at _ _
 ·have:=heap_alloc_at (w.alloc o1) o2
  rw[World.size_alloc] at this
  exact this
def TxL (lo hi:Nat)(w:World)(o:Option Addr)(F:List ByteArray):Prop:=∀i (h:i<F.length),∃ a,o=some a∧lo≤a.block∧a.block<hi∧w.cell? (a.add i)=some (.string F[i])
def InL (lo hi:Nat)(w:World)(o:Option Addr)(F:List Int):Prop:=∀i (h:i<F.length),∃ a,o=some a∧lo≤a.block∧a.block<hi∧w.cell? (a.add i)=some (.int .i64 F[i])
theorem TxL.same {lo hi:Nat} {w w':World} {o:Option Addr} {F:List ByteArray} (h:TxL lo hi w o F)(hs:Same lo hi w w'):TxL lo hi w' o F:=by
 intro i hi
 obtain⟨a,ho,h1,h2,h3⟩:=h i hi
 exact⟨a,ho,h1,h2,(hs.cell (by rw[add_blockG];exact h1) (by rw[add_blockG];exact h2)).trans h3⟩
theorem InL.same {lo hi:Nat} {w w':World} {o:Option Addr} {F:List Int} (h:InL lo hi w o F)(hs:Same lo hi w w'):InL lo hi w' o F:=by
 intro i hi
 obtain⟨a,ho,h1,h2,h3⟩:=h i hi
 exact⟨a,ho,h1,h2,(hs.cell (by rw[add_blockG];exact h1) (by rw[add_blockG];exact h2)).trans h3⟩
theorem TxL.mono {lo lo' hi hi':Nat} {w:World} {o:Option Addr} {F:List ByteArray} (h:TxL lo hi w o F)(hl:lo'≤lo)(hh:hi≤hi'):TxL lo' hi' w o F:=by
 intro i hi
 obtain⟨a,ho,h1,h2,h3⟩:=h i hi
 exact⟨a,ho,Nat.le_trans hl h1,Nat.lt_of_lt_of_le h2 hh,h3⟩
theorem InL.mono {lo lo' hi hi':Nat} {w:World} {o:Option Addr} {F:List Int} (h:InL lo hi w o F)(hl:lo'≤lo)(hh:hi≤hi'):InL lo' hi' w o F:=by
 intro i hi
 obtain⟨a,ho,h1,h2,h3⟩:=h i hi
 exact⟨a,ho,Nat.le_trans hl h1,Nat.lt_of_lt_of_le h2 hh,h3⟩
theorem TxL.below {lo hi B:Nat} {w w':World} {o:Option Addr} {F:List ByteArray} (h:TxL lo hi w o F)(hb:Below B w w')(hB:hi≤B):TxL lo hi w' o F:=h.same (Same.of_below hb hB)
theorem InL.below {lo hi B:Nat} {w w':World} {o:Option Addr} {F:List Int} (h:InL lo hi w o F)(hb:Below B w w')(hB:hi≤B):InL lo hi w' o F:=h.same (Same.of_below hb hB)
theorem TxL.tx {lo hi:Nat} {w:World} {o:Option Addr} {F:List ByteArray} (h:TxL lo hi w o F):Tx hi w o F:=fun i hi=>let ⟨a,ho,_,h2,h3⟩:=h i hi;⟨a,ho,h2,h3⟩
theorem InL.ints {lo hi:Nat} {w:World} {o:Option Addr} {F:List Int} (h:InL lo hi w o F):Ints hi w o F:=fun i hi=>let ⟨a,ho,_,h2,h3⟩:=h i hi;⟨a,ho,h2,h3⟩
theorem lawSzSStr (o:Option Addr)(F:List ByteArray)(cap m lo:Nat)(w:World)(hF:TxL lo w.heap.size w o F)(hlen:F.length≤maxLen)(hsz:∀t ∈ F,t.size≤maxLen)(hm:m≤1048576) :
  Calls Tryz.prog 126 #[.slice o F.length cap,.int .i64 m] w fun e w'=>∃ r:Int,e=.returned (.int .i64 r)∧Hid (r = -1∨∃ m':Nat,r=m'∧m'≤m∧F.length≤1048576∧∀t ∈ F,t.size≤1048576)∧Below w.heap.size w w':=
 (lawSzTextsB o F cap m w hF.tx hlen hsz hm).mono fun e w' ⟨r,h1,h2,h3⟩=>⟨r,h1,h2.elim .inl (fun ⟨x1,x2,x3,x4⟩=>.inr ⟨r.toNat,by omega,by omega,x3,x4⟩),h3⟩
theorem lawSzSInt (o:Option Addr)(F:List Int)(cap m:Nat)(w:World)(hlen:F.length≤maxLen)(hm:m≤1048576) :
  Calls Tryz.prog 37 #[.slice o F.length cap,.int .i64 m] w fun e w'=>∃ r:Int,e=.returned (.int .i64 r)∧Hid (r = -1∨∃ m':Nat,r=m'∧m'≤m∧F.length≤1048576)∧Below w.heap.size w w':=
 (lawSzInts o F.length cap m w hlen hm).mono fun e w' ⟨r,h1,h2,h3⟩=>⟨r,h1,h2.elim .inl (fun ⟨x1,x2,x3⟩=>.inr ⟨r.toNat,by omega,by omega,x3⟩),h3⟩
theorem lawToSXStr (o:Option Addr)(F:List ByteArray)(cap lo:Nat)(w:World)(hF0:TxL lo w.heap.size w o F)(hlen:F.length≤1048576)(_hfit:∀t ∈ F,t.size≤1048576) :
  Calls Tryz.prog 134 #[.slice o F.length cap] w fun e w'=>e=.returned (.slice (some ⟨w.heap.size,0,none⟩) F.length F.length)∧Hid (TxL w.heap.size w'.heap.size w' (some ⟨w.heap.size,0,none⟩) F)∧Below w.heap.size w w'∧Hid (Soft w.heap.size w'):=by
 have hF:=hF0.tx
 clear hF0
 obtain⟨i0,hi,hy0,hy1,hy2⟩:=info_parts Tryz.info9
 have hmk:=run_make (P:=Tryz.prog) w 107 9 i0 _ Tryz.underlying107 hi hy0 .i64 .i64 F.length F.length (by omega) (Int.le_refl _) (by rw[hy2];omega) (by omega)
 simp only[Int.toNat_natCast,hy1] at hmk
 have HF:Hid (Tx w.heap.size w o F):=hF
 clear hF
 have hown0:(w.alloc (.cells (madeCells (Value.string ByteArray.empty).cells (F.length*1)) 9)).ownsRow w.heap.size 9 1 (.slice (some ⟨w.heap.size,0,none⟩) F.length F.length) F.length (madeCells (Value.string ByteArray.empty).cells (F.length*1)).toList:=
  World.ownsRow_lit w _ F.length (Nat.le_refl _) (by unfold maxLen;omega) (size_madeCells _ _)
 have Hown0:Hid (∃xs,(w.alloc (.cells (madeCells (Value.string ByteArray.empty).cells (F.length*1)) 9)).ownsRow w.heap.size 9 1 (.slice (some ⟨w.heap.size,0,none⟩) F.length F.length) F.length xs):=⟨_,hown0⟩
 clear hown0
 go_enter Tryz.func134,Tryz.ntmps134
 go_wp2
 go_loopw [4] (fun i wr=>∃ (k:Nat) (xs:List Value),k≤F.length∧i=.int .i64 k∧wr.ownsRow w.heap.size 9 1 (.slice (some ⟨w.heap.size,0,none⟩) F.length F.length) F.length xs ∧
   Hid (∀j (h:j<F.length),j<k→xs[j]?=some (.string F[j]))∧Below w.heap.size w wr∧Hid (Soft w.heap.size wr)) (fun i _=>F.length-(Lib.intOf i).toNat)
 case atStart=>
  obtain⟨xs,hx⟩:=Hown0.out
  exact⟨0,xs,Nat.zero_le _,rfl,by rw[Nat.mul_one] at hx;exact hx,fun j h h0=>absurd h0 (Nat.not_lt_zero _),(Below.refl _ _).alloc (Nat.le_refl _) _,(Soft.refl _).alloc _ _⟩
 case round=>
  clear Hown0
  obtain⟨k,xs,hk,rfl,hown,hall,hb,hSf⟩:=hrel
  by_cases hlt:k<F.length
  ·obtain⟨a,rfl,ha,hc0⟩:=(HF.out.below hb) k hlt
   generalize hf:F[k]=f at hc0
   have Hf:Hid (F[k]=f):=hf
   clear hf
   have hl:xs.length=F.length*1:=hown.1
   have d0:wr.cell? ⟨w.heap.size,k,none⟩=some (xs[k]'(by omega)):=by rw[hown.cellAt k (by omega)];exact List.getElem?_eq_getElem _
   have z0:=hown.frozenAt k
   generalize xs[k]'(by omega)=y0 at d0
   have hadd:=add_off w.heap.size k
   go_wp2
   go_roundw
   case rel=>
    refine⟨k+1,xs.set k (.string f),by omega,by go_num,(hown.stored _ _).1,?_,hb.setCell (Nat.le_refl _) _,hSf.out.set _ _ _⟩
    intro j h hj
    by_cases hjk:j<k
    ·rw[List.getElem?_set_ne (by omega)]
     exact hall.out j h hjk
    ·have:j=k:=by omega
     subst this
     rw[List.getElem?_set_self (by omega),Hf.out]
   case measure=>simp[Lib.intOf];omega
  ·go_wp2
   go_ret
   refine⟨rfl,?_,hb,hSf⟩
   intro j hj
   exact⟨_,rfl,Nat.le_refl _,(hown.lt w.heap.size rfl).2,hown.cells (g:=w.heap.size) rfl _ _ (hall.out j hj (by omega))⟩
theorem lawToSXInt (o:Option Addr)(F:List Int)(cap lo:Nat)(w:World)(hF0:InL lo w.heap.size w o F)(hlen:F.length≤1048576) :
  Calls Tryz.prog 55 #[.slice o F.length cap] w fun e w'=>e=.returned (.slice (some ⟨w.heap.size,0,none⟩) F.length F.length)∧Hid (InL w.heap.size w'.heap.size w' (some ⟨w.heap.size,0,none⟩) F)∧Below w.heap.size w w'∧Hid (Soft w.heap.size w'):=by
 have hF:=hF0.ints
 clear hF0
 obtain⟨i0,hi,hy0,hy1,hy2⟩:=info_parts Tryz.info2
 have hmk:=run_make (P:=Tryz.prog) w 27 2 i0 _ Tryz.underlying27 hi hy0 .i64 .i64 F.length F.length (by omega) (Int.le_refl _) (by rw[hy2];omega) (by omega)
 simp only[Int.toNat_natCast,hy1] at hmk
 have HF:Hid (Ints w.heap.size w o F):=hF
 clear hF
 have hown0:(w.alloc (.cells (madeCells (Value.int .i64 0).cells (F.length*1)) 2)).ownsRow w.heap.size 2 1 (.slice (some ⟨w.heap.size,0,none⟩) F.length F.length) F.length (madeCells (Value.int .i64 0).cells (F.length*1)).toList:=
  World.ownsRow_lit w _ F.length (Nat.le_refl _) (by unfold maxLen;omega) (size_madeCells _ _)
 have Hown0:Hid (∃xs,(w.alloc (.cells (madeCells (Value.int .i64 0).cells (F.length*1)) 2)).ownsRow w.heap.size 2 1 (.slice (some ⟨w.heap.size,0,none⟩) F.length F.length) F.length xs):=⟨_,hown0⟩
 clear hown0
 go_enter Tryz.func55,Tryz.ntmps55
 go_wp2
 go_loopw [4] (fun i wr=>∃ (k:Nat) (xs:List Value),k≤F.length∧i=.int .i64 k∧wr.ownsRow w.heap.size 2 1 (.slice (some ⟨w.heap.size,0,none⟩) F.length F.length) F.length xs ∧
   Hid (∀j (h:j<F.length),j<k→xs[j]?=some (.int .i64 F[j]))∧Below w.heap.size w wr∧Hid (Soft w.heap.size wr)) (fun i _=>F.length-(Lib.intOf i).toNat)
 case atStart=>
  obtain⟨xs,hx⟩:=Hown0.out
  exact⟨0,xs,Nat.zero_le _,rfl,by rw[Nat.mul_one] at hx;exact hx,fun j h h0=>absurd h0 (Nat.not_lt_zero _),(Below.refl _ _).alloc (Nat.le_refl _) _,(Soft.refl _).alloc _ _⟩
 case round=>
  clear Hown0
  obtain⟨k,xs,hk,rfl,hown,hall,hb,hSf⟩:=hrel
  by_cases hlt:k<F.length
  ·obtain⟨a,rfl,ha,hc0⟩:=(HF.out.below hb) k hlt
   generalize hf:F[k]=f at hc0
   have Hf:Hid (F[k]=f):=hf
   clear hf
   have hl:xs.length=F.length*1:=hown.1
   have d0:wr.cell? ⟨w.heap.size,k,none⟩=some (xs[k]'(by omega)):=by rw[hown.cellAt k (by omega)];exact List.getElem?_eq_getElem _
   have z0:=hown.frozenAt k
   generalize xs[k]'(by omega)=y0 at d0
   have hadd:=add_off w.heap.size k
   go_wp2
   go_roundw
   case rel=>
    refine⟨k+1,xs.set k (.int .i64 f),by omega,by go_num,(hown.stored _ _).1,?_,hb.setCell (Nat.le_refl _) _,hSf.out.set _ _ _⟩
    intro j h hj
    by_cases hjk:j<k
    ·rw[List.getElem?_set_ne (by omega)]
     exact hall.out j h hjk
    ·have:j=k:=by omega
     subst this
     rw[List.getElem?_set_self (by omega),Hf.out]
   case measure=>simp[Lib.intOf];omega
  ·go_wp2
   go_ret
   refine⟨rfl,?_,hb,hSf⟩
   intro j hj
   exact⟨_,rfl,Nat.le_refl _,(hown.lt w.heap.size rfl).2,hown.cells (g:=w.heap.size) rfl _ _ (hall.out j hj (by omega))⟩
theorem lawEqSStr (a b:Option Addr)(F:List ByteArray)(cap cap' lo lo':Nat)(w:World)(hF:TxL lo w.heap.size w a F)(hG:TxL lo' w.heap.size w b F)(hlen:F.length≤1048576) :
  Calls Tryz.prog 155 #[.slice a F.length cap,.slice b F.length cap'] w fun e w'=>e=.returned (.bool true)∧Below w.heap.size w w':=by
 have HF:=mkHid hF.tx
 have HG:=mkHid hG.tx
 clear hF hG
 go_enter Tryz.func155,Tryz.ntmps155
 go_wp2
 go_loopw [5] (fun i wr=>∃ k:Nat,k≤F.length∧i=.int .i64 k∧Below w.heap.size w wr) (fun i _=>F.length-(Lib.intOf i).toNat)
 case atStart=>exact⟨0,Nat.zero_le _,rfl,Below.refl _ _⟩
 case round=>
  obtain⟨k,hk,rfl,hb0⟩:=hrel
  by_cases hlt:k<F.length
  ·obtain⟨a',ea,ha,hc0⟩:=(HF.out.below hb0) k hlt
   obtain⟨b',eb,hb,hd0⟩:=(HG.out.below hb0) k hlt
   subst ea eb
   generalize F[k]=f at hc0 hd0
   go_wp2
   go_region
   all_goals
    go_wp2
    go_roundw
    case rel=>exact⟨k+1,by omega,by go_num,hb0.drew⟩
    case measure=>simp[Lib.intOf];omega
  ·go_wp2
   go_ret
   exact⟨rfl,hb0⟩
theorem lawEqSInt (a b:Option Addr)(F:List Int)(cap cap' lo lo':Nat)(w:World)(hF:InL lo w.heap.size w a F)(hG:InL lo' w.heap.size w b F)(hlen:F.length≤1048576) :
  Calls Tryz.prog 75 #[.slice a F.length cap,.slice b F.length cap'] w fun e w'=>e=.returned (.bool true)∧Below w.heap.size w w':=by
 have HF:=mkHid hF.ints
 have HG:=mkHid hG.ints
 clear hF hG
 go_enter Tryz.func75,Tryz.ntmps75
 go_wp2
 go_loopw [5] (fun i wr=>∃ k:Nat,k≤F.length∧i=.int .i64 k∧Below w.heap.size w wr) (fun i _=>F.length-(Lib.intOf i).toNat)
 case atStart=>exact⟨0,Nat.zero_le _,rfl,Below.refl _ _⟩
 case round=>
  obtain⟨k,hk,rfl,hb0⟩:=hrel
  by_cases hlt:k<F.length
  ·obtain⟨a',ea,ha,hc0⟩:=(HF.out.below hb0) k hlt
   obtain⟨b',eb,hb,hd0⟩:=(HG.out.below hb0) k hlt
   subst ea eb
   generalize F[k]=f at hc0 hd0
   go_wp2
   go_region
   all_goals
    go_wp2
    go_roundw
    case rel=>exact⟨k+1,by omega,by go_num,hb0.drew⟩
    case measure=>simp[Lib.intOf];omega
  ·go_wp2
   go_ret
   exact⟨rfl,hb0⟩
end Go.Proofs.YtkcajnjledldnaaGreatDoor
