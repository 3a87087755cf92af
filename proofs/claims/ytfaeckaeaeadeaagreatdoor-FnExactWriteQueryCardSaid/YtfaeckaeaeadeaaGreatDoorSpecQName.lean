
/- The specification's test of a query's node. (By tools/gen/queryright.py.) -/
import Derived.Test.YtfaeckaeaeadeaaGreatDoorSpecRanges
import Derived.Test.YtfaeckaeaeadeaaGreatDoorSpecFlag2
import Derived.Test.YtfaeckaeaeadeaaGreatDoorGenQueryNode
import Derived.Test.YtfaeckaeaeadeaaGreatDoorHeadTests
import Derived.Test.YtfaeckaeaeadeaaGreatDoorPhraseQuote
set_option linter.unusedVariables false
namespace Go.Proofs.YtfaeckaeaeadeaaGreatDoor
open Go.RowKit Go.Lib Go.Maps
namespace Qu
def noB (t : ByteArray) (c : UInt8) : Bool := decide (ixFrom t.data.toList c 0 < 0)
def name (t : ByteArray) : Bool := Pl.nameOk t.data.toList && (noB t 34 && (noB t 40 && noB t 41))
def emp (t : ByteArray) : Bool := t.toList == []
def parts (n : GQueryNode) (k : Int) : Bool × (Bool × (Bool × (Bool × Bool))) :=
  (if k = 2 ∨ k = 3 then St.flag n.name else if k = 4 then name n.name else emp n.name,
   if k = 4 ∨ k = 5 ∨ k = 6 then decide (n.text.size ≤ 200) else emp n.text,
   if k = 7 ∨ k = 8 ∨ k = 9 then decide (0 ≤ n.num) && decide (n.num ≤ 2932896) else if k = 10 ∨ k = 11 ∨ k = 13 then decide (0 ≤ n.num) && decide (n.num ≤ 9999999999) else (n.num == 0),
   if k = 12 then Rg.rsOk n.uids else decide (n.uids.length = 0),
   if k = 14 then decide (n.kids.length = 1) else if k = 15 then decide (n.kids.length = 2) else if k = 16 then decide (2 ≤ n.kids.length) else decide (n.kids.length = 0))
def five (p : Bool × (Bool × (Bool × (Bool × Bool)))) : Bool := p.1 && (p.2.1 && (p.2.2.1 && (p.2.2.2.1 && p.2.2.2.2)))
def right (n : GQueryNode) : Bool := if 1 ≤ n.kind ∧ n.kind ≤ 16 then five (parts n n.kind) else false
end Qu
set_option maxRecDepth 20000 in
set_option maxHeartbeats 1000000 in
theorem specQName (s : ByteArray) (w : World) (hs : s.size ≤ 1048576) : Calls Tryz.prog 63 #[.string s] w fun e w' => e = .returned (.bool (Qu.name s)) ∧ w = w' := by
  have cN := mkHid (specName s w (by omega))
  have c1 := mkHid (specIndex1 s 34 w (by omega))
  have c2 := mkHid (specIndex1 s 40 w (by omega))
  have c3 := mkHid (specIndex1 s 41 w (by omega))
  unfold Qu.name Qu.noB
  generalize Pl.nameOk s.data.toList = b0 at *
  generalize ixFrom s.data.toList 34 0 = i1 at *
  generalize ixFrom s.data.toList 40 0 = i2 at *
  generalize ixFrom s.data.toList 41 0 = i3 at *
  cases b0
  · go_enter Tryz.func63, Tryz.ntmps63
    go_wp2_with fail
    refine cN.out.mono ?_
    rintro e w1 ⟨rfl, rfl⟩
    go_wp2
    go_ret
    exact ⟨rfl, rfl⟩
  · cases h1 : decide (i1 < 0)
    · go_enter Tryz.func63, Tryz.ntmps63
      go_wp2_with fail
      refine cN.out.mono ?_
      rintro e w1 ⟨rfl, rfl⟩
      go_wp2_with fail
      refine c1.out.mono ?_
      rintro e w1 ⟨rfl, rfl⟩
      go_wp2
      go_ret
      exact ⟨rfl, rfl⟩
    · cases h2 : decide (i2 < 0)
      · go_enter Tryz.func63, Tryz.ntmps63
        go_wp2_with fail
        refine cN.out.mono ?_
        rintro e w1 ⟨rfl, rfl⟩
        go_wp2_with fail
        refine c1.out.mono ?_
        rintro e w1 ⟨rfl, rfl⟩
        go_wp2_with fail
        refine c2.out.mono ?_
        rintro e w1 ⟨rfl, rfl⟩
        go_wp2
        go_ret
        exact ⟨rfl, rfl⟩
      · go_enter Tryz.func63, Tryz.ntmps63
        go_wp2_with fail
        refine cN.out.mono ?_
        rintro e w1 ⟨rfl, rfl⟩
        go_wp2_with fail
        refine c1.out.mono ?_
        rintro e w1 ⟨rfl, rfl⟩
        go_wp2_with fail
        refine c2.out.mono ?_
        rintro e w1 ⟨rfl, rfl⟩
        go_wp2_with fail
        refine c3.out.mono ?_
        rintro e w1 ⟨rfl, rfl⟩
        go_wp2
        go_ret
        exact ⟨rfl, rfl⟩
end Go.Proofs.YtfaeckaeaeadeaaGreatDoor
