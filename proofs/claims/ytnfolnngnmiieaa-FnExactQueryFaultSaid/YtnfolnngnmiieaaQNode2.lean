
/- The program's test of a query's node: its name, its ranges, all of it. -/
import Derived.Test.YtnfolnngnmiieaaQNode
namespace Go.Proofs.Ytnfolnngnmiieaa
open Go.RowKit Go.Lib Go.Maps
set_option linter.unusedVariables false
theorem implIsFlag (s : ByteArray) (w : World) (hs : s.size ≤ 1048576) : Calls Try.prog 42 #[.string s] w fun e w' => e = .returned (.bool (St.flag s)) ∧ Below w.heap.size w w' := by
  have c1 := mkHid (implFlagFault s w hs)
  unfold plFlagFault at c1
  generalize St.flag s = b at *
  go_enter Try.func42, Try.ntmps42
  go_wp2_with fail
  refine c1.out.mono ?_
  rintro e w1 ⟨rfl, hb⟩
  cases b
  · rw [show St.code false = 1 from rfl]
    go_wp2
    go_ret
    exact ⟨rfl, hb⟩
  · rw [show St.code true = 0 from rfl]
    go_wp2
    go_ret
    exact ⟨rfl, hb⟩
theorem implQueryByte (c : UInt8) (w : World) : Calls Try.prog 51 #[.int .u8 (c.toNat : Int)] w fun e w' => e = .returned (.bool (Qu.qb c)) ∧ w = w' := by
  have h8 : c.toNat < 256 := UInt8.toNat_lt _
  unfold Qu.qb
  generalize c.toNat = k at *
  have e1 : decide (33 ≤ k) = decide ((33 : Int) ≤ (k : Int)) := by rw [Bool.eq_iff_iff]; simp; omega
  have e2 : decide (k ≤ 126) = decide ((k : Int) ≤ 126) := by rw [Bool.eq_iff_iff]; simp; omega
  have e3 : (!(k == 34)) = ((k : Int) != 34) := by rw [bne, show ((k : Int) == 34) = (k == 34) by rw [Bool.eq_iff_iff]; simp; omega]
  have e4 : (!(k == 40)) = ((k : Int) != 40) := by rw [bne, show ((k : Int) == 40) = (k == 40) by rw [Bool.eq_iff_iff]; simp; omega]
  have e5 : (!(k == 41)) = ((k : Int) != 41) := by rw [bne, show ((k : Int) == 41) = (k == 41) by rw [Bool.eq_iff_iff]; simp; omega]
  rw [e1, e2, e3, e4, e5]
  clear e1 e2 e3 e4 e5
  cases x1 : decide ((33 : Int) ≤ (k : Int))
  · go_enter Try.func51, Try.ntmps51
    go_wp2
    go_ret
    exact ⟨rfl, rfl⟩
  cases x2 : decide ((k : Int) ≤ 126)
  · go_enter Try.func51, Try.ntmps51
    go_wp2
    go_ret
    exact ⟨rfl, rfl⟩
  cases x3 : ((k : Int) != 34)
  · go_enter Try.func51, Try.ntmps51
    go_wp2
    go_ret
    exact ⟨rfl, rfl⟩
  cases x4 : ((k : Int) != 40)
  · go_enter Try.func51, Try.ntmps51
    go_wp2
    go_ret
    exact ⟨rfl, rfl⟩
  cases x5 : ((k : Int) != 41)
  · go_enter Try.func51, Try.ntmps51
    go_wp2
    go_ret
    exact ⟨rfl, rfl⟩
  · go_enter Try.func51, Try.ntmps51
    go_wp2
    go_ret
    exact ⟨rfl, rfl⟩
theorem kindQuery : Kind 51 Qu.qb := ⟨Go.Proofs.enters_of Try.func51 (by kernel_rfl) rfl, implQueryByte⟩
theorem implQueryName (s : ByteArray) (w : World) (hs : s.size ≤ 1048576) : Calls Try.prog 43 #[.string s] w fun e w' => e = .returned (.bool (Qu.name s)) ∧ w = w' := by
  have c1 := mkHid (implFieldName s w (by omega))
  have c2 := mkHid (implAllOf kindQuery s w (by omega))
  rw [Qu.name_eq]
  generalize Pl.nameOk s.data.toList = a at *
  generalize s.data.toList.all Qu.qb = b at *
  cases a
  · clear c2
    go_enter Try.func43, Try.ntmps43
    go_wp2_with fail
    refine c1.out.mono ?_
    rintro e w1 ⟨rfl, rfl⟩
    go_wp2
    go_ret
    exact ⟨rfl, rfl⟩
  · go_enter Try.func43, Try.ntmps43
    go_wp2_with fail
    refine c1.out.mono ?_
    rintro e w1 ⟨rfl, rfl⟩
    go_wp2_with fail
    refine c2.out.mono ?_
    rintro e w1 ⟨rfl, rfl⟩
    go_wp2
    go_ret
    exact ⟨rfl, rfl⟩
namespace Qu
def rName (n : GQueryNode) : Bool := if n.kind = 2 ∨ n.kind = 3 then St.flag n.name else if n.kind = 4 then name n.name else emp n.name
def rUids (n : GQueryNode) : Bool := if n.kind = 12 then Rg.rsOk n.uids else decide (n.uids.length = 0)
end Qu
set_option maxHeartbeats 1000000 in
theorem implRightName (n : GQueryNode) (v4 v5 : Value) (w : World) (hs : n.name.size ≤ 1048576) : Calls Try.prog 34 #[GQueryNodeV n v4 v5] w fun e w' => e = .returned (.bool (Qu.rName n)) ∧ Below w.heap.size w w' := by
  obtain ⟨W, hW⟩ : ∃ W, W = w.alloc (.cells #[.int .i64 n.kind, .string n.name, .string n.text, .int .i64 n.num, v4, v5] 37) := ⟨_, rfl⟩
  have hb : Below w.heap.size w W := by rw [hW]; exact (Below.refl _ _).alloc (Nat.le_refl _) _
  have c1 := mkHid (implIsFlag n.name W hs)
  have c2 := mkHid (implQueryName n.name W hs)
  have HW := mkHid hW
  have Hb := mkHid hb
  unfold GQueryNodeV Qu.rName
  clear hW hb
  generalize hk : n.kind = k at *
  generalize St.flag n.name = fl at *
  generalize Qu.name n.name = nm at *
  have he : Qu.emp n.name = (n.name.toList == []) := rfl
  rw [he]
  by_cases k2 : k = 2
  · subst k2
    rw [if_pos (.inl rfl)]
    go_enter Try.func34, Try.ntmps34
    go_wp2_with (go_at_call 42; fail)
    rw [← HW.out]
    refine c1.out.mono ?_
    rintro e w1 ⟨rfl, hb1⟩
    have hbe := mkHid (Hb.out.trans (hb1.mono Hb.out.size))
    go_wp2
    go_ret
    exact ⟨rfl, hbe.out⟩
  by_cases k3 : k = 3
  · subst k3
    rw [if_pos (.inr rfl)]
    go_enter Try.func34, Try.ntmps34
    go_wp2_with (go_at_call 42; fail)
    rw [← HW.out]
    refine c1.out.mono ?_
    rintro e w1 ⟨rfl, hb1⟩
    have hbe := mkHid (Hb.out.trans (hb1.mono Hb.out.size))
    go_wp2
    go_ret
    exact ⟨rfl, hbe.out⟩
  rw [if_neg (fun h => h.elim k2 k3)]
  by_cases k4 : k = 4
  · subst k4
    rw [if_pos rfl]
    go_enter Try.func34, Try.ntmps34
    go_wp2_with (go_at_call 43; fail)
    rw [← HW.out]
    refine c2.out.mono ?_
    rintro e w1 ⟨rfl, rfl⟩
    go_wp2
    go_ret
    exact ⟨rfl, Hb.out⟩
  rw [if_neg k4]
  have x2 : (k == 2) = false := by simpa using k2
  have x3 : (k == 3) = false := by simpa using k3
  have x4 : (k == 4) = false := by simpa using k4
  clear c1 c2 k2 k3 k4 he
  obtain ⟨eb, heb⟩ : ∃ eb, (n.name.toList == []) = eb := ⟨_, rfl⟩
  rw [heb]
  go_enter Try.func34, Try.ntmps34
  go_wp2
  go_ret
  rw [← HW.out]
  exact ⟨by rw [← heb]; rfl, Hb.out⟩
set_option maxHeartbeats 1000000 in
theorem implRightUids (n : GQueryNode) (v4 v5 : Value) (lo : Nat) (w : World) (hI : GQueryNodeIn lo w.heap.size w n v4 v5) (hf : n.fits 1048576) : Calls Try.prog 35 #[GQueryNodeV n v4 v5] w fun e w' => e = .returned (.bool (Qu.rUids n)) ∧ Below w.heap.size w w' := by
  obtain ⟨⟨a4, c4, rfl, t4⟩, -⟩ := hI
  obtain ⟨W, hW⟩ : ∃ W, W = w.alloc (.cells #[.int .i64 n.kind, .string n.name, .string n.text, .int .i64 n.num, .slice a4 n.uids.length c4, v5] 37) := ⟨_, rfl⟩
  have hb : Below w.heap.size w W := by rw [hW]; exact (Below.refl _ _).alloc (Nat.le_refl _) _
  have c1 := mkHid (implAreRanges a4 n.uids c4 lo W ((t4.below hb (Nat.le_refl _)).mono (Nat.le_refl _) hb.size) hf.2.2.1)
  have hl := hf.2.2.1
  have HW := mkHid hW
  have Hb := mkHid hb
  unfold GQueryNodeV Qu.rUids
  clear hW hb t4 hf
  generalize hk : n.kind = k at *
  generalize Rg.rsOk n.uids = rs at *
  by_cases k2 : k = 12
  · subst k2
    rw [if_pos rfl]
    go_enter Try.func35, Try.ntmps35
    go_wp2_with (go_at_call 44; fail)
    rw [← HW.out]
    refine c1.out.mono ?_
    rintro e w1 ⟨rfl, hb1⟩
    have hbe := mkHid (Hb.out.trans (hb1.mono Hb.out.size))
    go_wp2
    go_ret
    exact ⟨rfl, hbe.out⟩
  rw [if_neg k2]
  have x2 : (k == 12) = false := by simpa using k2
  clear c1 k2
  have e1 : decide (n.uids.length = 0) = ((n.uids.length : Int) == 0) := by rw [Bool.eq_iff_iff]; simp
  rw [e1]
  obtain ⟨eb, heb⟩ : ∃ eb, ((n.uids.length : Int) == 0) = eb := ⟨_, rfl⟩
  rw [heb]
  go_enter Try.func35, Try.ntmps35
  go_wp2
  go_ret
  rw [← HW.out]
  exact ⟨by rw [← heb]; rfl, Hb.out⟩
end Go.Proofs.Ytnfolnngnmiieaa
