/- The walks of the two CharsetName, and what the table gives them. -/
import Derived.Test.YtpnebokcddgahajRDoorRows
import Derived.Test.YtpnebokcddgahajRDoorPairs
import Derived.WalkKit
import Derived.ProofKit
import Derived.LaidMore
import Derived.Laws.Rows
import Derived.WalkSmall
import Derived.WalkLawsBesides
import Derived.WalkSpells
namespace Go.Proofs.YtpnebokcddgahajRDoor
open Go.RowKit
def tab : List (List UInt8 × Int) := [([117, 115, 45, 97, 115, 99, 105, 105], 1), ([97, 115, 99, 105, 105], 1), ([105, 115, 111, 45, 56, 56, 53, 57, 45, 49], 2), ([108, 97, 116, 105, 110, 49], 2), ([105, 115, 111, 45, 56, 56, 53, 57, 45, 49, 53], 3), ([108, 97, 116, 105, 110, 57], 3), ([117, 116, 102, 45, 56], 4), ([117, 116, 102, 56], 4), ([117, 116, 102, 45, 49, 54, 98, 101], 5)]
def arr : Array Value := #[.string ⟨#[117, 115, 45, 97, 115, 99, 105, 105]⟩, .int .i64 1, .string ⟨#[97, 115, 99, 105, 105]⟩, .int .i64 1, .string ⟨#[105, 115, 111, 45, 56, 56, 53, 57, 45, 49]⟩, .int .i64 2, .string ⟨#[108, 97, 116, 105, 110, 49]⟩, .int .i64 2, .string ⟨#[105, 115, 111, 45, 56, 56, 53, 57, 45, 49, 53]⟩, .int .i64 3, .string ⟨#[108, 97, 116, 105, 110, 57]⟩, .int .i64 3, .string ⟨#[117, 116, 102, 45, 56]⟩, .int .i64 4, .string ⟨#[117, 116, 102, 56]⟩, .int .i64 4, .string ⟨#[117, 116, 102, 45, 49, 54, 98, 101]⟩, .int .i64 5]
theorem idx0 (w : World) : (Instr.index 48 (.agg arr) (.int .i64 0)).run Tryd.prog w = .ok (.agg #[.string ⟨#[117, 115, 45, 97, 115, 99, 105, 105]⟩, .int .i64 1]) w := by kernel_rfl
theorem idx1 (w : World) : (Instr.index 48 (.agg arr) (.int .i64 1)).run Tryd.prog w = .ok (.agg #[.string ⟨#[97, 115, 99, 105, 105]⟩, .int .i64 1]) w := by kernel_rfl
theorem idx2 (w : World) : (Instr.index 48 (.agg arr) (.int .i64 2)).run Tryd.prog w = .ok (.agg #[.string ⟨#[105, 115, 111, 45, 56, 56, 53, 57, 45, 49]⟩, .int .i64 2]) w := by kernel_rfl
theorem idx3 (w : World) : (Instr.index 48 (.agg arr) (.int .i64 3)).run Tryd.prog w = .ok (.agg #[.string ⟨#[108, 97, 116, 105, 110, 49]⟩, .int .i64 2]) w := by kernel_rfl
theorem idx4 (w : World) : (Instr.index 48 (.agg arr) (.int .i64 4)).run Tryd.prog w = .ok (.agg #[.string ⟨#[105, 115, 111, 45, 56, 56, 53, 57, 45, 49, 53]⟩, .int .i64 3]) w := by kernel_rfl
theorem idx5 (w : World) : (Instr.index 48 (.agg arr) (.int .i64 5)).run Tryd.prog w = .ok (.agg #[.string ⟨#[108, 97, 116, 105, 110, 57]⟩, .int .i64 3]) w := by kernel_rfl
theorem idx6 (w : World) : (Instr.index 48 (.agg arr) (.int .i64 6)).run Tryd.prog w = .ok (.agg #[.string ⟨#[117, 116, 102, 45, 56]⟩, .int .i64 4]) w := by kernel_rfl
theorem idx7 (w : World) : (Instr.index 48 (.agg arr) (.int .i64 7)).run Tryd.prog w = .ok (.agg #[.string ⟨#[117, 116, 102, 56]⟩, .int .i64 4]) w := by kernel_rfl
theorem idx8 (w : World) : (Instr.index 48 (.agg arr) (.int .i64 8)).run Tryd.prog w = .ok (.agg #[.string ⟨#[117, 116, 102, 45, 49, 54, 98, 101]⟩, .int .i64 5]) w := by kernel_rfl
theorem gNames : Tryd.prog.globalNamed "loop.example/g00013/impl.charsetNames" = some 0 := by kernel_rfl
theorem tNames : (Tryd.prog.globals[0]?).map (·.type) = some 48 := by kernel_rfl
/-- The name of a number, from a row on. -/
def nameFrom (k : Nat) (n : Int) : List UInt8 := match (tab.drop k).find? (fun r => r.2 == n) with | some r => r.1 | none => []
theorem nameFrom_step (k : Nat) (n : Int) (h : k < tab.length) : nameFrom k n = if tab[k].2 = n then tab[k].1 else nameFrom (k + 1) n := by
  unfold nameFrom
  rw [List.drop_eq_getElem_cons h, List.find?_cons]
  by_cases e : tab[k].2 = n
  · rw [if_pos e, beq_iff_eq.2 e]
  · rw [if_neg e, beq_eq_false_iff_ne.2 e]
set_option maxHeartbeats 1000000 in
theorem implName (n : Int) (w : World) (t : TypeId) (fr : Nat × Nat) (h0 : w.heap[0]? = some (.cells arr t fr)) :
    Calls Tryd.prog 15 #[.int .i64 n] w fun e w' => e = .returned (.string ⟨(nameFrom 0 n).toArray⟩) ∧ Below w.heap.size w w' := by
  go_enter Tryd.func15, Tryd.ntmps15
  go_wp2_with (refine wpList_load_row rfl 48 _ rfl 0 rfl t arr fr _ h0 Tryd.underlying48 rfl (by kernel_rfl) ?_)
  go_loopw [6] (fun i wr => ∃ k : Nat, k ≤ 9 ∧ i = .int .i64 k ∧ Hid (nameFrom k n = nameFrom 0 n) ∧ Below w.heap.size w wr) (fun i _ => 9 - (RowKit.intOf i).toNat)
  case atStart => exact ⟨0, by omega, rfl, rfl, Below.refl _ _⟩
  case round =>
    obtain ⟨k, hk, rfl, hp, hb⟩ := hrel
    have hbs := hb.size
    by_cases hlt : k < 9
    · obtain rfl | rfl | rfl | rfl | rfl | rfl | rfl | rfl | rfl : k = 0 ∨ k = 1 ∨ k = 2 ∨ k = 3 ∨ k = 4 ∨ k = 5 ∨ k = 6 ∨ k = 7 ∨ k = 8 := by omega
      · have hst : nameFrom 0 n = if (1 : Int) = n then [117, 115, 45, 97, 115, 99, 105, 105] else nameFrom 1 n := nameFrom_step 0 n (by decide)
        have hidx := idx0 wr
        by_cases e : (1 : Int) = n
        · rw [if_pos e] at hst
          have hq : ((1 : Int) == n) = true := beq_iff_eq.2 e
          have Hr : Hid (nameFrom 0 n = [117, 115, 45, 97, 115, 99, 105, 105]) := hp.out.symm.trans hst
          clear hst e hp
          go_wp2
          go_ret
          rw [Hr.out]
          exact ⟨rfl, hb.alloc hbs _⟩
        · rw [if_neg e] at hst
          have hq : ((1 : Int) == n) = false := beq_eq_false_iff_ne.2 e
          have Hr : Hid (nameFrom 1 n = nameFrom 0 n) := hst.symm.trans hp.out
          clear hst e hp
          go_wp2
          go_roundw
          case rel => exact ⟨1, by omega, by go_num, Hr, hb.alloc hbs _⟩
          case measure => simp [RowKit.intOf]
      · have hst : nameFrom 1 n = if (1 : Int) = n then [97, 115, 99, 105, 105] else nameFrom 2 n := nameFrom_step 1 n (by decide)
        have hidx := idx1 wr
        by_cases e : (1 : Int) = n
        · rw [if_pos e] at hst
          have hq : ((1 : Int) == n) = true := beq_iff_eq.2 e
          have Hr : Hid (nameFrom 0 n = [97, 115, 99, 105, 105]) := hp.out.symm.trans hst
          clear hst e hp
          go_wp2
          go_ret
          rw [Hr.out]
          exact ⟨rfl, hb.alloc hbs _⟩
        · rw [if_neg e] at hst
          have hq : ((1 : Int) == n) = false := beq_eq_false_iff_ne.2 e
          have Hr : Hid (nameFrom 2 n = nameFrom 0 n) := hst.symm.trans hp.out
          clear hst e hp
          go_wp2
          go_roundw
          case rel => exact ⟨2, by omega, by go_num, Hr, hb.alloc hbs _⟩
          case measure => simp [RowKit.intOf]
      · have hst : nameFrom 2 n = if (2 : Int) = n then [105, 115, 111, 45, 56, 56, 53, 57, 45, 49] else nameFrom 3 n := nameFrom_step 2 n (by decide)
        have hidx := idx2 wr
        by_cases e : (2 : Int) = n
        · rw [if_pos e] at hst
          have hq : ((2 : Int) == n) = true := beq_iff_eq.2 e
          have Hr : Hid (nameFrom 0 n = [105, 115, 111, 45, 56, 56, 53, 57, 45, 49]) := hp.out.symm.trans hst
          clear hst e hp
          go_wp2
          go_ret
          rw [Hr.out]
          exact ⟨rfl, hb.alloc hbs _⟩
        · rw [if_neg e] at hst
          have hq : ((2 : Int) == n) = false := beq_eq_false_iff_ne.2 e
          have Hr : Hid (nameFrom 3 n = nameFrom 0 n) := hst.symm.trans hp.out
          clear hst e hp
          go_wp2
          go_roundw
          case rel => exact ⟨3, by omega, by go_num, Hr, hb.alloc hbs _⟩
          case measure => simp [RowKit.intOf]
      · have hst : nameFrom 3 n = if (2 : Int) = n then [108, 97, 116, 105, 110, 49] else nameFrom 4 n := nameFrom_step 3 n (by decide)
        have hidx := idx3 wr
        by_cases e : (2 : Int) = n
        · rw [if_pos e] at hst
          have hq : ((2 : Int) == n) = true := beq_iff_eq.2 e
          have Hr : Hid (nameFrom 0 n = [108, 97, 116, 105, 110, 49]) := hp.out.symm.trans hst
          clear hst e hp
          go_wp2
          go_ret
          rw [Hr.out]
          exact ⟨rfl, hb.alloc hbs _⟩
        · rw [if_neg e] at hst
          have hq : ((2 : Int) == n) = false := beq_eq_false_iff_ne.2 e
          have Hr : Hid (nameFrom 4 n = nameFrom 0 n) := hst.symm.trans hp.out
          clear hst e hp
          go_wp2
          go_roundw
          case rel => exact ⟨4, by omega, by go_num, Hr, hb.alloc hbs _⟩
          case measure => simp [RowKit.intOf]
      · have hst : nameFrom 4 n = if (3 : Int) = n then [105, 115, 111, 45, 56, 56, 53, 57, 45, 49, 53] else nameFrom 5 n := nameFrom_step 4 n (by decide)
        have hidx := idx4 wr
        by_cases e : (3 : Int) = n
        · rw [if_pos e] at hst
          have hq : ((3 : Int) == n) = true := beq_iff_eq.2 e
          have Hr : Hid (nameFrom 0 n = [105, 115, 111, 45, 56, 56, 53, 57, 45, 49, 53]) := hp.out.symm.trans hst
          clear hst e hp
          go_wp2
          go_ret
          rw [Hr.out]
          exact ⟨rfl, hb.alloc hbs _⟩
        · rw [if_neg e] at hst
          have hq : ((3 : Int) == n) = false := beq_eq_false_iff_ne.2 e
          have Hr : Hid (nameFrom 5 n = nameFrom 0 n) := hst.symm.trans hp.out
          clear hst e hp
          go_wp2
          go_roundw
          case rel => exact ⟨5, by omega, by go_num, Hr, hb.alloc hbs _⟩
          case measure => simp [RowKit.intOf]
      · have hst : nameFrom 5 n = if (3 : Int) = n then [108, 97, 116, 105, 110, 57] else nameFrom 6 n := nameFrom_step 5 n (by decide)
        have hidx := idx5 wr
        by_cases e : (3 : Int) = n
        · rw [if_pos e] at hst
          have hq : ((3 : Int) == n) = true := beq_iff_eq.2 e
          have Hr : Hid (nameFrom 0 n = [108, 97, 116, 105, 110, 57]) := hp.out.symm.trans hst
          clear hst e hp
          go_wp2
          go_ret
          rw [Hr.out]
          exact ⟨rfl, hb.alloc hbs _⟩
        · rw [if_neg e] at hst
          have hq : ((3 : Int) == n) = false := beq_eq_false_iff_ne.2 e
          have Hr : Hid (nameFrom 6 n = nameFrom 0 n) := hst.symm.trans hp.out
          clear hst e hp
          go_wp2
          go_roundw
          case rel => exact ⟨6, by omega, by go_num, Hr, hb.alloc hbs _⟩
          case measure => simp [RowKit.intOf]
      · have hst : nameFrom 6 n = if (4 : Int) = n then [117, 116, 102, 45, 56] else nameFrom 7 n := nameFrom_step 6 n (by decide)
        have hidx := idx6 wr
        by_cases e : (4 : Int) = n
        · rw [if_pos e] at hst
          have hq : ((4 : Int) == n) = true := beq_iff_eq.2 e
          have Hr : Hid (nameFrom 0 n = [117, 116, 102, 45, 56]) := hp.out.symm.trans hst
          clear hst e hp
          go_wp2
          go_ret
          rw [Hr.out]
          exact ⟨rfl, hb.alloc hbs _⟩
        · rw [if_neg e] at hst
          have hq : ((4 : Int) == n) = false := beq_eq_false_iff_ne.2 e
          have Hr : Hid (nameFrom 7 n = nameFrom 0 n) := hst.symm.trans hp.out
          clear hst e hp
          go_wp2
          go_roundw
          case rel => exact ⟨7, by omega, by go_num, Hr, hb.alloc hbs _⟩
          case measure => simp [RowKit.intOf]
      · have hst : nameFrom 7 n = if (4 : Int) = n then [117, 116, 102, 56] else nameFrom 8 n := nameFrom_step 7 n (by decide)
        have hidx := idx7 wr
        by_cases e : (4 : Int) = n
        · rw [if_pos e] at hst
          have hq : ((4 : Int) == n) = true := beq_iff_eq.2 e
          have Hr : Hid (nameFrom 0 n = [117, 116, 102, 56]) := hp.out.symm.trans hst
          clear hst e hp
          go_wp2
          go_ret
          rw [Hr.out]
          exact ⟨rfl, hb.alloc hbs _⟩
        · rw [if_neg e] at hst
          have hq : ((4 : Int) == n) = false := beq_eq_false_iff_ne.2 e
          have Hr : Hid (nameFrom 8 n = nameFrom 0 n) := hst.symm.trans hp.out
          clear hst e hp
          go_wp2
          go_roundw
          case rel => exact ⟨8, by omega, by go_num, Hr, hb.alloc hbs _⟩
          case measure => simp [RowKit.intOf]
      · have hst : nameFrom 8 n = if (5 : Int) = n then [117, 116, 102, 45, 49, 54, 98, 101] else nameFrom 9 n := nameFrom_step 8 n (by decide)
        have hidx := idx8 wr
        by_cases e : (5 : Int) = n
        · rw [if_pos e] at hst
          have hq : ((5 : Int) == n) = true := beq_iff_eq.2 e
          have Hr : Hid (nameFrom 0 n = [117, 116, 102, 45, 49, 54, 98, 101]) := hp.out.symm.trans hst
          clear hst e hp
          go_wp2
          go_ret
          rw [Hr.out]
          exact ⟨rfl, hb.alloc hbs _⟩
        · rw [if_neg e] at hst
          have hq : ((5 : Int) == n) = false := beq_eq_false_iff_ne.2 e
          have Hr : Hid (nameFrom 9 n = nameFrom 0 n) := hst.symm.trans hp.out
          clear hst e hp
          go_wp2
          go_roundw
          case rel => exact ⟨9, by omega, by go_num, Hr, hb.alloc hbs _⟩
          case measure => simp [RowKit.intOf]
    · have hk' : k = 9 := by omega
      subst hk'
      have Hr : Hid (nameFrom 0 n = []) := hp.out.symm
      clear hp
      go_wp2
      go_ret
      rw [Hr.out]
      exact ⟨rfl, hb⟩
set_option maxHeartbeats 400000 in
theorem specName (n : Int) (w : World) :
    Calls Tryd.prog 14 #[.int .i64 n] w fun e w' => e = .returned (.string ⟨(nameFrom 0 n).toArray⟩) ∧ w = w' := by
  by_cases h1 : n = 1
  · subst h1
    go_enter Tryd.func14, Tryd.ntmps14
    go_wp2
    go_ret
    exact ⟨rfl, rfl⟩
  by_cases h2 : n = 2
  · subst h2
    go_enter Tryd.func14, Tryd.ntmps14
    go_wp2
    go_ret
    exact ⟨rfl, rfl⟩
  by_cases h3 : n = 3
  · subst h3
    go_enter Tryd.func14, Tryd.ntmps14
    go_wp2
    go_ret
    exact ⟨rfl, rfl⟩
  by_cases h4 : n = 4
  · subst h4
    go_enter Tryd.func14, Tryd.ntmps14
    go_wp2
    go_ret
    exact ⟨rfl, rfl⟩
  by_cases h5 : n = 5
  · subst h5
    go_enter Tryd.func14, Tryd.ntmps14
    go_wp2
    go_ret
    exact ⟨rfl, rfl⟩
  have e : nameFrom 0 n = [] := by
    simp [nameFrom, tab, Ne.symm h1, Ne.symm h2, Ne.symm h3, Ne.symm h4, Ne.symm h5]
  have b1 : (n == 1) = false := beq_eq_false_iff_ne.2 h1
  have b2 : (n == 2) = false := beq_eq_false_iff_ne.2 h2
  have b3 : (n == 3) = false := beq_eq_false_iff_ne.2 h3
  have b4 : (n == 4) = false := beq_eq_false_iff_ne.2 h4
  have b5 : (n == 5) = false := beq_eq_false_iff_ne.2 h5
  rw [e]
  clear e h1 h2 h3 h4 h5
  go_enter Tryd.func14, Tryd.ntmps14
  go_wp2
  go_ret
  exact ⟨rfl, rfl⟩
theorem block_of_var {w : World} {cs : Array Value} (h : w.var? Tryd.prog "loop.example/g00013/impl.charsetNames" = some cs) : ∃ t fr, w.heap[0]? = some (.cells cs t fr) := by
  unfold World.var? at h
  rw [gNames] at h
  simp only [Option.bind_some] at h
  split at h
  · rename_i c t fr e
    cases h
    exact ⟨t, fr, e⟩
  · cases h
theorem names_of_laid {W : World} (h : laidMetH Tryd.prog [("loop.example/g00013/impl.charsetNames", Rows.laid_loop_example_g00013_impl_charsetNames)] W) : ∃ t fr, W.heap[0]? = some (.cells arr t fr) := by
  rw [MakeChecks.laidMetH_plain _ _ _ (by kernel_rfl)] at h
  obtain ⟨ps, ⟨g0, t0, cs0, f0, p0, q0, hg0, ht0, hv0, hd0, _, _⟩, _, _⟩ := h
  obtain rfl := Option.some.inj (gNames.symm.trans hg0)
  obtain rfl := Option.some.inj (tNames.symm.trans ht0)
  have hcs := cells_of_pairs (zs := tab) Tryd.underlying48 Tryd.underlying47 Tryd.underlying9 Tryd.underlying2 rfl rfl (by kernel_rfl) (by kernel_rfl) (by kernel_rfl) (by kernel_rfl) hd0
  obtain ⟨t, fr, hb⟩ := block_of_var hv0
  have e : cs0 = arr := Array.toList_inj.1 (hcs.trans rfl)
  rw [e] at hb
  exact ⟨t, fr, hb⟩
set_option maxHeartbeats 400000 in
theorem nameWalk (n : Int) (w : World) (t : TypeId) (fr : Nat × Nat) (h0 : w.heap[0]? = some (.cells arr t fr)) :
    Calls Tryd.prog 6 #[.int .i64 n] w fun e w' => e = .returned (.bool true) ∧ Below w.heap.size w w' := by
  go_enter Tryd.func6, Tryd.ntmps6
  go_wp2_with fail
  refine (specName n _).mono ?_
  rintro e w1 ⟨rfl, rfl⟩
  go_wp2_with fail
  refine (implName n _ t fr h0).mono ?_
  rintro e w2 ⟨rfl, hb⟩
  generalize nameFrom 0 n = x
  go_wp2
  go_ret
  exact ⟨rfl, hb⟩
end Go.Proofs.YtpnebokcddgahajRDoor
