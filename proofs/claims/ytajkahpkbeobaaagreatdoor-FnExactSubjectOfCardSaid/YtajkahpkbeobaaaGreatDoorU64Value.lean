
/- Underscores as blanks: what the library's ReplaceAll makes. -/

/- A table of rows of a text and a number, as it lies in memory: of no program. -/

/- The walks of the two CharsetName, and what the table gives them. -/

/- The walks of the two CharsetOf. -/

/- Plain mathematics of taking base 64: lists of bytes alone; no program. -/

/- The walks of a digit and its value in the model; the room for an answer. -/
import Derived.Test.YtajkahpkbeobaaaGreatDoorWdPlain
import Derived.Lib.Replace
import Derived.OpenShut
import Derived.LaidLaws
import Derived.ChangeArms
import Derived.ChangeSame
import Derived.Test.YtajkahpkbeobaaaGreatDoorRows
import Derived.WalkKit
import Derived.ProofKit
import Derived.LaidMore
import Derived.Laws.Rows
import Derived.WalkSmall
import Derived.WalkLawsBesides
import Derived.WalkSpells
import Derived.Test.YtajkahpkbeobaaaGreatDoorSubjFind
import Derived.Laws.Strings
namespace Go.Proofs.YtajkahpkbeobaaaGreatDoor
open Go.Lib
namespace Pw
set_option maxRecDepth 20000 in
theorem index_no : ∀ l : List UInt8, (95 : UInt8) ∉ l → index l [95] = -1
  | [], _ => rfl
  | b :: l, h => by
    have hb : ¬ b = 95 := fun e => h (by rw [e]; exact List.mem_cons_self)
    have hl := index_no l (fun e => h (List.mem_cons_of_mem _ e))
    have hp : List.isPrefixOf [95] (b :: l) = false := by simp [List.isPrefixOf, Ne.symm hb]
    rw [index, hp, hl]
    rfl
set_option maxRecDepth 20000 in
theorem index_at : ∀ (p r : List UInt8), (95 : UInt8) ∉ p → index (p ++ 95 :: r) [95] = (p.length : Int)
  | [], r, _ => by
    rw [List.nil_append, index, if_pos (by simp [List.isPrefixOf])]
    rfl
  | b :: p, r, h => by
    have hb : ¬ b = 95 := fun e => h (by rw [e]; exact List.mem_cons_self)
    have hl := index_at p r (fun e => h (List.mem_cons_of_mem _ e))
    have hp : List.isPrefixOf [95] (b :: (p ++ 95 :: r)) = false := by simp [List.isPrefixOf, Ne.symm hb]
    rw [List.cons_append, index, hp, hl, if_neg (by simp), if_neg (by rw [beq_iff_eq]; omega)]
    simp
set_option maxRecDepth 20000 in
theorem und_none (l : List UInt8) (h : (95 : UInt8) ∉ l) : l.map und = l := by
  have : l.map und = l.map id := List.map_congr_left fun c hc => und_eq c (fun e => h (by rw [← e]; exact hc))
  rw [this, List.map_id]
set_option maxRecDepth 20000 in
theorem repK : ∀ (k : Nat) (l : List UInt8), l.count 95 ≤ k → replaceK [95] [32] k l = l.map und
  | 0, l, h => by
    rw [und_none l (List.count_eq_zero.1 (by omega))]
    rfl
  | k + 1, l, h => by
    by_cases hm : (95 : UInt8) ∈ l
    · obtain ⟨p, r, rfl, hp⟩ := List.eq_append_cons_of_mem hm
      rw [replaceK_hit [95] [32] k _ p.length (index_at p r hp)]
      have hc : r.count 95 ≤ k := by
        rw [List.count_append, List.count_cons_self] at h
        omega
      have e1 : (p ++ 95 :: r).take p.length = p := List.take_left
      have e2 : (p ++ 95 :: r).drop (p.length + [(95 : UInt8)].length) = r := by
        rw [show p ++ 95 :: r = (p ++ [95]) ++ r by simp, show p.length + [(95 : UInt8)].length = (p ++ [95]).length by simp]
        exact List.drop_left
      rw [e1, e2, repK k r hc, List.map_append, List.map_cons, und_none p hp]
      simp [und]
    · rw [replaceK, index_no l hm, und_none l hm]
      rfl
set_option maxRecDepth 20000 in
theorem replace_und (l : List UInt8) : replaceAll l [95] [32] = l.map und := by
  have e : replaceAll l [95] [32] = replaceK [95] [32] (count l [95]) l := by
    unfold replaceAll replace replaceNum
    rw [if_neg (by decide), if_pos (.inl (by decide))]
  rw [e, count_one]
  exact repK _ l (Nat.le_refl _)
end Pw
end Go.Proofs.YtajkahpkbeobaaaGreatDoor
namespace Go.Proofs.YtajkahpkbeobaaaGreatDoor
open Go.ChangeShapes

def pairData {H : Type} (k : IntKind) (zs : List (List UInt8 × Int)) : DataW H := .agg (zs.map fun z => .agg [.lit (.string z.1), .lit (.int k z.2)])
def pairCell (k : IntKind) (z : List UInt8 × Int) : List Value := [.string ⟨z.1.toArray⟩, .int k z.2]

set_option maxRecDepth 20000 in
theorem cells_join (k : IntKind) : ∀ (zs : List (List UInt8 × Int)) (cs : List Value), cs.length = zs.length * 2 → (∀ (i : Nat) (hi : i < zs.length), (cs.drop (i * 2)).take 2 = pairCell k zs[i]) → cs = zs.flatMap (pairCell k) := by
  intro zs
  induction zs with
  | nil => intro cs h _; exact List.length_eq_zero_iff.1 (by simpa using h)
  | cons z r ih =>
    intro cs h hz
    have h0 := hz 0 (by simp)
    have e := ih (cs.drop 2) (by simp at h ⊢; omega) (fun i hi => by
      have := hz (i + 1) (by simpa using hi)
      rw [show (i + 1) * 2 = 2 + i * 2 by omega, ← List.drop_drop] at this
      simpa using this)
    rw [List.flatMap_cons, ← e]
    simp only [Nat.zero_mul, List.drop_zero, List.getElem_cons_zero] at h0
    rw [← h0, List.take_append_drop]

set_option maxRecDepth 20000 in
theorem cells_of_pairs {H : Type} {enc : TypeId × Value → H} {P : Program} {w : World} {base : Nat} {sp : Nat → Bool} {held : Bool} {fuel : Nat} {t e : TypeId} {n : Nat} {k : IntKind} {f0 f1 : Field} {cs : List Value} {zs : List (List UInt8 × Int)} {p : List MemPlace}
    (ht : P.underlying t = some (.array n e)) (he : P.underlying e = some (.struct #[f0, f1])) (h0 : P.underlying f0.type = some .string) (h1 : P.underlying f1.type = some (.int k))
    (o0 : f0.offset = 0) (o1 : f1.offset = 1) (c0 : P.cellsOf f0.type = 1) (c1 : P.cellsOf f1.type = 1) (ce : P.cellsOf e = 2) (ct : P.cellsOf t = zs.length * 2)
    (h : DataW.trod enc P w base sp held fuel t cs = some (pairData k zs, p)) : cs = zs.flatMap (pairCell k) := by
  obtain ⟨xs, m, rfl, hx, hl, hn, hel⟩ := DataW.trod_array ht h
  have hx1 : zs.map (fun z => (DataW.agg [.lit (.string z.1), .lit (.int k z.2)] : DataW H)) = xs.map (·.1) := by
    have := congrArg Prod.fst hx
    simpa [pairData] using this
  have hxl : xs.length = zs.length := by
    have := congrArg List.length hx1
    simpa using this.symm
  refine cells_join k zs cs (by omega) fun i hi => ?_
  have hi' := hel i (by omega)
  rw [ce] at hi'
  rw [List.getElem?_eq_getElem (by omega)] at hi'
  obtain ⟨y0, y1, n', hy, hl', e0, e1⟩ := trod_struct2 he hi'
  rw [o0, c0] at e0
  rw [o1, c1] at e1
  obtain ⟨s, es, rfl, _⟩ := DataW.trod_string h0 e0
  obtain ⟨z, ez, rfl, _⟩ := DataW.trod_int h1 e1
  have hxi : (xs.map (·.1))[i]? = some (DataW.agg [.lit (.string zs[i].1), .lit (.int k zs[i].2)] : DataW H) := by
    rw [← hx1]
    simp [hi]
  rw [List.getElem?_map, List.getElem?_eq_getElem (by omega), hy] at hxi
  simp only [Option.map_some, Option.some.injEq, DataW.agg.injEq, List.cons.injEq, DataW.lit.injEq, Lit.string.injEq, Lit.int.injEq, true_and, and_true] at hxi
  obtain ⟨hs, rfl⟩ := hxi
  have hlen : ((cs.drop (i * 2)).take 2).length = 2 := by rw [hl', ce]
  generalize (cs.drop (i * 2)).take 2 = l at *
  match l, hlen with
  | [a, b], _ =>
    simp at es ez
    subst es ez
    have : s = ⟨zs[i].1.toArray⟩ := by
      apply ByteArray.ext
      apply Array.toList_inj.1
      rw [hs]
    rw [this]
    rfl
end Go.Proofs.YtajkahpkbeobaaaGreatDoor
namespace Go.Proofs.YtajkahpkbeobaaaGreatDoor
open Go.RowKit
def tab : List (List UInt8 × Int) := [([117, 115, 45, 97, 115, 99, 105, 105], 1), ([97, 115, 99, 105, 105], 1), ([105, 115, 111, 45, 56, 56, 53, 57, 45, 49], 2), ([108, 97, 116, 105, 110, 49], 2), ([105, 115, 111, 45, 56, 56, 53, 57, 45, 49, 53], 3), ([108, 97, 116, 105, 110, 57], 3), ([117, 116, 102, 45, 56], 4), ([117, 116, 102, 56], 4), ([117, 116, 102, 45, 49, 54, 98, 101], 5)]
def arr : Array Value := #[.string ⟨#[117, 115, 45, 97, 115, 99, 105, 105]⟩, .int .i64 1, .string ⟨#[97, 115, 99, 105, 105]⟩, .int .i64 1, .string ⟨#[105, 115, 111, 45, 56, 56, 53, 57, 45, 49]⟩, .int .i64 2, .string ⟨#[108, 97, 116, 105, 110, 49]⟩, .int .i64 2, .string ⟨#[105, 115, 111, 45, 56, 56, 53, 57, 45, 49, 53]⟩, .int .i64 3, .string ⟨#[108, 97, 116, 105, 110, 57]⟩, .int .i64 3, .string ⟨#[117, 116, 102, 45, 56]⟩, .int .i64 4, .string ⟨#[117, 116, 102, 56]⟩, .int .i64 4, .string ⟨#[117, 116, 102, 45, 49, 54, 98, 101]⟩, .int .i64 5]
set_option maxRecDepth 20000 in
theorem idx0 (w : World) : (Instr.index 129 (.agg arr) (.int .i64 0)).run Tryz.prog w = .ok (.agg #[.string ⟨#[117, 115, 45, 97, 115, 99, 105, 105]⟩, .int .i64 1]) w := by kernel_rfl
set_option maxRecDepth 20000 in
theorem idx1 (w : World) : (Instr.index 129 (.agg arr) (.int .i64 1)).run Tryz.prog w = .ok (.agg #[.string ⟨#[97, 115, 99, 105, 105]⟩, .int .i64 1]) w := by kernel_rfl
set_option maxRecDepth 20000 in
theorem idx2 (w : World) : (Instr.index 129 (.agg arr) (.int .i64 2)).run Tryz.prog w = .ok (.agg #[.string ⟨#[105, 115, 111, 45, 56, 56, 53, 57, 45, 49]⟩, .int .i64 2]) w := by kernel_rfl
set_option maxRecDepth 20000 in
theorem idx3 (w : World) : (Instr.index 129 (.agg arr) (.int .i64 3)).run Tryz.prog w = .ok (.agg #[.string ⟨#[108, 97, 116, 105, 110, 49]⟩, .int .i64 2]) w := by kernel_rfl
set_option maxRecDepth 20000 in
theorem idx4 (w : World) : (Instr.index 129 (.agg arr) (.int .i64 4)).run Tryz.prog w = .ok (.agg #[.string ⟨#[105, 115, 111, 45, 56, 56, 53, 57, 45, 49, 53]⟩, .int .i64 3]) w := by kernel_rfl
set_option maxRecDepth 20000 in
theorem idx5 (w : World) : (Instr.index 129 (.agg arr) (.int .i64 5)).run Tryz.prog w = .ok (.agg #[.string ⟨#[108, 97, 116, 105, 110, 57]⟩, .int .i64 3]) w := by kernel_rfl
set_option maxRecDepth 20000 in
theorem idx6 (w : World) : (Instr.index 129 (.agg arr) (.int .i64 6)).run Tryz.prog w = .ok (.agg #[.string ⟨#[117, 116, 102, 45, 56]⟩, .int .i64 4]) w := by kernel_rfl
set_option maxRecDepth 20000 in
theorem idx7 (w : World) : (Instr.index 129 (.agg arr) (.int .i64 7)).run Tryz.prog w = .ok (.agg #[.string ⟨#[117, 116, 102, 56]⟩, .int .i64 4]) w := by kernel_rfl
set_option maxRecDepth 20000 in
theorem idx8 (w : World) : (Instr.index 129 (.agg arr) (.int .i64 8)).run Tryz.prog w = .ok (.agg #[.string ⟨#[117, 116, 102, 45, 49, 54, 98, 101]⟩, .int .i64 5]) w := by kernel_rfl
set_option maxRecDepth 20000 in
theorem gNames : Tryz.prog.globalNamed "loop.example/g00013/impl.charsetNames" = some 0 := by kernel_rfl
set_option maxRecDepth 20000 in
theorem tNames : (Tryz.prog.globals[0]?).map (·.type) = some 129 := by kernel_rfl
/-- The name of a number, from a row on. -/
def nameFrom (k : Nat) (n : Int) : List UInt8 := match (tab.drop k).find? (fun r => r.2 == n) with | some r => r.1 | none => []
set_option maxRecDepth 20000 in
theorem nameFrom_step (k : Nat) (n : Int) (h : k < tab.length) : nameFrom k n = if tab[k].2 = n then tab[k].1 else nameFrom (k + 1) n := by
  unfold nameFrom
  rw [List.drop_eq_getElem_cons h, List.find?_cons]
  by_cases e : tab[k].2 = n
  · rw [if_pos e, beq_iff_eq.2 e]
  · rw [if_neg e, beq_eq_false_iff_ne.2 e]
set_option maxRecDepth 20000 in
set_option maxHeartbeats 400000 in
theorem specCharName (n : Int) (w : World) :
    Calls Tryz.prog 31 #[.int .i64 n] w fun e w' => e = .returned (.string ⟨(nameFrom 0 n).toArray⟩) ∧ w = w' := by
  by_cases h1 : n = 1
  · subst h1
    go_enter Tryz.func31, Tryz.ntmps31
    go_wp2
    go_ret
    exact ⟨rfl, rfl⟩
  by_cases h2 : n = 2
  · subst h2
    go_enter Tryz.func31, Tryz.ntmps31
    go_wp2
    go_ret
    exact ⟨rfl, rfl⟩
  by_cases h3 : n = 3
  · subst h3
    go_enter Tryz.func31, Tryz.ntmps31
    go_wp2
    go_ret
    exact ⟨rfl, rfl⟩
  by_cases h4 : n = 4
  · subst h4
    go_enter Tryz.func31, Tryz.ntmps31
    go_wp2
    go_ret
    exact ⟨rfl, rfl⟩
  by_cases h5 : n = 5
  · subst h5
    go_enter Tryz.func31, Tryz.ntmps31
    go_wp2
    go_ret
    exact ⟨rfl, rfl⟩
  have e : nameFrom 0 n = [] := by
    simp [nameFrom, tab, Ne.symm h1, Ne.symm h2, Ne.symm h3, Ne.symm h4, Ne.symm h5]
  have b1 : (n == 1) = false := beq_eq_false_iff_ne.2 h1
  have b2 : (n == 2) = false := beq_eq_false_iff_ne.2 h2
  have b3 : (n == 3) = false := beq_eq_false_iff_ne.2 h3
  have b4 : (n == 4) = false := beq_eq_false_iff_ne.2 h4
  have b5 : (n == 5) = false := beq_eq_false_iff_ne.2 h5
  rw [e]
  clear e h1 h2 h3 h4 h5
  go_enter Tryz.func31, Tryz.ntmps31
  go_wp2
  go_ret
  exact ⟨rfl, rfl⟩
set_option maxRecDepth 20000 in
theorem block_of_var {w : World} {cs : Array Value} (h : w.var? Tryz.prog "loop.example/g00013/impl.charsetNames" = some cs) : ∃ t fr, w.heap[0]? = some (.cells cs t fr) := by
  unfold World.var? at h
  rw [gNames] at h
  simp only [Option.bind_some] at h
  split at h
  · rename_i c t fr e
    cases h
    exact ⟨t, fr, e⟩
  · cases h
set_option maxRecDepth 20000 in
theorem names_of_laid {W : World} (h : laidMetH Tryz.prog [("loop.example/g00013/impl.charsetNames", Rows.laid_loop_example_g00013_impl_charsetNames)] W) : ∃ t fr, W.heap[0]? = some (.cells arr t fr) := by
  rw [MakeChecks.laidMetH_plain _ _ _ (by kernel_rfl)] at h
  obtain ⟨ps, ⟨g0, t0, cs0, f0, p0, q0, hg0, ht0, hv0, hd0, _, _⟩, _, _⟩ := h
  obtain rfl := Option.some.inj (gNames.symm.trans hg0)
  obtain rfl := Option.some.inj (tNames.symm.trans ht0)
  have hcs := cells_of_pairs (zs := tab) Tryz.underlying129 Tryz.underlying128 Tryz.underlying9 Tryz.underlying2 rfl rfl (by kernel_rfl) (by kernel_rfl) (by kernel_rfl) (by kernel_rfl) hd0
  obtain ⟨t, fr, hb⟩ := block_of_var hv0
  have e : cs0 = arr := Array.toList_inj.1 (hcs.trans rfl)
  rw [e] at hb
  exact ⟨t, fr, hb⟩
end Go.Proofs.YtajkahpkbeobaaaGreatDoor
namespace Go.Proofs.YtajkahpkbeobaaaGreatDoor
open Go.RowKit
/-- The number of a name, from a row on. -/
def setFrom (k : Nat) (x : List UInt8) : Int := match (tab.drop k).find? (fun r => r.1 == x) with | some r => r.2 | none => 0
set_option maxRecDepth 20000 in
theorem setFrom_step (k : Nat) (x : List UInt8) (h : k < tab.length) : setFrom k x = if tab[k].1 = x then tab[k].2 else setFrom (k + 1) x := by
  unfold setFrom
  rw [List.drop_eq_getElem_cons h, List.find?_cons]
  by_cases e : tab[k].1 = x
  · rw [if_pos e, beq_iff_eq.2 e]
  · rw [if_neg e, beq_eq_false_iff_ne.2 e]
set_option maxRecDepth 20000 in
theorem setFrom_long (x : List UInt8) (h : 20 < x.length) : setFrom 0 x = 0 := by
  have e : (tab.drop 0).find? (fun r => r.1 == x) = none := by
    rw [List.find?_eq_none]
    intro r hr e
    have e := beq_iff_eq.1 e
    have hall : ∀ r ∈ tab, r.1.length ≤ 20 := by decide
    have := hall r hr
    rw [e] at this
    omega
  unfold setFrom
  rw [e]
set_option maxRecDepth 20000 in
set_option maxHeartbeats 1000000 in
theorem specOf (s : ByteArray) (w : World) (hs : s.size ≤ 1048576) :
    Calls Tryz.prog 58 #[.string s] w fun e w' => e = .returned (.int .i64 (setFrom 0 (lower s.data.toList))) ∧ Below w.heap.size w w' := by
  by_cases h20 : 20 < s.size
  · rw [setFrom_long _ (by simpa [lower] using h20)]
    go_enter Tryz.func58, Tryz.ntmps58
    go_wp2
    go_ret
    exact ⟨rfl, Below.refl _ _⟩
  have hlw := mkH (specLower s w (by omega))
  generalize lower s.data.toList = x at *
  go_enter Tryz.func58, Tryz.ntmps58
  go_wp2_with fail
  refine hlw.out.mono ?_
  rintro e w1 ⟨rfl, hb⟩
  by_cases n0 : x = [117, 115, 45, 97, 115, 99, 105, 105]
  · subst n0
    go_wp2
    go_ret
    exact ⟨rfl, hb⟩
  by_cases n1 : x = [97, 115, 99, 105, 105]
  · subst n1
    go_wp2
    go_ret
    exact ⟨rfl, hb⟩
  by_cases n2 : x = [105, 115, 111, 45, 56, 56, 53, 57, 45, 49]
  · subst n2
    go_wp2
    go_ret
    exact ⟨rfl, hb⟩
  by_cases n3 : x = [108, 97, 116, 105, 110, 49]
  · subst n3
    go_wp2
    go_ret
    exact ⟨rfl, hb⟩
  by_cases n4 : x = [105, 115, 111, 45, 56, 56, 53, 57, 45, 49, 53]
  · subst n4
    go_wp2
    go_ret
    exact ⟨rfl, hb⟩
  by_cases n5 : x = [108, 97, 116, 105, 110, 57]
  · subst n5
    go_wp2
    go_ret
    exact ⟨rfl, hb⟩
  by_cases n6 : x = [117, 116, 102, 45, 56]
  · subst n6
    go_wp2
    go_ret
    exact ⟨rfl, hb⟩
  by_cases n7 : x = [117, 116, 102, 56]
  · subst n7
    go_wp2
    go_ret
    exact ⟨rfl, hb⟩
  by_cases n8 : x = [117, 116, 102, 45, 49, 54, 98, 101]
  · subst n8
    go_wp2
    go_ret
    exact ⟨rfl, hb⟩
  have q0 : (x == [117, 115, 45, 97, 115, 99, 105, 105]) = false := beq_eq_false_iff_ne.2 n0
  have q1 : (x == [97, 115, 99, 105, 105]) = false := beq_eq_false_iff_ne.2 n1
  have q2 : (x == [105, 115, 111, 45, 56, 56, 53, 57, 45, 49]) = false := beq_eq_false_iff_ne.2 n2
  have q3 : (x == [108, 97, 116, 105, 110, 49]) = false := beq_eq_false_iff_ne.2 n3
  have q4 : (x == [105, 115, 111, 45, 56, 56, 53, 57, 45, 49, 53]) = false := beq_eq_false_iff_ne.2 n4
  have q5 : (x == [108, 97, 116, 105, 110, 57]) = false := beq_eq_false_iff_ne.2 n5
  have q6 : (x == [117, 116, 102, 45, 56]) = false := beq_eq_false_iff_ne.2 n6
  have q7 : (x == [117, 116, 102, 56]) = false := beq_eq_false_iff_ne.2 n7
  have q8 : (x == [117, 116, 102, 45, 49, 54, 98, 101]) = false := beq_eq_false_iff_ne.2 n8
  have e : setFrom 0 x = 0 := by
    simp [setFrom, tab, Ne.symm n0, Ne.symm n1, Ne.symm n2, Ne.symm n3, Ne.symm n4, Ne.symm n5, Ne.symm n6, Ne.symm n7, Ne.symm n8]
  have He := mkH e
  clear e n0 n1 n2 n3 n4 n5 n6 n7 n8
  go_wp2
  go_ret
  rw [He.out]
  exact ⟨rfl, hb⟩
set_option maxRecDepth 20000 in
set_option maxHeartbeats 1000000 in
theorem implOf (s : ByteArray) (w : World) (hs : s.size ≤ 1048576) (t : TypeId) (fr : Nat × Nat) (h0 : w.heap[0]? = some (.cells arr t fr)) (hz : 0 < w.heap.size) :
    Calls Tryz.prog 72 #[.string s] w fun e w' => e = .returned (.int .i64 (setFrom 0 (lower s.data.toList))) ∧ Below w.heap.size w w' := by
  by_cases hlong : 100000 < s.size
  · rw [setFrom_long _ (by simp [lower]; omega)]
    go_enter Tryz.func72, Tryz.ntmps72
    go_wp2
    go_ret
    exact ⟨rfl, Below.refl _ _⟩
  have hlw := mkH (implLowered s w (by omega))
  generalize lower s.data.toList = x at *
  have hc0 : decide ((100000 : Int) < (s.size : Int)) = false := by simp; omega
  go_enter Tryz.func72, Tryz.ntmps72
  go_wp2_with (first | (go_at_call 35; go_in) | fail)
  refine hlw.out.mono ?_
  rintro e w1 ⟨rfl, hb1⟩
  have h01 : w1.heap[0]? = some (.cells arr t fr) := (hb1.block 0 hz).trans h0
  clear h0
  go_wp2_with (refine wpList_load_row rfl 129 _ rfl 0 rfl t arr fr _ h01 Tryz.underlying129 rfl (by kernel_rfl) ?_)
  clear h01
  go_loopw [10] (fun i wr => ∃ k : Nat, k ≤ 9 ∧ i = .int .i64 k ∧ Hid (setFrom k x = setFrom 0 x) ∧ Below w.heap.size w wr) (fun i _ => 9 - (RowKit.intOf i).toNat)
  case atStart => exact ⟨0, by omega, rfl, rfl, hb1⟩
  case round =>
    obtain ⟨k, hk, rfl, hp, hb⟩ := hrel
    have hbs := hb.size
    by_cases hlt : k < 9
    · obtain rfl | rfl | rfl | rfl | rfl | rfl | rfl | rfl | rfl : k = 0 ∨ k = 1 ∨ k = 2 ∨ k = 3 ∨ k = 4 ∨ k = 5 ∨ k = 6 ∨ k = 7 ∨ k = 8 := by omega
      · have hst : setFrom 0 x = if [117, 115, 45, 97, 115, 99, 105, 105] = x then (1 : Int) else setFrom 1 x := setFrom_step 0 x (by decide)
        have hidx := idx0 wr
        by_cases e : [117, 115, 45, 97, 115, 99, 105, 105] = x
        · rw [if_pos e] at hst
          have hq : ([117, 115, 45, 97, 115, 99, 105, 105] == x) = true := beq_iff_eq.2 e
          have Hr : Hid (setFrom 0 x = 1) := hp.out.symm.trans hst
          clear hst e hp
          go_wp2
          go_ret
          rw [Hr.out]
          exact ⟨rfl, hb.alloc hbs _⟩
        · rw [if_neg e] at hst
          have hq : ([117, 115, 45, 97, 115, 99, 105, 105] == x) = false := beq_eq_false_iff_ne.2 e
          have Hr : Hid (setFrom 1 x = setFrom 0 x) := hst.symm.trans hp.out
          clear hst e hp
          go_wp2
          go_roundw
          case rel => exact ⟨1, by omega, by go_num, Hr, hb.alloc hbs _⟩
          case measure => simp [RowKit.intOf]
      · have hst : setFrom 1 x = if [97, 115, 99, 105, 105] = x then (1 : Int) else setFrom 2 x := setFrom_step 1 x (by decide)
        have hidx := idx1 wr
        by_cases e : [97, 115, 99, 105, 105] = x
        · rw [if_pos e] at hst
          have hq : ([97, 115, 99, 105, 105] == x) = true := beq_iff_eq.2 e
          have Hr : Hid (setFrom 0 x = 1) := hp.out.symm.trans hst
          clear hst e hp
          go_wp2
          go_ret
          rw [Hr.out]
          exact ⟨rfl, hb.alloc hbs _⟩
        · rw [if_neg e] at hst
          have hq : ([97, 115, 99, 105, 105] == x) = false := beq_eq_false_iff_ne.2 e
          have Hr : Hid (setFrom 2 x = setFrom 0 x) := hst.symm.trans hp.out
          clear hst e hp
          go_wp2
          go_roundw
          case rel => exact ⟨2, by omega, by go_num, Hr, hb.alloc hbs _⟩
          case measure => simp [RowKit.intOf]
      · have hst : setFrom 2 x = if [105, 115, 111, 45, 56, 56, 53, 57, 45, 49] = x then (2 : Int) else setFrom 3 x := setFrom_step 2 x (by decide)
        have hidx := idx2 wr
        by_cases e : [105, 115, 111, 45, 56, 56, 53, 57, 45, 49] = x
        · rw [if_pos e] at hst
          have hq : ([105, 115, 111, 45, 56, 56, 53, 57, 45, 49] == x) = true := beq_iff_eq.2 e
          have Hr : Hid (setFrom 0 x = 2) := hp.out.symm.trans hst
          clear hst e hp
          go_wp2
          go_ret
          rw [Hr.out]
          exact ⟨rfl, hb.alloc hbs _⟩
        · rw [if_neg e] at hst
          have hq : ([105, 115, 111, 45, 56, 56, 53, 57, 45, 49] == x) = false := beq_eq_false_iff_ne.2 e
          have Hr : Hid (setFrom 3 x = setFrom 0 x) := hst.symm.trans hp.out
          clear hst e hp
          go_wp2
          go_roundw
          case rel => exact ⟨3, by omega, by go_num, Hr, hb.alloc hbs _⟩
          case measure => simp [RowKit.intOf]
      · have hst : setFrom 3 x = if [108, 97, 116, 105, 110, 49] = x then (2 : Int) else setFrom 4 x := setFrom_step 3 x (by decide)
        have hidx := idx3 wr
        by_cases e : [108, 97, 116, 105, 110, 49] = x
        · rw [if_pos e] at hst
          have hq : ([108, 97, 116, 105, 110, 49] == x) = true := beq_iff_eq.2 e
          have Hr : Hid (setFrom 0 x = 2) := hp.out.symm.trans hst
          clear hst e hp
          go_wp2
          go_ret
          rw [Hr.out]
          exact ⟨rfl, hb.alloc hbs _⟩
        · rw [if_neg e] at hst
          have hq : ([108, 97, 116, 105, 110, 49] == x) = false := beq_eq_false_iff_ne.2 e
          have Hr : Hid (setFrom 4 x = setFrom 0 x) := hst.symm.trans hp.out
          clear hst e hp
          go_wp2
          go_roundw
          case rel => exact ⟨4, by omega, by go_num, Hr, hb.alloc hbs _⟩
          case measure => simp [RowKit.intOf]
      · have hst : setFrom 4 x = if [105, 115, 111, 45, 56, 56, 53, 57, 45, 49, 53] = x then (3 : Int) else setFrom 5 x := setFrom_step 4 x (by decide)
        have hidx := idx4 wr
        by_cases e : [105, 115, 111, 45, 56, 56, 53, 57, 45, 49, 53] = x
        · rw [if_pos e] at hst
          have hq : ([105, 115, 111, 45, 56, 56, 53, 57, 45, 49, 53] == x) = true := beq_iff_eq.2 e
          have Hr : Hid (setFrom 0 x = 3) := hp.out.symm.trans hst
          clear hst e hp
          go_wp2
          go_ret
          rw [Hr.out]
          exact ⟨rfl, hb.alloc hbs _⟩
        · rw [if_neg e] at hst
          have hq : ([105, 115, 111, 45, 56, 56, 53, 57, 45, 49, 53] == x) = false := beq_eq_false_iff_ne.2 e
          have Hr : Hid (setFrom 5 x = setFrom 0 x) := hst.symm.trans hp.out
          clear hst e hp
          go_wp2
          go_roundw
          case rel => exact ⟨5, by omega, by go_num, Hr, hb.alloc hbs _⟩
          case measure => simp [RowKit.intOf]
      · have hst : setFrom 5 x = if [108, 97, 116, 105, 110, 57] = x then (3 : Int) else setFrom 6 x := setFrom_step 5 x (by decide)
        have hidx := idx5 wr
        by_cases e : [108, 97, 116, 105, 110, 57] = x
        · rw [if_pos e] at hst
          have hq : ([108, 97, 116, 105, 110, 57] == x) = true := beq_iff_eq.2 e
          have Hr : Hid (setFrom 0 x = 3) := hp.out.symm.trans hst
          clear hst e hp
          go_wp2
          go_ret
          rw [Hr.out]
          exact ⟨rfl, hb.alloc hbs _⟩
        · rw [if_neg e] at hst
          have hq : ([108, 97, 116, 105, 110, 57] == x) = false := beq_eq_false_iff_ne.2 e
          have Hr : Hid (setFrom 6 x = setFrom 0 x) := hst.symm.trans hp.out
          clear hst e hp
          go_wp2
          go_roundw
          case rel => exact ⟨6, by omega, by go_num, Hr, hb.alloc hbs _⟩
          case measure => simp [RowKit.intOf]
      · have hst : setFrom 6 x = if [117, 116, 102, 45, 56] = x then (4 : Int) else setFrom 7 x := setFrom_step 6 x (by decide)
        have hidx := idx6 wr
        by_cases e : [117, 116, 102, 45, 56] = x
        · rw [if_pos e] at hst
          have hq : ([117, 116, 102, 45, 56] == x) = true := beq_iff_eq.2 e
          have Hr : Hid (setFrom 0 x = 4) := hp.out.symm.trans hst
          clear hst e hp
          go_wp2
          go_ret
          rw [Hr.out]
          exact ⟨rfl, hb.alloc hbs _⟩
        · rw [if_neg e] at hst
          have hq : ([117, 116, 102, 45, 56] == x) = false := beq_eq_false_iff_ne.2 e
          have Hr : Hid (setFrom 7 x = setFrom 0 x) := hst.symm.trans hp.out
          clear hst e hp
          go_wp2
          go_roundw
          case rel => exact ⟨7, by omega, by go_num, Hr, hb.alloc hbs _⟩
          case measure => simp [RowKit.intOf]
      · have hst : setFrom 7 x = if [117, 116, 102, 56] = x then (4 : Int) else setFrom 8 x := setFrom_step 7 x (by decide)
        have hidx := idx7 wr
        by_cases e : [117, 116, 102, 56] = x
        · rw [if_pos e] at hst
          have hq : ([117, 116, 102, 56] == x) = true := beq_iff_eq.2 e
          have Hr : Hid (setFrom 0 x = 4) := hp.out.symm.trans hst
          clear hst e hp
          go_wp2
          go_ret
          rw [Hr.out]
          exact ⟨rfl, hb.alloc hbs _⟩
        · rw [if_neg e] at hst
          have hq : ([117, 116, 102, 56] == x) = false := beq_eq_false_iff_ne.2 e
          have Hr : Hid (setFrom 8 x = setFrom 0 x) := hst.symm.trans hp.out
          clear hst e hp
          go_wp2
          go_roundw
          case rel => exact ⟨8, by omega, by go_num, Hr, hb.alloc hbs _⟩
          case measure => simp [RowKit.intOf]
      · have hst : setFrom 8 x = if [117, 116, 102, 45, 49, 54, 98, 101] = x then (5 : Int) else setFrom 9 x := setFrom_step 8 x (by decide)
        have hidx := idx8 wr
        by_cases e : [117, 116, 102, 45, 49, 54, 98, 101] = x
        · rw [if_pos e] at hst
          have hq : ([117, 116, 102, 45, 49, 54, 98, 101] == x) = true := beq_iff_eq.2 e
          have Hr : Hid (setFrom 0 x = 5) := hp.out.symm.trans hst
          clear hst e hp
          go_wp2
          go_ret
          rw [Hr.out]
          exact ⟨rfl, hb.alloc hbs _⟩
        · rw [if_neg e] at hst
          have hq : ([117, 116, 102, 45, 49, 54, 98, 101] == x) = false := beq_eq_false_iff_ne.2 e
          have Hr : Hid (setFrom 9 x = setFrom 0 x) := hst.symm.trans hp.out
          clear hst e hp
          go_wp2
          go_roundw
          case rel => exact ⟨9, by omega, by go_num, Hr, hb.alloc hbs _⟩
          case measure => simp [RowKit.intOf]
    · have hk' : k = 9 := by omega
      subst hk'
      have Hr : Hid (setFrom 0 x = 0) := hp.out.symm
      clear hp
      go_wp2
      go_ret
      rw [Hr.out]
      exact ⟨rfl, hb⟩
end Go.Proofs.YtajkahpkbeobaaaGreatDoor
namespace Go.Proofs.YtajkahpkbeobaaaGreatDoor
namespace Pu

/-- The digit of a number of six bits. -/
def d64 (n : Nat) : UInt8 := if n < 26 then UInt8.ofNat (65 + n) else if n < 52 then UInt8.ofNat (71 + n) else if n < 62 then UInt8.ofNat (n - 4) else if n = 62 then 43 else 47

set_option maxRecDepth 20000 in
theorem d64_a (n : Nat) (h : n < 26) : ((d64 n).toNat : Int) = 65 + n := by
  unfold d64
  rw [if_pos h, UInt8.toNat_ofNat_of_lt' (by simp [UInt8.size]; omega)]
  omega
set_option maxRecDepth 20000 in
theorem d64_b (n : Nat) (h0 : 26 ≤ n) (h : n < 52) : ((d64 n).toNat : Int) = 97 + n - 26 := by
  unfold d64
  rw [if_neg (by omega), if_pos h, UInt8.toNat_ofNat_of_lt' (by simp [UInt8.size]; omega)]
  omega
set_option maxRecDepth 20000 in
theorem d64_c (n : Nat) (h0 : 52 ≤ n) (h : n < 62) : ((d64 n).toNat : Int) = 48 + n - 52 := by
  unfold d64
  rw [if_neg (by omega), if_neg (by omega), if_pos h, UInt8.toNat_ofNat_of_lt' (by simp [UInt8.size]; omega)]
  omega

/-- The number of a digit, as the tests on a byte tell it; 64: it is none. -/
def val (c : UInt8) : Nat :=
  if 65 ≤ c.toNat ∧ c.toNat ≤ 90 then c.toNat - 65 else if 97 ≤ c.toNat ∧ c.toNat ≤ 122 then c.toNat - 71 else if 48 ≤ c.toNat ∧ c.toNat ≤ 57 then c.toNat + 4 else if c.toNat = 43 then 62 else if c.toNat = 47 then 63 else 64

set_option maxRecDepth 20000 in
theorem val_le (c : UInt8) : val c ≤ 64 := by
  unfold val
  repeat' split
  all_goals omega
set_option maxRecDepth 20000 in
theorem d64_nat (n : Nat) (h : n < 64) : (d64 n).toNat = if n < 26 then 65 + n else if n < 52 then 71 + n else if n < 62 then n - 4 else if n = 62 then 43 else 47 := by
  unfold d64
  repeat' split
  all_goals first | rfl | (rw [UInt8.toNat_ofNat_of_lt' (by simp [UInt8.size]; omega)])
set_option maxRecDepth 20000 in
/-- A byte is the digit n just if its number is n. -/
theorem d64_val (c : UInt8) (n : Nat) (h : n < 64) : (d64 n).toNat = c.toNat ↔ val c = n := by
  have h8 : c.toNat < 256 := UInt8.toNat_lt _
  rw [d64_nat n h]
  unfold val
  constructor
  · intro e
    repeat' split at e
    all_goals (repeat' split) <;> omega
  · intro e
    repeat' split at e
    all_goals (repeat' split) <;> omega

def isSpace (c : UInt8) : Bool := c.toNat == 32 || c.toNat == 9 || c.toNat == 13 || c.toNat == 10
def strip (l : List UInt8) : List UInt8 := l.filter fun c => !isSpace c

set_option maxRecDepth 20000 in
theorem strip_take (l : List UInt8) (k : Nat) (h : k < l.length) : strip (l.take (k + 1)) = strip (l.take k) ++ (if isSpace l[k] then [] else [l[k]]) := by
  unfold strip
  rw [List.take_succ_eq_append_getElem h, List.filter_append]
  by_cases e : isSpace l[k] = true <;> simp [e]
set_option maxRecDepth 20000 in
theorem strip_len (l : List UInt8) (k : Nat) : (strip (l.take k)).length ≤ k := by
  unfold strip
  exact Nat.le_trans (List.length_filter_le _ _) (List.length_take_le _ _)

/-- What one group of four says; the flag: it is the last one. -/
def quad (last : Bool) (a b c e : UInt8) : Option (List UInt8) :=
  if val a < 64 ∧ val b < 64 ∧ val c < 64 ∧ val e < 64 then
    some [UInt8.ofNat (val a * 4 + val b / 16), UInt8.ofNat (val b % 16 * 16 + val c / 4), UInt8.ofNat (val c % 4 * 64 + val e)]
  else if last = true ∧ val a < 64 ∧ val b < 64 ∧ val b % 16 = 0 ∧ c = 61 ∧ e = 61 then some [UInt8.ofNat (val a * 4 + val b / 16)]
  else if last = true ∧ val a < 64 ∧ val b < 64 ∧ val c < 64 ∧ val c % 4 = 0 ∧ e = 61 then some [UInt8.ofNat (val a * 4 + val b / 16), UInt8.ofNat (val b % 16 * 16 + val c / 4)]
  else none

/-- The groups, one by one. -/
def quads : List UInt8 → Option (List UInt8)
  | [] => some []
  | a :: b :: c :: e :: r => (quad r.isEmpty a b c e).bind fun x => (quads r).map fun y => x ++ y
  | _ => none

def un64 (l : List UInt8) : Option (List UInt8) := if (strip l).length % 4 = 0 then quads (strip l) else none
end Pu
end Go.Proofs.YtajkahpkbeobaaaGreatDoor
namespace Go.Proofs.YtajkahpkbeobaaaGreatDoor
open Go.RowKit Go.Lib
set_option maxRecDepth 20000 in
set_option maxHeartbeats 400000 in
theorem specDigitU (n : Nat) (w : World) (hn : n < 64) :
    Calls Tryz.prog 110 #[.int .i64 n] w fun e w' => e = .returned (.int .u8 ((Pu.d64 n).toNat : Int)) ∧ w = w' := by
  by_cases h1 : n < 26
  · rw [Pu.d64_a n h1]
    go_enter Tryz.func110, Tryz.ntmps110
    go_wp2
    go_ret
    exact ⟨rfl, rfl⟩
  by_cases h2 : n < 52
  · rw [Pu.d64_b n (by omega) h2]
    go_enter Tryz.func110, Tryz.ntmps110
    go_wp2
    go_ret
    exact ⟨rfl, rfl⟩
  by_cases h3 : n < 62
  · rw [Pu.d64_c n (by omega) h3]
    go_enter Tryz.func110, Tryz.ntmps110
    go_wp2
    go_ret
    exact ⟨rfl, rfl⟩
  by_cases h4 : n = 62
  · subst h4
    go_enter Tryz.func110, Tryz.ntmps110
    go_wp2
    go_ret
    exact ⟨rfl, rfl⟩
  · have h5 : n = 63 := by omega
    subst h5
    go_enter Tryz.func110, Tryz.ntmps110
    go_wp2
    go_ret
    exact ⟨rfl, rfl⟩
def valI (c : UInt8) : Int := if Pu.val c < 64 then (Pu.val c : Int) else -1
set_option maxRecDepth 20000 in
set_option maxHeartbeats 400000 in
theorem specVal64 (c : UInt8) (w : World) :
    Calls Tryz.prog 85 #[.int .u8 (c.toNat : Int)] w fun e w' => e = .returned (.int .i64 (valI c)) ∧ w = w' := by
  have hv := fun k h => Pu.d64_val c k h
  have Hv := mkH hv
  have hvl := Pu.val_le c
  have Hi : Hid (valI c = if Pu.val c < 64 then (Pu.val c : Int) else -1) := rfl
  generalize valI c = z at *
  generalize Pu.val c = n at *
  clear hv
  go_enter Tryz.func85, Tryz.ntmps85
  go_wp2
  go_loop [3] (fun i => ∃ k : Nat, k ≤ 64 ∧ i = .int .i64 k ∧ k ≤ n) (fun i => 64 - (RowKit.intOf i).toNat)
  case atStart => exact ⟨0, by omega, rfl, by omega⟩
  case round =>
    obtain ⟨k, hk, rfl, hno⟩ := hrel
    by_cases hlt : k < 64
    · have hkv := Hv.out k hlt
      go_wp2_with fail
      refine (specDigitU k _ hlt).mono ?_
      rintro e w2 ⟨rfl, rfl⟩
      by_cases e : n = k
      · have hq : (((Pu.d64 k).toNat : Int) == (c.toNat : Int)) = true := by rw [hkv.2 e]; simp
        have Hz : Hid (z = (k : Int)) := by rw [Hi.out, if_pos (by omega), e]; exact rfl
        clear hkv e
        go_wp2
        go_ret
        rw [Hz.out]
        exact ⟨rfl, rfl⟩
      · have hq : (((Pu.d64 k).toNat : Int) == (c.toNat : Int)) = false := by
          rw [beq_eq_false_iff_ne]
          intro h
          exact e (hkv.1 (by omega))
        clear hkv
        go_wp2
        go_round
        case rel => exact ⟨k + 1, by omega, by go_num, by omega⟩
        case measure => simp [RowKit.intOf]; omega
    · have Hz : Hid (z = -1) := by rw [Hi.out, if_neg (by omega)]; exact rfl
      go_wp2
      go_ret
      rw [Hz.out]
      exact ⟨rfl, rfl⟩
def bytesV : Option (List UInt8) → Value
  | none => .agg #[.bool false, .string ⟨#[]⟩]
  | some l => .agg #[.bool true, .string ⟨l.toArray⟩]
/-- The world with the room for the answer. -/
structure Room (w W : World) : Prop where
  size : W.heap.size = w.heap.size + 1
  below : Below w.heap.size w W
  c0 : W.cell? ⟨w.heap.size, 0, none⟩ = some (.bool false)
  c1 : W.cell? ⟨w.heap.size, 1, none⟩ = some (.string ⟨#[]⟩)
  f0 : W.frozen? ⟨w.heap.size, 0, none⟩ = false
  f1 : W.frozen? ⟨w.heap.size, 1, none⟩ = false
set_option maxRecDepth 20000 in
theorem room (w : World) : Room w (w.alloc (.cells #[.bool false, .string ⟨#[]⟩] 31)) :=
  ⟨by simp, (Below.refl _ _).alloc (Nat.le_refl _) _, by simp, by simp, by simp, by simp⟩
set_option maxRecDepth 20000 in
theorem Room.on {w W W' : World} (h : Room w W) (hb : Below W.heap.size W W') :
    W'.cell? ⟨w.heap.size, 0, none⟩ = some (.bool false) ∧ W'.cell? ⟨w.heap.size, 1, none⟩ = some (.string ⟨#[]⟩) ∧
    W'.frozen? ⟨w.heap.size, 0, none⟩ = false ∧ W'.frozen? ⟨w.heap.size, 1, none⟩ = false := by
  have hs := h.size
  exact ⟨(hb.cell (p := ⟨w.heap.size, 0, none⟩) (by simp; omega)).trans h.c0, (hb.cell (p := ⟨w.heap.size, 1, none⟩) (by simp; omega)).trans h.c1,
    (hb.frozen (p := ⟨w.heap.size, 0, none⟩) (by simp; omega)).trans h.f0, (hb.frozen (p := ⟨w.heap.size, 1, none⟩) (by simp; omega)).trans h.f1⟩
end Go.Proofs.YtajkahpkbeobaaaGreatDoor
