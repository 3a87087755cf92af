
/- Lists of numbers (int64) that a call has made: appended to, marked, the marks asked for. -/

/- An append of one number, of one text. -/

/- Lists of texts that a call has made by appends. -/

/- A source of draws: what operations on a store are made of. -/

/- A source of draws: plain mails. -/
import Derived.Test.YtadoifnfgoonaaaGreatDoorGenBase
import Derived.Test.YtadoifnfgoonaaaGreatDoorDrawReg
import Derived.Test.YtadoifnfgoonaaaGreatDoorAdRead7
namespace Go.Proofs.YtadoifnfgoonaaaGreatDoor
open Go.RowKit Go.Lib Go.Maps
def numCells (P : List Int) : List Value := P.map (.int .i64)
/-- The slice v, whose array is among the blocks from B on, holds just the numbers P. -/
def OwnN (B : Nat) (v : Value) (P : List Int) (w : World) : Prop := w.ownsRow B 2 1 v P.length (numCells P)
set_option maxRecDepth 20000 in
theorem OwnN.nil (B : Nat) (w : World) : OwnN B (.slice none 0 0) [] w := World.ownsRow_nil w B 2 1
set_option maxRecDepth 20000 in
theorem OwnN.shape {B : Nat} {v : Value} {P : List Int} {w : World} (h : OwnN B v P w) : ∃ o cap, v = .slice o P.length cap := by
  rcases h.2 with ⟨rfl, h0⟩ | ⟨g, cap, cur, rfl, -⟩
  · exact ⟨none, 0, by rw [h0]⟩
  · exact ⟨_, cap, rfl⟩
set_option maxRecDepth 20000 in
theorem OwnN.inL {B : Nat} {o : Option Addr} {cap : Nat} {P : List Int} {w : World} (h : OwnN B (.slice o P.length cap) P w) : InL B w.heap.size w o P := by
  intro i hi
  have hl := World.ownsRow.lt h
  rcases h.2 with ⟨h1, h0⟩ | ⟨g, cap', cur, h1, hB, -⟩
  · omega
  · simp only [Value.slice.injEq] at h1
    obtain ⟨rfl, -⟩ := h1
    exact ⟨_, rfl, hB, (hl g rfl).2, World.ownsRow.cells h (g := g) rfl i _ (by simp [numCells, hi])⟩
set_option maxRecDepth 20000 in
theorem OwnN.keep {B : Nat} {v : Value} {P : List Int} {w w' : World} {row : Option Nat} (h : OwnN B v P w) (hg : w.grownBy w' row) (hne : v.ownBlock = none ∨ v.ownBlock ≠ row) : OwnN B v P w' := World.ownsRow.kept h hg hne
set_option maxRecDepth 20000 in
theorem OwnN.below {B : Nat} {v : Value} {P : List Int} {w w' : World} (h : OwnN B v P w) (hb : Below w.heap.size w w') : OwnN B v P w' := World.ownsRow.kept h (row := none) ⟨hb.os, hb.tape, hb.output, hb.size, fun k hk _ => hb.block k hk⟩ (by
  cases hv : v.ownBlock with
  | none => exact .inl rfl
  | some k => exact .inr (by simp))
/-- The numbers from k on. -/
def numsFrom (k n : Nat) : List Int := (List.range n).map fun j => ((k + j : Nat) : Int)
set_option maxRecDepth 20000 in
theorem nums_len (k n : Nat) : (numsFrom k n).length = n := by simp [numsFrom]
set_option maxRecDepth 20000 in
theorem nums_get (k n j : Nat) (h : j < (numsFrom k n).length) : (numsFrom k n)[j] = ((k + j : Nat) : Int) := by simp [numsFrom]
set_option maxRecDepth 20000 in
theorem nums_set (k : Nat) (P : List Int) (i : Nat) (h : i < P.length) : (numsFrom k i ++ P.drop i).set i ((k + i : Nat) : Int) = numsFrom k (i + 1) ++ P.drop (i + 1) := by
  rw [List.drop_eq_getElem_cons h]
  have e : numsFrom k (i + 1) = numsFrom k i ++ [((k + i : Nat) : Int)] := by simp [numsFrom, List.range_succ]
  rw [e, List.set_append, if_neg (by rw [nums_len]; omega), nums_len, Nat.sub_self, List.set_cons_zero, List.append_assoc]
  rfl
end Go.Proofs.YtadoifnfgoonaaaGreatDoor
namespace Go.Proofs.YtadoifnfgoonaaaGreatDoor
open Go.RowKit Go.Lib Go.Maps
set_option maxRecDepth 20000 in
/-- An append of one number. -/
theorem wp_appN {w : World} {ops : Array Oper} {rest : List Oper} {o : Oper} {a : Act} {Q : Exit → Act → World → Prop} (hgd : o.guard = none) (s x : Operand)
    (ho : o.op = .call { callee := .builtin .append, args := #[s, x], argTypes := #[152, 152] })
    (B : Nat) (v : Value) (C : List Int) (hs : a.eval s = v) (hown : OwnN B v C w) (u : Int)
    (c : Nat) (hx : a.eval x = .slice (some ⟨w.heap.size, 0, none⟩) 1 c) (hlen : C.length ≤ 1000000) (hB : B ≤ w.heap.size)
    (h : ∀ v' w', OwnN B v' (C ++ [u]) w' → (w.alloc (.cells #[.int .i64 u] 2)).grownBy w' v.ownBlock → wpList Tryz.prog ops Q rest (a.put o.dst v') w') : wpList Tryz.prog ops Q (o :: rest) a (w.alloc (.cells #[.int .i64 u] 2)) := by
  obtain ⟨i0, hi0, hz0, hz1, hz2⟩ := info_parts Tryz.info2
  unfold OwnN at hown
  refine wpList_append_own _ hgd s x 152 ho B 2 i0 (.int .i64 0) 1 8 Tryz.underlying152 hi0 hz0 hz1 hz2 rfl (by decide) v C.length (numCells C) hs (World.ownsRow.alloc hown _) ⟨w.heap.size, 0, none⟩ 1 c [.int .i64 u] hx
    rfl ?_ ?_ (by unfold maxLen; omega) (by omega) (by simp; omega) ?_
  · intro j y hj
    rw [add_off]
    match j, hj with
    | 0, hj => simp at hj; subst hj; simp
  · intro y hy
    simp at hy
    subst hy
    rfl
  · intro v' w' h1 h2 _
    refine h v' w' ?_ h2
    unfold OwnN numCells
    rw [List.map_append, List.length_append]
    exact h1
end Go.Proofs.YtadoifnfgoonaaaGreatDoor
namespace Go.Proofs.YtadoifnfgoonaaaGreatDoor
open Go.RowKit Go.Lib Go.Maps
def strCellsX (P : List ByteArray) : List Value := P.map .string
/-- The slice v, whose array is among the blocks from B on, holds just the texts P. -/
def OwnX (B : Nat) (v : Value) (P : List ByteArray) (w : World) : Prop := w.ownsRow B 9 1 v P.length (strCellsX P)
set_option maxRecDepth 20000 in
theorem OwnX.nil (B : Nat) (w : World) : OwnX B (.slice none 0 0) [] w := World.ownsRow_nil w B 9 1
set_option maxRecDepth 20000 in
theorem OwnX.shape {B : Nat} {v : Value} {P : List ByteArray} {w : World} (h : OwnX B v P w) : ∃ o cap, v = .slice o P.length cap := by
  rcases h.2 with ⟨rfl, h0⟩ | ⟨g, cap, cur, rfl, -⟩
  · exact ⟨none, 0, by rw [h0]⟩
  · exact ⟨_, cap, rfl⟩
set_option maxRecDepth 20000 in
theorem OwnX.txL {B : Nat} {o : Option Addr} {cap : Nat} {P : List ByteArray} {w : World} (h : OwnX B (.slice o P.length cap) P w) : TxL B w.heap.size w o P := by
  intro i hi
  have hl := World.ownsRow.lt h
  rcases h.2 with ⟨h1, h0⟩ | ⟨g, cap', cur, h1, hB, -⟩
  · omega
  · simp only [Value.slice.injEq] at h1
    obtain ⟨rfl, -⟩ := h1
    exact ⟨_, rfl, hB, (hl g rfl).2, World.ownsRow.cells h (g := g) rfl i _ (by simp [strCellsX, hi])⟩
set_option maxRecDepth 20000 in
theorem OwnX.keep {B : Nat} {v : Value} {P : List ByteArray} {w w' : World} {row : Option Nat} (h : OwnX B v P w) (hg : w.grownBy w' row) (hne : v.ownBlock = none ∨ v.ownBlock ≠ row) : OwnX B v P w' := World.ownsRow.kept h hg hne
set_option maxRecDepth 20000 in
theorem OwnX.below {B : Nat} {v : Value} {P : List ByteArray} {w w' : World} (h : OwnX B v P w) (hb : Below w.heap.size w w') : OwnX B v P w' := World.ownsRow.kept h (row := none) ⟨hb.os, hb.tape, hb.output, hb.size, fun k hk _ => hb.block k hk⟩ (by
  cases hv : v.ownBlock with
  | none => exact .inl rfl
  | some k => exact .inr (by simp))
set_option maxRecDepth 20000 in
theorem Tryz.info9X : (Tryz.prog.info? 9).map (fun i => (i.zero, i.size, i.bytes)) = some (some (.string ⟨#[]⟩), 1, 16) := by kernel_rfl
set_option maxRecDepth 20000 in
theorem wp_appX {w : World} {ops : Array Oper} {rest : List Oper} {o : Oper} {a : Act} {Q : Exit → Act → World → Prop} (hgd : o.guard = none) (s x : Operand)
    (ho : o.op = .call { callee := .builtin .append, args := #[s, x], argTypes := #[44, 44] })
    (B : Nat) (v : Value) (C : List ByteArray) (hs : a.eval s = v) (hown : OwnX B v C w) (u : ByteArray)
    (c : Nat) (hx : a.eval x = .slice (some ⟨w.heap.size, 0, none⟩) 1 c) (hlen : C.length ≤ 1000000) (hB : B ≤ w.heap.size)
    (h : ∀ v' w', OwnX B v' (C ++ [u]) w' → (w.alloc (.cells #[.string u] 9)).grownBy w' v.ownBlock → wpList Tryz.prog ops Q rest (a.put o.dst v') w') : wpList Tryz.prog ops Q (o :: rest) a (w.alloc (.cells #[.string u] 9)) := by
  obtain ⟨i0, hi0, hz0, hz1, hz2⟩ := info_parts Tryz.info9X
  unfold OwnX at hown
  refine wpList_append_own _ hgd s x 44 ho B 9 i0 (.string ⟨#[]⟩) 1 16 Tryz.underlying44 hi0 hz0 hz1 hz2 rfl (by decide) v C.length (strCellsX C) hs (World.ownsRow.alloc hown _) ⟨w.heap.size, 0, none⟩ 1 c [.string u] hx
    rfl ?_ ?_ (by unfold maxLen; omega) (by omega) (by simp; omega) ?_
  · intro j y hj
    rw [add_off]
    match j, hj with
    | 0, hj => simp at hj; subst hj; simp
  · intro y hy
    simp at hy
    subst hy
    rfl
  · intro v' w' h1 h2 _
    refine h v' w' ?_ h2
    unfold OwnX strCellsX
    rw [List.map_append, List.length_append]
    exact h1
set_option maxRecDepth 20000 in
theorem OwnX.made (B : Nat) (w : World) (hB : B ≤ w.heap.size) : OwnX B (.slice (some ⟨w.heap.size, 0, none⟩) 0 0) [] (w.alloc (.cells #[] 9)) :=
  ⟨rfl, .inr ⟨w.heap.size, 0, #[], rfl, hB, heap_alloc_at _ _, Nat.le_refl _, Nat.zero_le _, rfl, rfl⟩⟩
end Go.Proofs.YtadoifnfgoonaaaGreatDoor
namespace Go.Proofs.YtadoifnfgoonaaaGreatDoor
open Go.RowKit Go.Lib Go.Maps
set_option maxRecDepth 20000 in
theorem OwnX.grG {B g : Nat} {v : Value} {P : List ByteArray} {w w' : World} (h : OwnX B v P w) (hg : w.grownBy w' (some g)) (hB : g < B) : OwnX B v P w' := row_same h (Same.gr hg hB (Nat.le_refl _))
set_option maxRecDepth 20000 in
theorem OwnN.grG {B g : Nat} {v : Value} {P : List Int} {w w' : World} (h : OwnN B v P w) (hg : w.grownBy w' (some g)) (hB : g < B) : OwnN B v P w' := row_same h (Same.gr hg hB (Nat.le_refl _))
set_option maxRecDepth 20000 in
theorem OwnN.made (B : Nat) (w : World) (hB : B ≤ w.heap.size) : OwnN B (.slice (some ⟨w.heap.size, 0, none⟩) 0 0) [] (w.alloc (.cells #[] 2)) :=
  ⟨rfl, .inr ⟨w.heap.size, 0, #[], rfl, hB, hp_alloc _ _, Nat.le_refl _, Nat.zero_le _, rfl, rfl⟩⟩
set_option maxRecDepth 20000 in
set_option maxHeartbeats 4000000 in
theorem srcDomain (g : Nat) (o : Option Addr) (c : List UInt8) (cp a z : Nat) (w : World) (h : Src w g o c.length cp a z) (hc : Code g w o c) (ha : a ≤ 900000000000) (hl : c.length ≤ 1048576) :
    Calls Tryz.prog 43 #[.pointer (some ⟨g, 0, none⟩)] w fun e w' => ∃ (t : ByteArray) (a' : Nat), e = .returned (.string t) ∧ t.size ≤ 14 ∧ a' ≤ a + 2 ∧ Src w' g o c.length cp a' z ∧ w.grownBy w' (some g) := by
  have HC : Hid (Code g w o c) := hc
  have hgl := h.lt
  have Hs := mkHid h
  have Hg : Hid (w.grownBy w (some g)) := gr_refl _ _
  clear h hc
  go_enter Tryz.func43, Tryz.ntmps43
  have hN7 := srcOne g o c cp a z 9 w Hs.out (HC.out.grown Hg.out (Nat.le_refl _)) (by omega) hl (by omega) (by omega)
  go_wp2_with fail
  refine hN7.mono ?_
  rintro e w2 ⟨b1, rfl, hs5, hg6⟩
  have Hs3 := mkHid hs5
  have Hg4 := mkHid (gr_trans Hg.out hg6)
  clear hN7 hs5 hg6 Hs Hg
  cases b1 with
  | true =>
    have hb14 : ∀ cs, Below w2.heap.size w2 (w2.alloc (.cells cs 9)) := fun cs => (Below.refl _ _).alloc (Nat.le_refl _) _
    have hN13 := fun cs => srcN g o c cp (a + 1) z 6 (w2.alloc (.cells cs 9)) (Hs3.out.below (hb14 cs)) (HC.out.grown (gr_trans Hg4.out (gr_below (hb14 cs))) (Nat.le_refl _)) (by omega) hl (by omega) (by omega)
    have hl17 : g < w2.heap.size := Hs3.out.lt
    go_wp2_with fail
    refine (hN13 _).mono ?_
    rintro e w8 ⟨v11, rfl, hv11, hs15, hg16⟩
    obtain ⟨t12, hct12, hzt12⟩ := table_at (M := 11) hg16 hl17 (show v11 < 6 by omega) (by decide)
    have hlv11 : v11 < 6 := by omega
    have hgg18 := gr_trans (gr_below (hb14 _)) hg16
    have Hs9 := mkHid hs15
    have Hg10 := mkHid (gr_trans Hg4.out hgg18)
    clear hN13 hs15 hg16 hb14 hl17 hgg18 Hs3 Hg4
    go_wp2
    go_ret
    exact ⟨_, _, rfl, by omega, by omega, Hs9.out, Hg10.out⟩
  | false =>
    have hb14 : ∀ cs, Below w2.heap.size w2 (w2.alloc (.cells cs 9)) := fun cs => (Below.refl _ _).alloc (Nat.le_refl _) _
    have hN13 := fun cs => srcN g o c cp (a + 1) z 4 (w2.alloc (.cells cs 9)) (Hs3.out.below (hb14 cs)) (HC.out.grown (gr_trans Hg4.out (gr_below (hb14 cs))) (Nat.le_refl _)) (by omega) hl (by omega) (by omega)
    have hl17 : g < w2.heap.size := Hs3.out.lt
    go_wp2_with fail
    refine (hN13 _).mono ?_
    rintro e w8 ⟨v11, rfl, hv11, hs15, hg16⟩
    obtain ⟨t12, hct12, hzt12⟩ := table_at (M := 14) hg16 hl17 (show v11 < 4 by omega) (by decide)
    have hlv11 : v11 < 4 := by omega
    have hgg18 := gr_trans (gr_below (hb14 _)) hg16
    have Hs9 := mkHid hs15
    have Hg10 := mkHid (gr_trans Hg4.out hgg18)
    clear hN13 hs15 hg16 hb14 hl17 hgg18 Hs3 Hg4
    go_wp2
    go_ret
    exact ⟨_, _, rfl, by omega, by omega, Hs9.out, Hg10.out⟩
end Go.Proofs.YtadoifnfgoonaaaGreatDoor
namespace Go.Proofs.YtadoifnfgoonaaaGreatDoor
open Go.RowKit Go.Lib Go.Maps
def pmFact (t0 : ByteArray) (g B : Nat) (j : Nat) (v : Value) (w : World) : Prop :=
  match j with
  | 0 => v = .string t0
  | 1 => tabM 21 B 12 v w
  | 2 => v = .pointer (some ⟨g, 0, none⟩)
  | 3 => numM 0 12 v
  | 4 => ptrM 21 B v w
  | 5 => txtM 21 v
  | 6 => ∃ t : ByteArray, v = .string t ∧ t.size ≤ t0.size + 21
  | 7 => tabM 2 B 4 v w
  | 8 => v = .pointer (some ⟨g, 0, none⟩)
  | 9 => numM 0 4 v
  | 10 => ptrM 2 B v w
  | 11 => txtM 2 v
  | 12 => ∃ t : ByteArray, v = .string t ∧ t.size ≤ t0.size + 23
  | _ => True
def pmDst (j : Nat) : Nat :=
  match j with
  | 0 => 28
  | 1 => 29
  | 2 => 30
  | 3 => 31
  | 4 => 32
  | 5 => 33
  | 6 => 34
  | 7 => 35
  | 8 => 36
  | 9 => 37
  | 10 => 38
  | 11 => 39
  | 12 => 40
  | _ => 999
set_option maxRecDepth 20000 in
theorem pmFact.gr {t0 : ByteArray} {g B : Nat} (hB : g < B) (j : Nat) (v : Value) (w w' : World) (h : pmFact t0 g B j v w) (hg : w.grownBy w' (some g)) : pmFact t0 g B j v w' := by
  unfold pmFact at h ⊢
  split
  all_goals first
    | exact tabM.gr h hg hB
    | exact ptrM.gr h hg hB
    | exact h
    | trivial
abbrev pmAct (L : List Value) (x : Nat → Value) (R : List Value) : Act := { tmps := (L ++ [x 28, x 29, x 30, x 31, x 32, x 33, x 34, x 35, x 36, x 37, x 38, x 39, x 40] ++ R).toArray, defers := [] }
end Go.Proofs.YtadoifnfgoonaaaGreatDoor
