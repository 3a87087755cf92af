
/- The program's EncodeOp and PutFrame, whole. -/

/- SumOf, the specification's side. -/

/- SumOf, the program's side: a generic fold whose step is a method value. -/
import Derived.Test.YtillilllceeonaaDoorEwOp
import Derived.Test.YtillilllceeonaaDoorChecked
import Derived.Test.YtillilllceeonaaDoorDraw
import Derived.WalkKit
import Derived.WalkLawsBesides
import Derived.WalkSpells
import Derived.WalkSmall
import Derived.Below
import Derived.Test.YtillilllceeonaaDoorAlRow
import Derived.Lib.Agree
import Derived.Lib.QuietBelow
import Derived.Deep.QuietTactic
import Derived.BigQuiet
import Derived.Deep.RegionWith
namespace Go.Proofs.YtillilllceeonaaDoor
open Go.RowKit Go.Lib Go.Maps
set_option maxRecDepth 20000 in
theorem OwnN.at {B : Nat} {o : Option Addr} {cap : Nat} {U : List Int} {w : World} (h : OwnN B (.slice o U.length cap) U w) (j : Nat) (hj : j < U.length) : ∃ r, o = some ⟨r, 0, none⟩ ∧ r < w.heap.size ∧ w.cell? ⟨r, j, none⟩ = some (.int .i64 U[j]) := by
  have hl := World.ownsRow.lt h
  rcases h.2 with ⟨h1, h0⟩ | ⟨g, cap', cur, h1, hB, -⟩
  · omega
  · simp only [Value.slice.injEq] at h1
    obtain ⟨rfl, -⟩ := h1
    have := World.ownsRow.cells h (g := g) rfl j _ (show (numCells U)[j]? = some (.int .i64 U[j]) by simp [numCells, hj])
    exact ⟨g, rfl, (hl g rfl).2, by rwa [add_off] at this⟩
set_option maxRecDepth 20000 in
theorem OwnX.at {B : Nat} {o : Option Addr} {cap : Nat} {U : List ByteArray} {w : World} (h : OwnX B (.slice o U.length cap) U w) (j : Nat) (hj : j < U.length) : ∃ r, o = some ⟨r, 0, none⟩ ∧ r < w.heap.size ∧ w.cell? ⟨r, j, none⟩ = some (.string U[j]) := by
  have hl := World.ownsRow.lt h
  rcases h.2 with ⟨h1, h0⟩ | ⟨g, cap', cur, h1, hB, -⟩
  · omega
  · simp only [Value.slice.injEq] at h1
    obtain ⟨rfl, -⟩ := h1
    have := World.ownsRow.cells h (g := g) rfl j _ (show (strCellsX U)[j]? = some (.string U[j]) by simp [strCellsX, hj])
    exact ⟨g, rfl, (hl g rfl).2, by rwa [add_off] at this⟩
set_option maxRecDepth 20000 in
theorem row_cap {B s n : Nat} {e : TypeId} {o : Option Addr} {m c : Nat} {xs : List Value} {w : World} (h : w.ownsRow B e s (.slice o m c) n xs) : m ≤ c := by
  rcases h.2 with ⟨h1, h0⟩ | ⟨g, cap', cur, h1, hB, hg, hc, -⟩
  · simp only [Value.slice.injEq] at h1; omega
  · simp only [Value.slice.injEq] at h1; omega
set_option maxRecDepth 20000 in
theorem capN {B : Nat} {o : Option Addr} {cap : Nat} {U : List Int} {w : World} (h : OwnN B (.slice o U.length cap) U w) : U.length ≤ cap := row_cap h
set_option maxRecDepth 20000 in
theorem capX {B : Nat} {o : Option Addr} {cap : Nat} {U : List ByteArray} {w : World} (h : OwnX B (.slice o U.length cap) U w) : U.length ≤ cap := row_cap h
set_option maxRecDepth 20000 in
set_option maxHeartbeats 4000000 in
theorem implEncode (C : Nat) (q : OpP) (uo fo : Option Addr) (uc fc : Nat) (w : World) (hU : OwnN C (.slice uo q.U.length uc) q.U w) (hP : OwnX C (.slice fo q.P.length fc) q.P w) (h : q.full) (R : List UInt8) (hR : R = q.enc) :
    Calls Tryd.prog 7 #[.agg #[.int .i64 q.k, .string q.bx, .string q.tt, .slice uo q.U.length uc, .slice fo q.P.length fc, .int .i64 q.tm, .int .i64 q.md, .string q.ms]] w fun e w' => e = .returned (.string ⟨R.toArray⟩) ∧ Below w.heap.size w w' := by
  obtain ⟨W, hW⟩ : ∃ W, W = (w.alloc (.cells #[.int .i64 q.k, .string q.bx, .string q.tt, .slice uo q.U.length uc, .slice fo q.P.length fc, .int .i64 q.tm, .int .i64 q.md, .string q.ms] 26)).alloc (.cells #[.slice none 0 0, .nilIface] 44) := ⟨_, rfl⟩
  have hb0 : Below w.heap.size w W := by rw [hW]; exact ((Below.refl _ _).alloc (Nat.le_refl _) _).alloc (by simp) _
  have hs0 : W.heap.size = w.heap.size + 2 := by rw [hW]; simp
  have hE : Enc (w.heap.size + 1) (w.heap.size + 2) (.slice none 0 0) [] W := ⟨by rw [hW]; have := hp_alloc (w.alloc (.cells #[.int .i64 q.k, .string q.bx, .string q.tt, .slice uo q.U.length uc, .slice fo q.P.length fc, .int .i64 q.tm, .int .i64 q.md, .string q.ms] 26)) (.cells #[.slice none 0 0, .nilIface] 44); rwa [World.size_alloc] at this, Own.nil _ _, by omega, by omega⟩
  have hblk : W.heap[w.heap.size]? = some (.cells #[.int .i64 q.k, .string q.bx, .string q.tt, .slice uo q.U.length uc, .slice fo q.P.length fc, .int .i64 q.tm, .int .i64 q.md, .string q.ms] 26 (0, 0)) := by
    rw [hW, heap_alloc_old _ _ _ (by simp)]
    exact hp_alloc _ _
  have hPr : ∀ j (hj : j < q.P.length), ∃ r, fo = some ⟨r, 0, none⟩ ∧ r < w.heap.size + 2 ∧ r ≠ w.heap.size + 1 ∧ W.cell? ⟨r, j, none⟩ = some (.string q.P[j]) := by
    intro j hj
    obtain ⟨r, h1, h2, h3⟩ := OwnX.at hP j hj
    exact ⟨r, h1, by omega, by omega, (World.cell?_of_block (a := ⟨r, j, none⟩) (hb0.block r h2)).trans h3⟩
  have hUr : ∀ j (hj : j < q.U.length), ∃ r, uo = some ⟨r, 0, none⟩ ∧ r < w.heap.size + 2 ∧ r ≠ w.heap.size + 1 ∧ W.cell? ⟨r, j, none⟩ = some (.int .i64 q.U[j]) := by
    intro j hj
    obtain ⟨r, h1, h2, h3⟩ := OwnN.at hU j hj
    exact ⟨r, h1, by omega, by omega, (World.cell?_of_block (a := ⟨r, j, none⟩) (hb0.block r h2)).trans h3⟩
  have cO := mkHid (encOp (w.heap.size + 1) (w.heap.size + 2) _ W hE w.heap.size q uo fo uc fc hblk (by omega) (by omega) hUr (capN hU) hPr (capX hP) h R hR)
  have HW := mkHid hW
  have Hb0 := mkHid hb0
  clear hE hblk hPr hUr hW hb0 hs0 hR
  go_enter Tryd.func7, Tryd.ntmps7
  go_wp2_with fail
  rw [← HW.out]
  refine cO.out.mono ?_
  rintro e W2 ⟨rfl, hR2⟩
  have HR2 := mkHid hR2
  clear hR2
  obtain ⟨v2, hE2, hF2⟩ := HR2.out
  have cW := mkHid (encWritten _ _ _ _ W2 hE2)
  have hbb : Hid (Below w.heap.size w W2) := mkHid (Hb0.out.trans ⟨hF2.os, hF2.tape, hF2.output, hF2.size, fun k hk => hF2.keep k (by omega) (by omega)⟩)
  clear hE2 hF2
  go_wp2_with fail
  refine cW.out.mono ?_
  rintro e W3 ⟨rfl, rfl⟩
  go_wp2
  go_ret
  exact ⟨rfl, hbb.out⟩
end Go.Proofs.YtillilllceeonaaDoor

/- Plain mathematics of sums: a prime, the fold over a text, one byte turned. No program. -/
namespace Go.Proofs.YtillilllceeonaaDoor
namespace Ps
/-- No number from d on, for f steps, divides p. -/
def none_ (p : Nat) : Nat → Nat → Bool
  | 0, _ => true
  | f + 1, d => !(p % d == 0) && none_ p f (d + 1)
set_option maxRecDepth 20000 in
theorem none_spec (p : Nat) : ∀ (f d : Nat), none_ p f d = true → ∀ x, d ≤ x → x < d + f → ¬ p % x = 0
  | 0, d, _, x, h1, h2 => by omega
  | f + 1, d, h, x, h1, h2 => by
    rw [none_, Bool.and_eq_true] at h
    by_cases e : x = d
    · subst e
      simpa using h.1
    · exact none_spec p f (d + 1) h.2 x (by omega) (by omega)
abbrev P : Nat := 2147483647
set_option maxRecDepth 1000000 in
theorem none_P : none_ P 46340 2 = true := by decide +kernel
set_option maxRecDepth 20000 in
theorem small_div (x : Nat) (h2 : 2 ≤ x) (h : x * x ≤ P) : ¬ P % x = 0 := by
  refine none_spec P 46340 2 none_P x h2 ?_
  have h3 : x < 46341 := by
    by_cases hx : x < 46341
    · exact hx
    · have : 46341 * 46341 ≤ x * x := Nat.mul_le_mul (by omega) (by omega)
      unfold P at h
      omega
  omega
set_option maxRecDepth 20000 in
theorem coprime_P (x : Nat) (h0 : 1 ≤ x) (h1 : x < P) : Nat.Coprime P x := by
  have hg : Nat.gcd P x ∣ P := Nat.gcd_dvd_left P x
  have hgx : Nat.gcd P x ∣ x := Nat.gcd_dvd_right P x
  have hle : Nat.gcd P x ≤ x := Nat.le_of_dvd (by omega) hgx
  obtain ⟨g, hgg⟩ : ∃ g, Nat.gcd P x = g := ⟨_, rfl⟩
  show Nat.gcd P x = 1
  rw [hgg] at hg hgx hle ⊢
  obtain ⟨q, hq⟩ := hg
  by_cases hg1 : g ≤ 1
  · have : g ≠ 0 := by
      rintro rfl
      rw [Nat.zero_mul] at hq
      exact absurd hq (by decide)
    omega
  · exfalso
    have hq2 : 2 ≤ q := by
      by_cases hq2 : 2 ≤ q
      · exact hq2
      · have : q = 0 ∨ q = 1 := by omega
        rcases this with rfl | rfl
        · rw [Nat.mul_zero] at hq; exact absurd hq (by decide)
        · rw [Nat.mul_one] at hq; omega
    rcases Nat.le_total g q with hgq | hgq
    · have hs : g * g ≤ P := by rw [hq]; exact Nat.mul_le_mul_left g hgq
      exact small_div g (by omega) hs (by rw [hq]; exact Nat.mul_mod_right g q)
    · have hs : q * q ≤ P := by rw [hq]; exact Nat.mul_le_mul_right q hgq
      exact small_div q hq2 hs (by rw [hq, Nat.mul_comm]; exact Nat.mul_mod_right q g)
/-- A sum, from a number on. -/
def sm (A : Nat) : Nat → List UInt8 → Nat
  | s, [] => s
  | s, c :: r => sm A ((s * A + c.toNat + 1) % P) r
set_option maxRecDepth 20000 in
theorem sm_lt (A : Nat) : ∀ (l : List UInt8) (s : Nat), s < P → sm A s l < P
  | [], s, h => h
  | c :: r, s, h => by
    rw [sm]
    exact sm_lt A r _ (Nat.mod_lt _ (by decide))
set_option maxRecDepth 20000 in
/-- Numbers apart stay apart by a step. -/
theorem step_inj (A s t k : Nat) (hA0 : 1 ≤ A) (hA : A < P) (_hs : s < P) (ht : t < P) (hst : s < t) : (s * A + k) % P ≠ (t * A + k) % P := by
  intro e
  have hle : s * A ≤ t * A := Nat.mul_le_mul_right A (by omega)
  have hd : P ∣ (t * A + k) - (s * A + k) := Nat.dvd_of_mod_eq_zero (Nat.sub_mod_eq_zero_of_mod_eq e.symm)
  rw [show t * A + k - (s * A + k) = (t - s) * A from by rw [Nat.sub_mul]; omega] at hd
  have hc := coprime_P A hA0 hA
  have h2 : P ∣ t - s := Nat.Coprime.dvd_of_dvd_mul_right hc hd
  have := Nat.le_of_dvd (by omega) h2
  omega
set_option maxRecDepth 20000 in
theorem step_ne (A s t k : Nat) (hA0 : 1 ≤ A) (hA : A < P) (hs : s < P) (ht : t < P) (hst : s ≠ t) : (s * A + k) % P ≠ (t * A + k) % P := by
  rcases Nat.lt_or_gt_of_ne hst with h | h
  · exact step_inj A s t k hA0 hA hs ht h
  · exact (step_inj A t s k hA0 hA ht hs h).symm
set_option maxRecDepth 20000 in
theorem sm_ne (A : Nat) (hA0 : 1 ≤ A) (hA : A < P) : ∀ (l : List UInt8) (s t : Nat), s < P → t < P → s ≠ t → sm A s l ≠ sm A t l
  | [], _, _, _, _, h => h
  | c :: r, s, t, hs, ht, h => by
    rw [sm, sm]
    refine sm_ne A hA0 hA r _ _ (Nat.mod_lt _ (by decide)) (Nat.mod_lt _ (by decide)) ?_
    rw [Nat.add_assoc, Nat.add_assoc]
    exact step_ne A s t _ hA0 hA hs ht h
set_option maxRecDepth 20000 in
theorem sm_app (A : Nat) : ∀ (p r : List UInt8) (s : Nat), sm A s (p ++ r) = sm A (sm A s p) r
  | [], _, _ => rfl
  | c :: p, r, s => by
    rw [List.cons_append, sm, sm]
    exact sm_app A p r _
set_option maxRecDepth 20000 in
theorem near_ne (x c d : Nat) (hc : c < 256) (hd : d < 256) (h : c < d) : (x + c + 1) % P ≠ (x + d + 1) % P := by
  intro e
  have hdv : P ∣ (x + d + 1) - (x + c + 1) := Nat.dvd_of_mod_eq_zero (Nat.sub_mod_eq_zero_of_mod_eq e.symm)
  have := Nat.le_of_dvd (by omega) hdv
  unfold P at this
  omega
set_option maxRecDepth 20000 in
/-- One byte turned into another one: another sum. -/
theorem sm_turn (A s : Nat) (hA0 : 1 ≤ A) (hA : A < P) (p r : List UInt8) (c d : UInt8) (h : c ≠ d) : sm A s (p ++ c :: r) ≠ sm A s (p ++ d :: r) := by
  rw [sm_app, sm_app, sm, sm]
  refine sm_ne A hA0 hA r _ _ (Nat.mod_lt _ (by decide)) (Nat.mod_lt _ (by decide)) ?_
  have hc : c.toNat < 256 := UInt8.toNat_lt _
  have hd : d.toNat < 256 := UInt8.toNat_lt _
  have hn : c.toNat ≠ d.toNat := fun e => h (UInt8.toNat_inj.1 e)
  rcases Nat.lt_or_gt_of_ne hn with h' | h'
  · exact near_ne _ _ _ hc hd h'
  · exact (near_ne _ _ _ hd hc h').symm
end Ps
end Go.Proofs.YtillilllceeonaaDoor
namespace Go.Proofs.YtillilllceeonaaDoor
open Go.RowKit Go.Lib
abbrev keyV (d s : ByteArray) (x y : Int) : Value := .agg #[.string d, .string s, .int .i64 x, .int .i64 y]
def keyOk (x y : Int) : Bool := decide (1 ≤ x) && (decide (x < 2147483647) && (decide (1 ≤ y) && decide (y < 2147483647)))
set_option maxRecDepth 20000 in
theorem keyOk_iff (x y : Int) : keyOk x y = true ↔ 1 ≤ x ∧ x < 2147483647 ∧ 1 ≤ y ∧ y < 2147483647 := by
  unfold keyOk
  simp only [Bool.and_eq_true, decide_eq_true_eq]
abbrev sumV (a b : Nat) : Value := .agg #[.int .i64 a, .int .i64 b]
/-- The world that the specification's SumOf begins in: its key's block, its result's. -/
abbrev sumW (d s : ByteArray) (x y : Int) (w : World) : World := (w.alloc (.cells #[.string d, .string s, .int .i64 x, .int .i64 y] 73)).alloc (.cells #[.int .i64 0, .int .i64 0] 70)
set_option maxRecDepth 20000 in
theorem sumW_facts (d s : ByteArray) (x y : Int) (w : World) : (sumW d s x y w).heap[w.heap.size]? = some (.cells #[.string d, .string s, .int .i64 x, .int .i64 y] 73 (0, 0)) ∧ (sumW d s x y w).heap[w.heap.size + 1]? = some (.cells #[.int .i64 0, .int .i64 0] 70 (0, 0)) ∧
    (sumW d s x y w).heap.size = w.heap.size + 2 ∧ Below w.heap.size w (sumW d s x y w) := by
  refine ⟨?_, ?_, by simp, ((Below.refl _ _).alloc (Nat.le_refl _) _).alloc (by simp) _⟩
  · exact (heap_alloc_old _ _ _ (by simp)).trans (heap_alloc_at _ _)
  · have := heap_alloc_at (w.alloc (.cells #[.string d, .string s, .int .i64 x, .int .i64 y] 73)) (.cells #[.int .i64 0, .int .i64 0] 70)
    simpa using this
set_option maxRecDepth 20000 in
theorem wi64 (x : Int) (h0 : -9223372036854775808 ≤ x) (h1 : x ≤ 9223372036854775807) : IntKind.i64.wrap x = x := by
  unfold IntKind.wrap
  simp [IntKind.bits, IntKind.signed]
  omega
set_option maxRecDepth 20000 in
theorem mul_bound (a A : Nat) (ha : a < 2147483647) (hA : A < 2147483647) : a * A ≤ 4611686009837453316 := by
  have := Nat.mul_le_mul (show a ≤ 2147483646 by omega) (show A ≤ 2147483646 by omega)
  omega
end Go.Proofs.YtillilllceeonaaDoor
namespace Go.Proofs.YtillilllceeonaaDoor
open Go.RowKit Go.Lib
set_option maxRecDepth 20000 in
set_option maxHeartbeats 1000000 in
theorem implLongName (d s : ByteArray) (x y : Int) (w : World) (hd : d.size ≤ 100000) (hs : s.size ≤ 100000) :
    Calls Tryd.prog 36 #[keyV d s x y] w fun e w' => e = .returned (.bool false) ∧ Below w.heap.size w w' := by
  have hA : ∀ ob, Below w.heap.size w (w.alloc ob) := fun ob => (Below.refl _ _).alloc (Nat.le_refl _) _
  have hD := fun w => implTooLong d w (by omega)
  have hS := fun w => implTooLong s w (by omega)
  rw [show decide ((100000 : Int) < (d.size : Int)) = false from decide_eq_false (by omega)] at hD
  rw [show decide ((100000 : Int) < (s.size : Int)) = false from decide_eq_false (by omega)] at hS
  go_enter Tryd.func36, Tryd.ntmps36
  go_wp2_with fail
  refine (hD _).mono ?_
  rintro e w2 ⟨rfl, rfl⟩
  go_wp2_with fail
  refine (hS _).mono ?_
  rintro e w2 ⟨rfl, rfl⟩
  go_wp2
  go_ret
  exact ⟨rfl, hA _⟩
set_option maxRecDepth 20000 in
theorem implFactor (x : Int) (w : World) : Calls Tryd.prog 53 #[.int .i64 x] w fun e w' => e = .returned (.bool (decide (1 ≤ x) && decide (x < 2147483647))) ∧ w = w' := by
  by_cases h1 : 1 ≤ x
  · rw [decide_eq_true h1, Bool.true_and]
    go_enter Tryd.func53, Tryd.ntmps53
    go_wp2
    go_ret
    exact ⟨rfl, rfl⟩
  · rw [decide_eq_false h1, Bool.false_and]
    go_enter Tryd.func53, Tryd.ntmps53
    go_wp2
    go_ret
    exact ⟨rfl, rfl⟩
set_option maxRecDepth 20000 in
set_option maxHeartbeats 1000000 in
theorem implRight (d s : ByteArray) (x y : Int) (w : World) :
    Calls Tryd.prog 37 #[keyV d s x y] w fun e w' => e = .returned (.bool (keyOk x y)) ∧ Below w.heap.size w w' := by
  have hA : ∀ ob, Below w.heap.size w (w.alloc ob) := fun ob => (Below.refl _ _).alloc (Nat.le_refl _) _
  have hX := fun w => implFactor x w
  have hY := fun w => implFactor y w
  unfold keyOk
  rw [← Bool.and_assoc]
  generalize (decide (1 ≤ x) && decide (x < 2147483647)) = bx at *
  generalize (decide (1 ≤ y) && decide (y < 2147483647)) = by' at *
  cases bx
  · rw [Bool.false_and]
    go_enter Tryd.func37, Tryd.ntmps37
    go_wp2_with fail
    refine (hX _).mono ?_
    rintro e w2 ⟨rfl, rfl⟩
    go_wp2
    go_ret
    exact ⟨rfl, hA _⟩
  · rw [Bool.true_and]
    go_enter Tryd.func37, Tryd.ntmps37
    go_wp2_with fail
    refine (hX _).mono ?_
    rintro e w2 ⟨rfl, rfl⟩
    go_wp2_with fail
    refine (hY _).mono ?_
    rintro e w2 ⟨rfl, rfl⟩
    go_wp2
    go_ret
    exact ⟨rfl, hA _⟩
set_option maxRecDepth 20000 in
set_option maxHeartbeats 1000000 in
theorem implSumWith (d s : ByteArray) (A B a b c : Nat) (w : World) (hA : A < 2147483647) (hB : B < 2147483647) (ha : a < 2147483647) (hb : b < 2147483647) (hc : c < 256) :
    Calls Tryd.prog 39 #[keyV d s A B, sumV a b, .int .u8 c] w fun e w' => e = .returned (sumV ((a * A + c + 1) % 2147483647) ((b * B + c + 1) % 2147483647)) ∧ Below w.heap.size w w' := by
  have hma := mul_bound a A ha hA
  have hmb := mul_bound b B hb hB
  obtain ⟨pa, hpa⟩ : ∃ pa, a * A = pa := ⟨_, rfl⟩
  obtain ⟨pb, hpb⟩ : ∃ pb, b * B = pb := ⟨_, rfl⟩
  rw [hpa] at hma ⊢
  rw [hpb] at hmb ⊢
  have ea : (a : Int) * (A : Int) = (pa : Int) := by rw [← hpa]; rfl
  have eb : (b : Int) * (B : Int) = (pb : Int) := by rw [← hpb]; rfl
  clear hpa hpb
  go_enter Tryd.func39, Tryd.ntmps39
  go_wp2
  refine bodyPost_ret (v := .agg #[.int .i64 (((pa : Int) + ((c : Int) + 1)) % 2147483647), .int .i64 (((pb : Int) + ((c : Int) + 1)) % 2147483647)]) (by simp [results, Tryd.results39, go_sem]) rfl ⟨?_, ?_⟩
  · have e1 : ((pa : Int) + ((c : Int) + 1)) % 2147483647 = (((pa + c + 1) % 2147483647 : Nat) : Int) := by omega
    have e2 : ((pb : Int) + ((c : Int) + 1)) % 2147483647 = (((pb + c + 1) % 2147483647 : Nat) : Int) := by omega
    rw [e1, e2]
  · exact (((Below.refl _ _).alloc (Nat.le_refl _) _).alloc (by simp) _).alloc (by simp; omega) _
set_option maxRecDepth 20000 in
theorem entersSum : ∀ (args : Array Value) (w : World), (callFunc 39 args).run Tryd.prog w = .ok (.enter 39 args) w := Go.Proofs.enters_of Tryd.func39 (by kernel_rfl) rfl
set_option maxRecDepth 20000 in
theorem wp_load_row {P : Program} {w : World} {o : Oper} {a : Act} {K : Act → World → Prop} {Q : Exit → Act → World → Prop} (ty : TypeId) (x : Operand) (ho : o.op = .load ty x)
    (g : Nat) (cs : Array Value) (t : TypeId) (fr : Nat × Nat) (d : TypeDesc) (hx : a.eval x = .pointer (some ⟨g, 0, none⟩)) (hgp : w.heap[g]? = some (.cells cs t fr))
    (hu : P.underlying ty = some d) (hd : (match d with | .struct _ | .array _ _ => true | _ => false) = true) (hi : (P.info? ty).map (·.size) = some cs.size)
    (h : K (a.put o.dst (.agg cs)) w) : Oper.wp P o a w K Q := by
  unfold Oper.wp execOp
  simp only [ho, hx, Instr.loadAt, Instr.sureAddr, Sem.run_bind, Sem.run_pure, Result.andThen_ok, run_loadVar_row w g t ty cs fr d hgp hu hd hi]
  exact h
set_option maxRecDepth 10000 in
set_option maxHeartbeats 2000000 in
theorem implGatherS (d s t : ByteArray) (A B : Nat) (w : World) (ht : t.size ≤ 200000) (hA : A < 2147483647) (hB : B < 2147483647) :
    Calls Tryd.prog 38 #[.string t, sumV 1 1, .func (.func 39) #[keyV d s A B] #[]] w fun e w' => e = .returned (sumV (Ps.sm A 1 t.data.toList) (Ps.sm B 1 t.data.toList)) ∧ Below w.heap.size w w' := by
  have hE := entersSum
  obtain ⟨RA, hRA⟩ : ∃ R, Ps.sm A 1 t.data.toList = R := ⟨_, rfl⟩
  obtain ⟨RB, hRB⟩ : ∃ R, Ps.sm B 1 t.data.toList = R := ⟨_, rfl⟩
  have HRA : Hid (Ps.sm A 1 (t.data.toList.drop 0) = RA) := hRA
  have HRB : Hid (Ps.sm B 1 (t.data.toList.drop 0) = RB) := hRB
  rw [hRA, hRB]
  clear hRA hRB
  have HW : Hid ((((w.alloc (.cells #[.int .i64 1, .int .i64 1] 70)).alloc (.cells #[.int .i64 0, .int .i64 0] 70)).heap[w.heap.size]? = some (.cells #[.int .i64 ((1 : Nat) : Int), .int .i64 ((1 : Nat) : Int)] 70 (0, 0))) ∧ ((w.alloc (.cells #[.int .i64 1, .int .i64 1] 70)).alloc (.cells #[.int .i64 0, .int .i64 0] 70)).heap[w.heap.size + 1]? = some (.cells #[.int .i64 0, .int .i64 0] 70 (0, 0))) := by
    constructor
    · exact (heap_alloc_old _ _ _ (by simp)).trans (heap_alloc_at _ _)
    · have := heap_alloc_at (w.alloc (.cells #[.int .i64 1, .int .i64 1] 70)) (.cells #[.int .i64 0, .int .i64 0] 70)
      simpa using this
  have HB0 : Hid (Below w.heap.size w ((w.alloc (.cells #[.int .i64 1, .int .i64 1] 70)).alloc (.cells #[.int .i64 0, .int .i64 0] 70))) := ((Below.refl _ _).alloc (Nat.le_refl _) _).alloc (by simp) _
  go_enter Tryd.func38, Tryd.ntmps38
  go_wp2
  go_loopw [7, 10] (fun _ i wr => ∃ (k a b : Nat), k ≤ t.size ∧ i = .int .i64 k ∧ a < 2147483647 ∧ b < 2147483647 ∧ Hid (Ps.sm A a (t.data.toList.drop k) = RA) ∧ Hid (Ps.sm B b (t.data.toList.drop k) = RB) ∧ Hid (wr.heap[w.heap.size]? = some (.cells #[.int .i64 (a : Int), .int .i64 (b : Int)] 70 (0, 0))) ∧ Hid (wr.heap[w.heap.size + 1]? = some (.cells #[.int .i64 0, .int .i64 0] 70 (0, 0))) ∧ Hid (Below w.heap.size w wr)) (fun _ i _ => t.size - (Lib.intOf i).toNat)
  case atStart => exact ⟨0, 1, 1, Nat.zero_le _, rfl, by omega, by omega, HRA, HRB, HW.out.1, HW.out.2, HB0⟩
  case round =>
    clear HRA HRB HW HB0
    obtain ⟨k, a, b, hk, rfl, ha, hb, HRA, HRB, HV, HO, HB⟩ := hrel
    by_cases hlt : k < t.size
    · have h8 : t[k].toNat < 256 := UInt8.toNat_lt _
      have stepA : Hid (Ps.sm A ((a * A + t[k].toNat + 1) % 2147483647) (t.data.toList.drop (k + 1)) = RA) := by
        have := HRA.out
        rw [List.drop_eq_getElem_cons (by simpa using hlt), Ps.sm] at this
        exact this
      have stepB : Hid (Ps.sm B ((b * B + t[k].toNat + 1) % 2147483647) (t.data.toList.drop (k + 1)) = RB) := by
        have := HRB.out
        rw [List.drop_eq_getElem_cons (by simpa using hlt), Ps.sm] at this
        exact this
      have hC := fun w => implSumWith d s A B a b t[k].toNat w hA hB ha hb h8
      have la : (a * A + t[k].toNat + 1) % 2147483647 < 2147483647 := Nat.mod_lt _ (by omega)
      have lb : (b * B + t[k].toNat + 1) % 2147483647 < 2147483647 := Nat.mod_lt _ (by omega)
      generalize hsk : t[k] = c at *
      generalize (a * A + c.toNat + 1) % 2147483647 = na at *
      generalize (b * B + c.toNat + 1) % 2147483647 = nb at *
      clear HRA HRB
      go_wp2
      have hV1 : ({ wr with drawn := wr.drawn + 1 } : World).heap[w.heap.size]? = some (.cells #[.int .i64 (a : Int), .int .i64 (b : Int)] 70 (0, 0)) := HV.out
      have HO1 : Hid (({ wr with drawn := wr.drawn + 1 } : World).heap[w.heap.size + 1]? = some (.cells #[.int .i64 0, .int .i64 0] 70 (0, 0))) := HO.out
      have HB1 : Hid (Below w.heap.size w { wr with drawn := wr.drawn + 1 }) := HB.out.drew
      refine wp_region_any (by kernel_rfl) ?_
      obtain ⟨V, hV⟩ : ∃ V : World, V = { wr with drawn := wr.drawn + 1 } := ⟨_, rfl⟩
      rw [← hV] at hV1 HO1 HB1 ⊢
      clear hV HV HO HB
      refine wpAny_take (i := 0) (v := .func (.func 39) #[keyV d s A B] #[]) rfl (by kernel_rfl) (by kernel_rfl) (by kernel_rfl) (fun _ _ _ h => h) (Or.inl ⟨by rfl, ?_⟩) ?_
      · intro w
        go_simp
      go_simp
      refine wpAny_take (i := 2) (v := .string t) rfl (by kernel_rfl) (by kernel_rfl) (by kernel_rfl) (fun _ _ _ h => h) (Or.inl ⟨by rfl, ?_⟩) ?_
      · intro w
        go_simp
      go_simp
      refine wpAny_take (i := 3) (v := .int .i64 (k : Int)) rfl (by kernel_rfl) (by kernel_rfl) (by kernel_rfl) (fun _ _ _ h => h) (Or.inl ⟨by rfl, ?_⟩) ?_
      · intro w
        go_simp
      go_simp
      refine wpAny_take (i := 4) (v := .int .u8 (c.toNat : Int)) rfl (by kernel_rfl) (by kernel_rfl) (by kernel_rfl) (fun _ _ _ h => h) (Or.inl ⟨by rfl, ?_⟩) ?_
      · intro w
        go_simp
      go_simp
      refine wpAny_ready (rs := [1]) (by kernel_rfl) (by simp) ?_
      refine AllReady.cons rfl (fun K hK => ?_) AllReady.nil
      split
      case isFalse hnw => exact absurd rfl hnw
      refine wp_load_row 70 _ rfl w.heap.size _ 70 (0, 0) _ rfl hV1 Tryd.underlying70 rfl (by kernel_rfl) ?_
      refine hK _ _ ?_
      clear hK K
      go_simp
      refine wpAny_ready (rs := [5]) (by kernel_rfl) (by simp) ?_
      refine AllReady.cons rfl (fun K hK => ?_) AllReady.nil
      go_simp
      refine (hC _).mono ?_
      rintro e w2 ⟨rfl, hb2⟩
      have hV2 := (hb2.block _ (heap_lt hV1)).trans hV1
      have HO2 : Hid (w2.heap[w.heap.size + 1]? = some (.cells #[.int .i64 0, .int .i64 0] 70 (0, 0))) := (hb2.block _ (heap_lt HO1.out)).trans HO1.out
      have HB2 : Hid (Below w.heap.size w w2) := HB1.out.trans (hb2.mono HB1.out.size)
      clear hb2 hV1 HO1 HB1 hC
      go_simp
      refine hK _ _ ?_
      clear hK K
      go_simp
      refine wpAny_ready (rs := [6]) (by kernel_rfl) (by simp) ?_
      refine AllReady.cons rfl (fun K hK => ?_) AllReady.nil
      split
      case isFalse hnw => exact absurd rfl hnw
      refine wp_store_row 70 _ _ rfl w.heap.size #[.int .i64 (na : Int), .int .i64 (nb : Int)] rfl rfl 70 _ hV2 (by kernel_rfl) rfl (by simp [Value.oneCell']) ?_
      refine hK _ _ ?_
      clear hK K
      refine wpAny_done (by kernel_rfl) ?_ _
      have HV3 : Hid ((w2.setRow w.heap.size #[.int .i64 (na : Int), .int .i64 (nb : Int)]).heap[w.heap.size]? = some (.cells #[.int .i64 (na : Int), .int .i64 (nb : Int)] 70 (0, 0))) := setRow_heap _ _ _ _ _ _ hV2
      have HO3 : Hid ((w2.setRow w.heap.size #[.int .i64 (na : Int), .int .i64 (nb : Int)]).heap[w.heap.size + 1]? = some (.cells #[.int .i64 0, .int .i64 0] 70 (0, 0))) := (setRow_other _ _ _ _ (by omega)).trans HO2.out
      have HB3 : Hid (Below w.heap.size w (w2.setRow w.heap.size #[.int .i64 (na : Int), .int .i64 (nb : Int)])) := HB2.out.grown (grown_setRow _ _ _) HB2.out.size (fun j hj => by cases hj; omega)
      go_wp2
      go_roundw
      case rel => exact ⟨k + 1, na, nb, by omega, by go_num, la, lb, stepA, stepB, HV3, HO3, HB3⟩
      case measure => simp [Lib.intOf]; omega
    · have ea : a = RA := by
        rw [← HRA.out, List.drop_eq_nil_of_le (by simp; omega)]; rfl
      have eb : b = RB := by
        rw [← HRB.out, List.drop_eq_nil_of_le (by simp; omega)]; rfl
      subst ea eb
      have hV := HV.out
      have hO := HO.out
      have hB := HB.out
      clear HRA HRB HV HO HB
      go_wp2_with (first | (refine wpL_store_row rfl 70 _ _ rfl (w.heap.size + 1) #[.int .i64 a, .int .i64 b] rfl rfl 70 _ hO (by kernel_rfl) rfl (by simp [Value.oneCell']) ?_) | (refine wpL_load_row rfl 70 _ rfl w.heap.size _ 70 (0, 0) _ rfl hV Tryd.underlying70 rfl (by kernel_rfl) ?_) | go_in)
      refine bodyPost_ret (v := sumV a b) (results_cell_row Tryd.results38 _ _ (w.heap.size + 1) 70 _ (0, 0) _ rfl (setRow_heap _ _ _ _ _ _ hO) Tryd.underlying70 rfl (by kernel_rfl)) rfl ⟨rfl, hB.grown (grown_setRow _ _ _) hB.size (fun j hj => by cases hj; omega)⟩
set_option maxRecDepth 20000 in
set_option maxHeartbeats 1000000 in
theorem implSum (d s t : ByteArray) (A B : Nat) (w : World) (hd : d.size ≤ 100000) (hs : s.size ≤ 100000) (ht : t.size ≤ 200000) (hA0 : 1 ≤ A) (hA : A < 2147483647) (hB0 : 1 ≤ B) (hB : B < 2147483647) :
    Calls Tryd.prog 23 #[keyV d s A B, .string t] w fun e w' => e = .returned (sumV (Ps.sm A 1 t.data.toList) (Ps.sm B 1 t.data.toList)) ∧ Below w.heap.size w w' := by
  have hL := fun w => implLongName d s A B w hd hs
  have hK := fun w => implRight d s A B w
  have hG := fun w => implGatherS d s t A B w ht hA hB
  rw [show keyOk (A : Int) (B : Int) = true from (keyOk_iff _ _).2 (by omega)] at hK
  obtain ⟨f0, f1, f2, f3⟩ := sumW_facts d s A B w
  generalize Ps.sm A 1 t.data.toList = RA at *
  generalize Ps.sm B 1 t.data.toList = RB at *
  go_enter Tryd.func23, Tryd.ntmps23
  go_wp2_with fail
  refine (hL _).mono ?_
  rintro e w2 ⟨rfl, hb2⟩
  have hres2 := (hb2.block (w.heap.size + 1) (by rw [f2]; omega)).trans f1
  have hkey2 := (hb2.block w.heap.size (by rw [f2]; omega)).trans f0
  have Hb2 : Hid (Below w.heap.size w w2) := f3.trans (hb2.mono f3.size)
  have q0 : w2.cell? ⟨w.heap.size, 0, none⟩ = some (.string d) := by simp [World.cell?, hkey2]
  have q1 : w2.cell? ⟨w.heap.size, 1, none⟩ = some (.string s) := by simp [World.cell?, hkey2]
  have q2 : w2.cell? ⟨w.heap.size, 2, none⟩ = some (.int .i64 A) := by simp [World.cell?, hkey2]
  have q3 : w2.cell? ⟨w.heap.size, 3, none⟩ = some (.int .i64 B) := by simp [World.cell?, hkey2]
  clear hL f0 f1 f2 f3 hb2
  go_wp2_with fail
  refine (hK _).mono ?_
  rintro e w3 ⟨rfl, hb3⟩
  have hres3 := (hb3.block _ (heap_lt hres2)).trans hres2
  have hkey3 := (hb3.block _ (heap_lt hkey2)).trans hkey2
  have Hb3 : Hid (Below w.heap.size w w3) := Hb2.out.trans (hb3.mono Hb2.out.size)
  clear hK hb3 hres2 hkey2 Hb2 q0 q1 q2 q3
  have q0 : w3.cell? ⟨w.heap.size, 0, none⟩ = some (.string d) := by simp [World.cell?, hkey3]
  have q1 : w3.cell? ⟨w.heap.size, 1, none⟩ = some (.string s) := by simp [World.cell?, hkey3]
  have q2 : w3.cell? ⟨w.heap.size, 2, none⟩ = some (.int .i64 A) := by simp [World.cell?, hkey3]
  have q3 : w3.cell? ⟨w.heap.size, 3, none⟩ = some (.int .i64 B) := by simp [World.cell?, hkey3]
  go_wp2_with fail
  refine (hG _).mono ?_
  rintro e w4 ⟨rfl, hb4⟩
  have hres4 := (hb4.block _ (heap_lt hres3)).trans hres3
  have hB4 := Hb3.out.trans (hb4.mono Hb3.out.size)
  clear hG hb4 hres3 hkey3 Hb3 q0 q1 q2 q3
  go_wp2_with (first | (refine wpL_store_row rfl 70 _ _ rfl (w.heap.size + 1) #[.int .i64 RA, .int .i64 RB] rfl rfl 70 _ hres4 (by kernel_rfl) rfl (by simp [Value.oneCell']) ?_) | go_in)
  refine bodyPost_ret (v := sumV RA RB) (results_cell_row Tryd.results23 _ _ (w.heap.size + 1) 70 _ (0, 0) _ rfl (setRow_heap _ _ _ _ _ _ hres4) Tryd.underlying70 rfl (by kernel_rfl)) rfl ⟨rfl, hB4.grown (grown_setRow _ _ _) hB4.size (fun j hj => by cases hj; omega)⟩
set_option maxRecDepth 20000 in
set_option maxHeartbeats 1000000 in
theorem implSumBad (d s t : ByteArray) (x y : Int) (w : World) (hd : d.size ≤ 100000) (hs : s.size ≤ 100000) (h : keyOk x y = false) :
    Calls Tryd.prog 23 #[keyV d s x y, .string t] w fun e w' => e = .returned (sumV 0 0) ∧ Below w.heap.size w w' := by
  have hL := fun w => implLongName d s x y w hd hs
  have hK := fun w => implRight d s x y w
  rw [h] at hK
  obtain ⟨f0, f1, f2, f3⟩ := sumW_facts d s x y w
  go_enter Tryd.func23, Tryd.ntmps23
  go_wp2_with fail
  refine (hL _).mono ?_
  rintro e w2 ⟨rfl, hb2⟩
  have hres2 := (hb2.block (w.heap.size + 1) (by rw [f2]; omega)).trans f1
  have hkey2 := (hb2.block w.heap.size (by rw [f2]; omega)).trans f0
  have Hb2 : Hid (Below w.heap.size w w2) := f3.trans (hb2.mono f3.size)
  have q0 : w2.cell? ⟨w.heap.size, 0, none⟩ = some (.string d) := by simp [World.cell?, hkey2]
  have q1 : w2.cell? ⟨w.heap.size, 1, none⟩ = some (.string s) := by simp [World.cell?, hkey2]
  have q2 : w2.cell? ⟨w.heap.size, 2, none⟩ = some (.int .i64 x) := by simp [World.cell?, hkey2]
  have q3 : w2.cell? ⟨w.heap.size, 3, none⟩ = some (.int .i64 y) := by simp [World.cell?, hkey2]
  clear hL f0 f1 f2 f3 hb2
  go_wp2_with fail
  refine (hK _).mono ?_
  rintro e w3 ⟨rfl, hb3⟩
  have hres3 := (hb3.block _ (heap_lt hres2)).trans hres2
  have hB3 := Hb2.out.trans (hb3.mono Hb2.out.size)
  clear hK hb3 hres2 hkey2 Hb2 q0 q1 q2 q3
  go_wp2_with (first | (refine wpL_store_row rfl 70 _ _ rfl (w.heap.size + 1) #[.int .i64 0, .int .i64 0] rfl rfl 70 _ hres3 (by kernel_rfl) rfl (by simp [Value.oneCell']) ?_) | go_in)
  refine bodyPost_ret (v := sumV 0 0) (results_cell_row Tryd.results23 _ _ (w.heap.size + 1) 70 _ (0, 0) _ rfl (setRow_heap _ _ _ _ _ _ hres3) Tryd.underlying70 rfl (by kernel_rfl)) rfl ⟨rfl, hB3.grown (grown_setRow _ _ _) hB3.size (fun j hj => by cases hj; omega)⟩
end Go.Proofs.YtillilllceeonaaDoor
