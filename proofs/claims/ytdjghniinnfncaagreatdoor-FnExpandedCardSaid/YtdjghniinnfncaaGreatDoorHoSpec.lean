
/- CanonField, the specification's side. -/

/- SumOf, the specification's side. -/

/- The tests of a signer's texts, both sides. -/

/- SignerFault, both sides. -/

/- What a head's sum is told of, the specification's side. -/

/- The specification's HostsOf: rows in a list of their own, appends. -/
import Derived.Test.YtdjghniinnfncaaGreatDoorWriteHead
import Derived.Test.YtdjghniinnfncaaGreatDoorKyDom
import Derived.Lib.QuietBelow
import Derived.Deep.QuietTactic
import Derived.BigQuiet
import Derived.Test.YtdjghniinnfncaaGreatDoorChecked
import Derived.Test.YtdjghniinnfncaaGreatDoorBytes
import Derived.WalkKit
import Derived.WalkLawsBesides
import Derived.WalkSpells
import Derived.WalkSmall
import Derived.Below
import Derived.Test.YtdjghniinnfncaaGreatDoorGenBase
import Derived.Lib.Agree
import Derived.Deep.RegionWith
namespace Go.Proofs.YtdjghniinnfncaaGreatDoor
open Go.RowKit Go.Lib
def relaxV (v : ByteArray) : List UInt8 := Pl.trimB (Pl.runs (Pl.unf false v.data.toList))
def canonF (n v : ByteArray) (x : Int) : ByteArray :=
  if Pl.hd [] [(n, v)] = [] then ⟨#[]⟩
  else if x = 0 then n ++ ⟨#[58]⟩ ++ v ++ ⟨#[13, 10]⟩
  else if x = 1 then ⟨(lower n.data.toList).toArray⟩ ++ ⟨#[58]⟩ ++ ⟨(relaxV v).toArray⟩ ++ ⟨#[13, 10]⟩
  else ⟨#[]⟩
namespace Pl
set_option maxRecDepth 20000 in
theorem rn_len : ∀ (l : List UInt8) (b : Bool), (rn b l).length ≤ l.length
  | [], b => by simp [rn]
  | c :: r, b => by
    have h1 := rn_len r true
    have h2 := rn_len r false
    rw [rn]
    split
    · split
      · simp; omega
      · simp; omega
    · simp; omega
set_option maxRecDepth 20000 in
theorem runs_len (l : List UInt8) : (runs l).length ≤ l.length := by
  have := rn_len l false
  unfold runs bareEnd
  split
  · rw [List.length_dropLast]; omega
  · exact this
set_option maxRecDepth 20000 in
theorem dropW_len : ∀ (l : List UInt8), (l.dropWhile blank).length ≤ l.length
  | [] => by simp
  | c :: r => by
    rw [List.dropWhile_cons]
    split
    · have := dropW_len r; simp; omega
    · simp
set_option maxRecDepth 20000 in
theorem trimB_len (l : List UInt8) : (trimB l).length ≤ l.length := by
  unfold trimB endB
  rw [List.length_reverse]
  have h1 := dropW_len (l.dropWhile blank).reverse
  have h2 := dropW_len l
  rw [List.length_reverse] at h1
  omega
end Pl
set_option maxRecDepth 20000 in
theorem hd_one (n v : ByteArray) (h : ¬ Pl.hd [] [(n, v)] = []) : n.size ≤ 100000 ∧ v.size ≤ 100000 := by
  rw [Pl.hd] at h
  split at h
  · split at h
    · exact absurd rfl h
    · rename_i hl
      rw [List.nil_append, Pl.line_len] at hl
      exact ⟨by show n.size ≤ _; simp at hl; omega, by show v.size ≤ _; simp at hl; omega⟩
  · exact absurd rfl h
end Go.Proofs.YtdjghniinnfncaaGreatDoor

/- Plain mathematics of sums: a prime, the fold over a text, one byte turned. No program. -/
namespace Go.Proofs.YtdjghniinnfncaaGreatDoor
namespace Ps
/-- No number from d on, for f steps, divides p. -/
def none_ (p : Nat) : Nat → Nat → Bool
  | 0, _ => true
  | f + 1, d => !(p % d == 0) && none_ p f (d + 1)
set_option maxRecDepth 20000 in
theorem none_spec (p : Nat) : ∀ (f d : Nat), none_ p f d = true → ∀ x, d ≤ x → x < d + f → ¬ p % x = 0
  | 0, d, _, x, h1, h2 => by omega
  | f + 1, d, h, x, h1, h2 => by
    rw [none_, Bool.and_eq_true] at h
    by_cases e : x = d
    · subst e
      simpa using h.1
    · exact none_spec p f (d + 1) h.2 x (by omega) (by omega)
abbrev P : Nat := 2147483647
set_option maxRecDepth 1000000 in
theorem none_P : none_ P 46340 2 = true := by decide +kernel
set_option maxRecDepth 20000 in
theorem small_div (x : Nat) (h2 : 2 ≤ x) (h : x * x ≤ P) : ¬ P % x = 0 := by
  refine none_spec P 46340 2 none_P x h2 ?_
  have h3 : x < 46341 := by
    by_cases hx : x < 46341
    · exact hx
    · have : 46341 * 46341 ≤ x * x := Nat.mul_le_mul (by omega) (by omega)
      unfold P at h
      omega
  omega
set_option maxRecDepth 20000 in
theorem coprime_P (x : Nat) (h0 : 1 ≤ x) (h1 : x < P) : Nat.Coprime P x := by
  have hg : Nat.gcd P x ∣ P := Nat.gcd_dvd_left P x
  have hgx : Nat.gcd P x ∣ x := Nat.gcd_dvd_right P x
  have hle : Nat.gcd P x ≤ x := Nat.le_of_dvd (by omega) hgx
  obtain ⟨g, hgg⟩ : ∃ g, Nat.gcd P x = g := ⟨_, rfl⟩
  show Nat.gcd P x = 1
  rw [hgg] at hg hgx hle ⊢
  obtain ⟨q, hq⟩ := hg
  by_cases hg1 : g ≤ 1
  · have : g ≠ 0 := by
      rintro rfl
      rw [Nat.zero_mul] at hq
      exact absurd hq (by decide)
    omega
  · exfalso
    have hq2 : 2 ≤ q := by
      by_cases hq2 : 2 ≤ q
      · exact hq2
      · have : q = 0 ∨ q = 1 := by omega
        rcases this with rfl | rfl
        · rw [Nat.mul_zero] at hq; exact absurd hq (by decide)
        · rw [Nat.mul_one] at hq; omega
    rcases Nat.le_total g q with hgq | hgq
    · have hs : g * g ≤ P := by rw [hq]; exact Nat.mul_le_mul_left g hgq
      exact small_div g (by omega) hs (by rw [hq]; exact Nat.mul_mod_right g q)
    · have hs : q * q ≤ P := by rw [hq]; exact Nat.mul_le_mul_right q hgq
      exact small_div q hq2 hs (by rw [hq, Nat.mul_comm]; exact Nat.mul_mod_right q g)
/-- A sum, from a number on. -/
def sm (A : Nat) : Nat → List UInt8 → Nat
  | s, [] => s
  | s, c :: r => sm A ((s * A + c.toNat + 1) % P) r
set_option maxRecDepth 20000 in
theorem sm_lt (A : Nat) : ∀ (l : List UInt8) (s : Nat), s < P → sm A s l < P
  | [], s, h => h
  | c :: r, s, h => by
    rw [sm]
    exact sm_lt A r _ (Nat.mod_lt _ (by decide))
set_option maxRecDepth 20000 in
/-- Numbers apart stay apart by a step. -/
theorem step_inj (A s t k : Nat) (hA0 : 1 ≤ A) (hA : A < P) (_hs : s < P) (ht : t < P) (hst : s < t) : (s * A + k) % P ≠ (t * A + k) % P := by
  intro e
  have hle : s * A ≤ t * A := Nat.mul_le_mul_right A (by omega)
  have hd : P ∣ (t * A + k) - (s * A + k) := Nat.dvd_of_mod_eq_zero (Nat.sub_mod_eq_zero_of_mod_eq e.symm)
  rw [show t * A + k - (s * A + k) = (t - s) * A from by rw [Nat.sub_mul]; omega] at hd
  have hc := coprime_P A hA0 hA
  have h2 : P ∣ t - s := Nat.Coprime.dvd_of_dvd_mul_right hc hd
  have := Nat.le_of_dvd (by omega) h2
  omega
set_option maxRecDepth 20000 in
theorem step_ne (A s t k : Nat) (hA0 : 1 ≤ A) (hA : A < P) (hs : s < P) (ht : t < P) (hst : s ≠ t) : (s * A + k) % P ≠ (t * A + k) % P := by
  rcases Nat.lt_or_gt_of_ne hst with h | h
  · exact step_inj A s t k hA0 hA hs ht h
  · exact (step_inj A t s k hA0 hA ht hs h).symm
set_option maxRecDepth 20000 in
theorem sm_ne (A : Nat) (hA0 : 1 ≤ A) (hA : A < P) : ∀ (l : List UInt8) (s t : Nat), s < P → t < P → s ≠ t → sm A s l ≠ sm A t l
  | [], _, _, _, _, h => h
  | c :: r, s, t, hs, ht, h => by
    rw [sm, sm]
    refine sm_ne A hA0 hA r _ _ (Nat.mod_lt _ (by decide)) (Nat.mod_lt _ (by decide)) ?_
    rw [Nat.add_assoc, Nat.add_assoc]
    exact step_ne A s t _ hA0 hA hs ht h
set_option maxRecDepth 20000 in
theorem sm_app (A : Nat) : ∀ (p r : List UInt8) (s : Nat), sm A s (p ++ r) = sm A (sm A s p) r
  | [], _, _ => rfl
  | c :: p, r, s => by
    rw [List.cons_append, sm, sm]
    exact sm_app A p r _
set_option maxRecDepth 20000 in
theorem near_ne (x c d : Nat) (hc : c < 256) (hd : d < 256) (h : c < d) : (x + c + 1) % P ≠ (x + d + 1) % P := by
  intro e
  have hdv : P ∣ (x + d + 1) - (x + c + 1) := Nat.dvd_of_mod_eq_zero (Nat.sub_mod_eq_zero_of_mod_eq e.symm)
  have := Nat.le_of_dvd (by omega) hdv
  unfold P at this
  omega
set_option maxRecDepth 20000 in
/-- One byte turned into another one: another sum. -/
theorem sm_turn (A s : Nat) (hA0 : 1 ≤ A) (hA : A < P) (p r : List UInt8) (c d : UInt8) (h : c ≠ d) : sm A s (p ++ c :: r) ≠ sm A s (p ++ d :: r) := by
  rw [sm_app, sm_app, sm, sm]
  refine sm_ne A hA0 hA r _ _ (Nat.mod_lt _ (by decide)) (Nat.mod_lt _ (by decide)) ?_
  have hc : c.toNat < 256 := UInt8.toNat_lt _
  have hd : d.toNat < 256 := UInt8.toNat_lt _
  have hn : c.toNat ≠ d.toNat := fun e => h (UInt8.toNat_inj.1 e)
  rcases Nat.lt_or_gt_of_ne hn with h' | h'
  · exact near_ne _ _ _ hc hd h'
  · exact (near_ne _ _ _ hd hc h').symm
end Ps
end Go.Proofs.YtdjghniinnfncaaGreatDoor
namespace Go.Proofs.YtdjghniinnfncaaGreatDoor
open Go.RowKit Go.Lib
abbrev keyV (d s : ByteArray) (x y : Int) : Value := .agg #[.string d, .string s, .int .i64 x, .int .i64 y]
def keyOk (x y : Int) : Bool := decide (1 ≤ x) && (decide (x < 2147483647) && (decide (1 ≤ y) && decide (y < 2147483647)))
set_option maxRecDepth 20000 in
theorem keyOk_iff (x y : Int) : keyOk x y = true ↔ 1 ≤ x ∧ x < 2147483647 ∧ 1 ≤ y ∧ y < 2147483647 := by
  unfold keyOk
  simp only [Bool.and_eq_true, decide_eq_true_eq]
abbrev sumV (a b : Nat) : Value := .agg #[.int .i64 a, .int .i64 b]
set_option maxRecDepth 20000 in
theorem wi64 (x : Int) (h0 : -9223372036854775808 ≤ x) (h1 : x ≤ 9223372036854775807) : IntKind.i64.wrap x = x := by
  unfold IntKind.wrap
  simp [IntKind.bits, IntKind.signed]
  omega
set_option maxRecDepth 20000 in
theorem mul_bound (a A : Nat) (ha : a < 2147483647) (hA : A < 2147483647) : a * A ≤ 4611686009837453316 := by
  have := Nat.mul_le_mul (show a ≤ 2147483646 by omega) (show A ≤ 2147483646 by omega)
  omega
end Go.Proofs.YtdjghniinnfncaaGreatDoor
namespace Go.Proofs.YtdjghniinnfncaaGreatDoor
open Go.RowKit Go.Lib
namespace Pl
def signB (c : UInt8) : Bool := decide (c.toNat ≤ 127) && (!(c == 59) && !(c == 61))
def selB (c : UInt8) : Bool := (decide (97 ≤ c.toNat) && decide (c.toNat ≤ 122)) || digit c
def apart (l : List UInt8) : Bool := l.all fun c => !(c == 59) && !(c == 61)
def selOk (l : List UInt8) : Bool := !l.isEmpty && (decide (l.length ≤ 60) && l.all selB)
def domOk (l : List UInt8) : Bool := domI l && (!(l.head? == some 91) && l.all signB)
def sNameOk (l : List UInt8) : Bool := nameOk l && l.all signB
set_option maxRecDepth 20000 in
theorem ix_neg (c : UInt8) : ∀ l : List UInt8, decide (indexByte l c < 0) = l.all fun x => !(x == c)
  | [] => by simp [indexByte]
  | a :: r => by
    have ih := ix_neg c r
    have hge := indexByte_ge r c
    rw [List.all_cons, ← ih, indexByte]
    cases hac : (a == c)
    · simp only [Bool.false_eq_true, if_false, Bool.not_false, Bool.true_and]
      cases h1 : (indexByte r c == -1)
      · have : indexByte r c ≠ -1 := by simpa using h1
        simp only [Bool.false_eq_true, if_false]
        congr 1
        exact propext (by omega)
      · have : indexByte r c = -1 := by simpa using h1
        simp [this]
    · simp
set_option maxRecDepth 20000 in
theorem apart_eq (l : List UInt8) : (decide (indexByte l 59 < 0) && decide (indexByte l 61 < 0)) = apart l := by
  rw [ix_neg, ix_neg, apart]
  induction l with
  | nil => rfl
  | cons a r ih =>
    rw [List.all_cons, List.all_cons, List.all_cons, ← ih]
    cases (!(a == 59)) <;> cases (!(a == 61)) <;> simp
set_option maxRecDepth 20000 in
theorem signB_eq (l : List UInt8) : (l.all fun c => decide (c.toNat ≤ 127)) = true → l.all signB = apart l := by
  intro h
  rw [apart]
  induction l with
  | nil => rfl
  | cons a r ih =>
    rw [List.all_cons, Bool.and_eq_true] at h
    rw [List.all_cons, List.all_cons, ih h.2, signB, h.1, Bool.true_and]
set_option maxRecDepth 20000 in
theorem signB_ascii (l : List UInt8) : l.all signB = (apart l && l.all fun c => decide (c.toNat ≤ 127)) := by
  induction l with
  | nil => rfl
  | cons a r ih =>
    rw [List.all_cons, apart, List.all_cons, List.all_cons, ih, apart, signB]
    cases decide (a.toNat ≤ 127) <;> cases (!(a == 59) && !(a == 61)) <;> cases (r.all fun c => !(c == 59) && !(c == 61)) <;> simp
set_option maxRecDepth 20000 in
theorem name_ascii (l : List UInt8) (h : nameOk l = true) : (l.all fun c => decide (c.toNat ≤ 127)) = true := by
  unfold nameOk at h
  rw [Bool.and_eq_true, Bool.and_eq_true] at h
  rw [List.all_eq_true]
  intro c hc
  have := List.all_eq_true.1 h.2.2 c hc
  unfold nb at this
  simp at this
  simp
  omega
set_option maxRecDepth 20000 in
theorem sName_eq (l : List UInt8) : sNameOk l = (nameOk l && apart l) := by
  unfold sNameOk
  cases h : nameOk l
  · rfl
  · rw [Bool.true_and, Bool.true_and, signB_eq l (name_ascii l h)]
end Pl
set_option maxRecDepth 20000 in
theorem head_at (s : ByteArray) (h : 0 < s.size) : (s.data.toList.head? == some 91) = (s[0] == 91) := by
  have : s.data.toList.head? = some s[0] := by
    rw [List.head?_eq_getElem?, List.getElem?_eq_getElem (by simpa using h)]
    rfl
  rw [this]
  rfl
end Go.Proofs.YtdjghniinnfncaaGreatDoor
namespace Go.Proofs.YtdjghniinnfncaaGreatDoor
open Go.RowKit Go.Lib
def nameB (t : ByteArray) : Bool := Pl.sNameOk t.data.toList
set_option maxRecDepth 20000 in
theorem Pl.all_stepT (K : ByteArray → Bool) (F : List ByteArray) (k : Nat) (h : k < F.length) : (F.drop k).all K = (K F[k] && (F.drop (k + 1)).all K) := by
  rw [List.drop_eq_getElem_cons h, List.all_cons]
/-- Whether a signer is right. -/
def signerOk (d s : ByteArray) (A B : Int) (F : List ByteArray) (h b : Int) : Bool :=
  Pl.domOk d.data.toList && (Pl.selOk s.data.toList && (keyOk A B && (decide (h = 0 ∨ h = 1) && (decide (b = 0 ∨ b = 1) && (decide (1 ≤ F.length) && (decide (F.length ≤ 30) && F.all nameB))))))
abbrev sgV (d s : ByteArray) (A B : Int) (v : Value) (h b : Int) : Value := .agg #[.string d, .string s, .int .i64 A, .int .i64 B, v, .int .i64 h, .int .i64 b]
set_option maxRecDepth 20000 in
theorem sg_cells {w : World} {g : Nat} {d s : ByteArray} {A B h b : Int} {v : Value} {t : TypeId} (hk : w.heap[g]? = some (.cells #[.string d, .string s, .int .i64 A, .int .i64 B, v, .int .i64 h, .int .i64 b] t (0, 0))) :
    w.cell? ⟨g, 0, none⟩ = some (.string d) ∧ w.cell? ⟨g, 1, none⟩ = some (.string s) ∧ w.cell? ⟨g, 2, none⟩ = some (.int .i64 A) ∧ w.cell? ⟨g, 3, none⟩ = some (.int .i64 B) ∧ w.cell? ⟨g, 4, none⟩ = some v ∧ w.cell? ⟨g, 5, none⟩ = some (.int .i64 h) ∧ w.cell? ⟨g, 6, none⟩ = some (.int .i64 b) := by
  refine ⟨?_, ?_, ?_, ?_, ?_, ?_, ?_⟩ <;> simp [World.cell?, hk]
end Go.Proofs.YtdjghniinnfncaaGreatDoor
namespace Go.Proofs.YtdjghniinnfncaaGreatDoor
open Go.RowKit Go.Lib
set_option maxRecDepth 10000 in
set_option maxHeartbeats 1000000 in
theorem specSame (n m : ByteArray) (w : World) (hn : n.size ≤ 100000) (hm : m.size ≤ 100000) :
    Calls Tryz.prog 31 #[.string n, .string m] w fun e w' => e = .returned (.bool (namedB n m)) ∧ Below w.heap.size w w' := by
  have hA := fun w => specLower n w hn
  have hB := fun w => specLower m w hm
  have HE : Hid (namedB n m = ((⟨(lower n.data.toList).toArray⟩ : ByteArray).data.toList == (⟨(lower m.data.toList).toArray⟩ : ByteArray).data.toList)) := rfl
  generalize (⟨(lower n.data.toList).toArray⟩ : ByteArray) = ta at *
  generalize (⟨(lower m.data.toList).toArray⟩ : ByteArray) = tb at *
  have HA := (show Hid _ from hA)
  have HB := (show Hid _ from hB)
  clear hA hB
  go_enter Tryz.func31, Tryz.ntmps31
  go_wp2_with fail
  refine (HA.out _).mono ?_
  rintro e w1 ⟨rfl, hb1⟩
  go_wp2_with fail
  refine (HB.out _).mono ?_
  rintro e w2 ⟨rfl, hb2⟩
  have hbq := hb1.trans (hb2.mono hb1.size)
  go_wp2
  go_ret
  rw [HE.out, ← ByteArray.toList_eq, ← ByteArray.toList_eq]
  exact ⟨rfl, hbq⟩
end Go.Proofs.YtdjghniinnfncaaGreatDoor
namespace Go.Proofs.YtdjghniinnfncaaGreatDoor
open Go.RowKit Go.Lib Go.Maps Go.Shelf Go.Sort
set_option maxRecDepth 20000 in
theorem mxCells_join (C R : List GMx) : mxCells (C ++ R) = mxCells C ++ mxCells R := by simp [mxCells]
set_option maxRecDepth 20000 in
theorem mxCells_len (C : List GMx) : (mxCells C).length = C.length * 3 := by
  induction C with
  | nil => rfl
  | cons m r ih =>
    have e : mxCells (m :: r) = mxC m ++ mxCells r := rfl
    rw [e, List.length_append, ih]
    simp [mxC]
    omega
set_option maxRecDepth 20000 in
theorem mxCells_one (C : List GMx) : ∀ u ∈ mxCells C, u.oneCell' = true := by
  intro u hu
  simp only [mxCells, List.mem_flatMap] at hu
  obtain ⟨m, _, hm⟩ := hu
  simp [mxC] at hm
  rcases hm with rfl | rfl | rfl <;> rfl
set_option maxRecDepth 20000 in
theorem OwnM.base {B B' : Nat} {v : Value} {F : List GMx} {w : World} (h : OwnM B v F w) (hB : B' ≤ B) : OwnM B' v F w := by
  refine ⟨h.1, ?_⟩
  rcases h.2 with h0 | ⟨g, cap, cur, hv, hg, hr⟩
  · exact .inl h0
  · exact .inr ⟨g, cap, cur, hv, Nat.le_trans hB hg, hr⟩
set_option maxRecDepth 20000 in
theorem OwnM.shape {B : Nat} {v : Value} {F : List GMx} {w : World} (h : OwnM B v F w) : ∃ o c, v = .slice o F.length c := by
  rcases h.2 with ⟨hv, h0⟩ | ⟨g, cap, cur, hv, _⟩
  · exact ⟨none, 0, by rw [hv, h0]⟩
  · exact ⟨_, _, hv⟩
set_option maxRecDepth 20000 in
theorem OwnM.cells {B g c : Nat} {F : List GMx} {w : World} (h : OwnM B (.slice (some ⟨g, 0, none⟩) F.length c) F w) (j : Nat) (u : Value) (hu : (mxCells F)[j]? = some u) : w.cell? ⟨g, j, none⟩ = some u := by
  have hj : j < F.length * 3 := by rw [← mxCells_len]; exact (List.getElem?_eq_some_iff.1 hu).1
  rw [World.ownsRow.cellAt h j hj]
  exact hu
set_option maxRecDepth 20000 in
theorem OwnM.rows {B g c : Nat} {F : List GMx} {w : World} (h : OwnM B (.slice (some ⟨g, 0, none⟩) F.length c) F w) : GMxsL g (g + 1) w (some ⟨g, 0, none⟩) F := by
  intro i hi
  refine ⟨_, rfl, Nat.le_refl _, Nat.lt_succ_self _, ?_⟩
  have e : ((⟨g, 0, none⟩ : Addr).add (i * 3)) = ⟨g, i * 3, none⟩ := by rw [Addr.add_lit, Nat.zero_add]
  rw [e]
  exact ⟨h.cells (i * 3) _ (by have := mxCells_at F i 0 hi (by decide); rw [Nat.add_zero] at this; rw [this]; rfl), h.cells (i * 3 + 1) _ (by rw [mxCells_at F i 1 hi (by decide)]; rfl), h.cells (i * 3 + 2) _ (by rw [mxCells_at F i 2 hi (by decide)]; rfl)⟩
set_option maxRecDepth 20000 in
/-- An append of rows. -/
theorem wp_appM {w : World} {ops : Array Oper} {rest : List Oper} {o : Oper} {a : Act} {Q : Exit → Act → World → Prop} (hgd : o.guard = none) (s x : Operand)
    (ho : o.op = .call { callee := .builtin .append, args := #[s, x], argTypes := #[33, 33] })
    (B : Nat) (v : Value) (C : List GMx) (hs : a.eval s = v) (hown : OwnM B v C w) (R : List GMx) (ad : Addr)
    (n c : Nat) (hx : a.eval x = .slice (some ad) n c) (hn : n = R.length) (hR : ∀ j u, (mxCells R)[j]? = some u → w.cell? (ad.add j) = some u) (hlen : C.length + R.length ≤ 10000) (hB : B ≤ w.heap.size)
    (h : ∀ v' w', OwnM B v' (C ++ R) w' → w.grownBy w' v.ownBlock → wpList Tryz.prog ops Q rest (a.put o.dst v') w') : wpList Tryz.prog ops Q (o :: rest) a w := by
  obtain ⟨i0, hi0, hz0, hz1, hz2⟩ := info_parts Tryz.infoGMx
  subst hn
  unfold OwnM at hown
  refine wpList_append_own _ hgd s x 33 ho B 58 i0 _ 3 40 Tryz.underlying33 hi0 hz0 hz1 hz2 rfl (by decide) v C.length (mxCells C) hs hown ad R.length c (mxCells R) hx
    (mxCells_len R) hR (mxCells_one R) (by unfold maxLen; omega) (by omega) hB ?_
  intro v' w' h1 h2 _
  refine h v' w' ?_ h2
  unfold OwnM
  rw [mxCells_join, List.length_append]
  exact h1
set_option maxRecDepth 20000 in
theorem Ho.place_drop (t : GMx) (S : List GMx) (k : Nat) (h : k < S.length) : Ho.place t (S.drop k) = if Ho.le S[k] t then Ho.place t (S.drop (k + 1)) + 1 else 0 := by
  rw [List.drop_eq_getElem_cons h, Ho.place_cons]
/-- What stands while the rows are put in order. -/
structure HqT (B : Nat) (w : World) (S : List GMx) (g c : Nat) (W : World) : Prop where
  own : OwnM B (.slice (some ⟨g, 0, none⟩) S.length c) S W
  bel : Below B w W
set_option maxRecDepth 20000 in
theorem HqT.below {B : Nat} {w : World} {S : List GMx} {g c : Nat} {W W' : World} (h : HqT B w S g c W) (hb : Below W.heap.size W W') : HqT B w S g c W' := by
  have hg : g < W.heap.size ∧ B ≤ g := ⟨(Ho.holds_of h.own).2.1, (Ho.holds_of h.own).2.2⟩
  refine ⟨?_, h.bel.trans (hb.mono (by omega))⟩
  refine ⟨h.own.1, ?_⟩
  rcases h.own.2 with ⟨hv, _⟩ | ⟨g', cap', cur, hv, h1, h2, h3⟩
  · cases hv
  · cases hv
    exact .inr ⟨_, _, cur, rfl, h1, (hb.block _ hg.1).trans h2, h3⟩
set_option maxRecDepth 20000 in
theorem HqT.cap {B : Nat} {w : World} {S : List GMx} {g c : Nat} {W : World} (h : HqT B w S g c W) : S.length ≤ c := by
  rcases h.own.2 with ⟨hv, _⟩ | ⟨g', cap', cur, hv, h1, h2, h3, _⟩
  · cases hv
  · cases hv
    exact h3
set_option maxRecDepth 20000 in
theorem HqT.lt {B : Nat} {w : World} {S : List GMx} {g c : Nat} {W : World} (h : HqT B w S g c W) : g < W.heap.size ∧ B ≤ g := ⟨(Ho.holds_of h.own).2.1, (Ho.holds_of h.own).2.2⟩
set_option maxRecDepth 20000 in
theorem OwnM.fresh (W : World) : OwnM W.heap.size (.slice (some ⟨W.heap.size, 0, none⟩) 0 0) [] (W.alloc (.cells #[] 58)) :=
  ⟨rfl, .inr ⟨W.heap.size, 0, #[], rfl, Nat.le_refl _, World.alloc_heap_new W _, Nat.le_refl _, by decide, rfl, rfl⟩⟩
set_option maxRecDepth 20000 in
theorem HqT.takes {B : Nat} {w : World} {S : List GMx} {g c : Nat} {W V : World} (h : HqT B w S g c W) (hb : Below W.heap.size W V) (k : Nat) (j : Nat) (u : Value) (hu : (mxCells (S.take k))[j]? = some u) : V.cell? ((⟨g, 0, none⟩ : Addr).add j) = some u := by
  have e : mxCells S = mxCells (S.take k) ++ mxCells (S.drop k) := by rw [← mxCells_join, List.take_append_drop]
  have hj := (List.getElem?_eq_some_iff.1 hu).1
  rw [Addr.add_lit, Nat.zero_add]
  refine (hb.cell (p := ⟨g, j, none⟩) h.lt.1).trans (h.own.cells j u ?_)
  rw [e, List.getElem?_append_left hj]
  exact hu
set_option maxRecDepth 20000 in
theorem HqT.drops {B : Nat} {w : World} {S : List GMx} {g c : Nat} {W V : World} (h : HqT B w S g c W) (hb : Below W.heap.size W V) (k : Nat) (hk : k ≤ S.length) (ad : Addr) (ha : ad = ⟨g, k * 3, none⟩ ∨ k = S.length) (j : Nat) (u : Value) (hu : (mxCells (S.drop k))[j]? = some u) : V.cell? (ad.add j) = some u := by
  have hj := (List.getElem?_eq_some_iff.1 hu).1
  rcases ha with rfl | ha
  · have e : mxCells S = mxCells (S.take k) ++ mxCells (S.drop k) := by rw [← mxCells_join, List.take_append_drop]
    have hl : (mxCells (S.take k)).length = k * 3 := by rw [mxCells_len, List.length_take]; omega
    rw [Addr.add_lit]
    refine (hb.cell (p := ⟨g, k * 3 + j, none⟩) h.lt.1).trans (h.own.cells _ u ?_)
    rw [e, List.getElem?_append_right (by omega), hl, Nat.add_sub_cancel_left]
    exact hu
  · rw [ha, List.drop_length] at hj
    simp [mxCells] at hj
set_option maxRecDepth 20000 in
/-- An append to a fresh list leaves what was before. -/
theorem OwnM.step {N : Nat} {v : Value} {C : List GMx} {W V V' : World} (h : OwnM N v C V) (hb : Below N W V) (hN : N ≤ V.heap.size) (hg : V.grownBy V' v.ownBlock) : Below N W V' ∧ N ≤ V'.heap.size :=
  ⟨hb.grown hg hN (fun j hj => (World.ownsRow.lt h j hj).1), Nat.le_trans hN hg.size⟩
set_option maxRecDepth 20000 in
theorem OwnM.more {N : Nat} {v : Value} {C : List GMx} {V : World} (h : OwnM N v C V) (x : Obj) : OwnM N v C (V.alloc x) := World.ownsRow.alloc h x
set_option maxRecDepth 20000 in
theorem HqT.next {B : Nat} {w : World} {S S' : List GMx} {g c : Nat} {v : Value} {W V : World} (h : HqT B w S g c W) (hb : Below W.heap.size W V) (ho : OwnM W.heap.size v S' V) (hne : 0 < S'.length) : ∃ g' c', v = .slice (some ⟨g', 0, none⟩) S'.length c' ∧ HqT B w S' g' c' V := by
  have hl := h.lt
  rcases ho.2 with ⟨_, h0⟩ | ⟨g', cap', cur, hv, hr⟩
  · omega
  · subst hv
    exact ⟨g', cap', rfl, ho.base (by omega), h.bel.trans (hb.mono (by omega))⟩
set_option maxRecDepth 20000 in
theorem Ho.ins_at (t : GMx) (S : List GMx) (k : Nat) (h : Ho.place t S = k) : ([] ++ S.take k ++ [t]) ++ S.drop k = Ho.ins t S := by
  unfold Ho.ins
  rw [h]
  simp
set_option maxRecDepth 20000 in
theorem Ho.named_is (d : ByteArray) (m : GMx) : Ho.isOf ⟨(lower d.data.toList).toArray⟩ m = namedB m.domain d := by
  unfold Ho.isOf namedB
  rw [ByteArray.toList_eq, ByteArray.toList_eq]
set_option maxRecDepth 20000 in
theorem namedB_size {a b : ByteArray} (h : ¬ a.size = b.size) : namedB a b = false := by
  unfold namedB
  rw [beq_eq_false_iff_ne]
  intro e
  have := congrArg List.length e
  simp [lower] at this
  exact h this
set_option maxRecDepth 20000 in
theorem Ho.leB (a b : ByteArray) : (!Op.bytesLess b.toList a.toList) = (Op.bytesLess a.toList b.toList || a.toList == b.toList) := by
  rw [bytesLess_eq, bytesLess_eq]
  generalize a.toList = x
  generalize b.toList = y
  by_cases h1 : y < x
  · have h2 : ¬ x < y := fun h => List.lt_irrefl _ (List.lt_trans h h1)
    have h3 : ¬ x = y := fun h => by subst h; exact List.lt_irrefl _ h1
    simp [h1, h2, h3]
  · by_cases h2 : x < y
    · simp [h1, h2]
    · have h3 : x = y := List.le_antisymm h1 h2
      simp [h3]
end Go.Proofs.YtdjghniinnfncaaGreatDoor
