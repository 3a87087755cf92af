
/- What a filter's node may be: plain, and the specification's tests. -/

/- What a node's fields may be, on the specification's side. -/

/- What a node's fields may be, on the specification's side: the kinds with lists of texts; all kinds. -/

/- What a node's kids may be, on the specification's side. -/
import Derived.Test.YtonnmbkfjiddnaaCodes2
namespace Go.Proofs.Ytonnmbkfjiddnaa
open Go.RowKit Go.Lib Go.Maps
theorem mkH {p : Prop} (h : p) : Hid p := h
namespace Fn
def low (c : UInt8) : Bool := decide (97 ≤ c.toNat) && decide (c.toNat ≤ 122)
def nameOk (t : ByteArray) : Bool := decide (1 ≤ t.size) && (decide (t.size ≤ 20) && t.data.toList.all low)
def textsOk (l : List ByteArray) : Bool := decide (1 ≤ l.length) && (decide (l.length ≤ 100) && l.all fun t => decide (t.size ≤ 1000))
def isTest (k : Int) : Bool := decide (20 ≤ k) && decide (k ≤ 31)
def isCmd (k : Int) : Bool := decide (2 ≤ k) && decide (k ≤ 11)
end Fn
set_option maxHeartbeats 400000 in
theorem specLow (c : UInt8) (w : World) : Calls Try.prog 76 #[.int .u8 (c.toNat : Int)] w fun e w' => e = .returned (.bool (Fn.low c)) ∧ w = w' := by
  have h8 : c.toNat < 256 := UInt8.toNat_lt _
  unfold Fn.low
  by_cases h1 : 97 ≤ c.toNat
  · by_cases h2 : c.toNat ≤ 122
    · rw [decide_eq_true h1, decide_eq_true h2]
      have h2' : decide ((c.toNat : Int) ≤ 122) = true := by simp; omega
      go_enter Try.func76, Try.ntmps76
      go_wp2
      go_ret
      exact ⟨rfl, rfl⟩
    · rw [decide_eq_true h1, decide_eq_false h2]
      have h2' : decide ((c.toNat : Int) ≤ 122) = false := by simp; omega
      go_enter Try.func76, Try.ntmps76
      go_wp2
      go_ret
      exact ⟨rfl, rfl⟩
  · rw [decide_eq_false h1]
    go_enter Try.func76, Try.ntmps76
    go_wp2
    go_ret
    exact ⟨rfl, rfl⟩
set_option maxHeartbeats 400000 in
theorem specIsTest (k : Int) (w : World) : Calls Try.prog 63 #[.int .i64 k] w fun e w' => e = .returned (.bool (Fn.isTest k)) ∧ w = w' := by
  unfold Fn.isTest
  by_cases h1 : 20 ≤ k
  · by_cases h2 : k ≤ 31
    · rw [decide_eq_true h1, decide_eq_true h2]
      go_enter Try.func63, Try.ntmps63
      go_wp2
      go_ret
      exact ⟨rfl, rfl⟩
    · rw [decide_eq_true h1, decide_eq_false h2]
      go_enter Try.func63, Try.ntmps63
      go_wp2
      go_ret
      exact ⟨rfl, rfl⟩
  · rw [decide_eq_false h1]
    go_enter Try.func63, Try.ntmps63
    go_wp2
    go_ret
    exact ⟨rfl, rfl⟩
set_option maxHeartbeats 400000 in
theorem specIsCmd (k : Int) (w : World) : Calls Try.prog 62 #[.int .i64 k] w fun e w' => e = .returned (.bool (Fn.isCmd k)) ∧ w = w' := by
  unfold Fn.isCmd
  by_cases h1 : 2 ≤ k
  · by_cases h2 : k ≤ 11
    · rw [decide_eq_true h1, decide_eq_true h2]
      go_enter Try.func62, Try.ntmps62
      go_wp2
      go_ret
      exact ⟨rfl, rfl⟩
    · rw [decide_eq_true h1, decide_eq_false h2]
      go_enter Try.func62, Try.ntmps62
      go_wp2
      go_ret
      exact ⟨rfl, rfl⟩
  · rw [decide_eq_false h1]
    go_enter Try.func62, Try.ntmps62
    go_wp2
    go_ret
    exact ⟨rfl, rfl⟩
theorem all_drop {α : Type} (f : α → Bool) (l : List α) (k : Nat) (h : k < l.length) : (l.drop k).all f = (f l[k] && (l.drop (k + 1)).all f) := by
  rw [List.drop_eq_getElem_cons h, List.all_cons]
set_option maxHeartbeats 400000 in
theorem specName (s : ByteArray) (w : World) (hs : s.size ≤ 1048576) :
    Calls Try.prog 60 #[.string s] w fun e w' => e = .returned (.bool (Fn.nameOk s)) ∧ w = w' := by
  unfold Fn.nameOk
  by_cases h1 : 1 ≤ s.size
  · by_cases h2 : s.size ≤ 20
    · rw [decide_eq_true h1, decide_eq_true h2, Bool.true_and, Bool.true_and]
      obtain ⟨A, hA⟩ : ∃ A, s.data.toList.all Fn.low = A := ⟨_, rfl⟩
      rw [hA]
      have hA := mkH hA
      have hll : Hid (s.data.toList.length = s.size) := by simp [Hid]
      go_enter Try.func60, Try.ntmps60
      go_wp2
      go_loopw [3] (fun i wr => ∃ k : Nat, k ≤ s.size ∧ i = .int .i64 k ∧ Hid ((s.data.toList.drop k).all Fn.low = A) ∧ wr = w) (fun i _ => s.size - (Lib.intOf i).toNat)
      case atStart => exact ⟨0, Nat.zero_le _, rfl, hA, rfl⟩
      case round =>
        obtain ⟨k, hk, rfl, hal, hWr⟩ := hrel
        have hWr' : wr = w := hWr
        clear hWr
        subst hWr'
        by_cases hlt : k < s.size
        · have hst := all_drop Fn.low s.data.toList k (by rw [hll.out]; exact hlt)
          rw [hal.out, show s.data.toList[k]'(by rw [hll.out]; exact hlt) = s[k] from rfl] at hst
          replace hst := mkH hst
          cases hc : Fn.low s[k]
          · have hf : Hid (A = false) := by rw [hst.out, hc]; exact Bool.false_and _
            have hL := specLow s[k] wr
            rw [hc] at hL
            clear hst hal hc
            go_wp2_with fail
            refine hL.mono ?_
            rintro e w2 ⟨rfl, rfl⟩
            go_wp2
            go_ret
            rw [hf.out]
            exact ⟨rfl, rfl⟩
          · have hf : Hid ((s.data.toList.drop (k + 1)).all Fn.low = A) := by rw [hst.out, hc]; exact (Bool.true_and _).symm
            have hL := specLow s[k] wr
            rw [hc] at hL
            clear hst hal hc
            go_wp2_with fail
            refine hL.mono ?_
            rintro e w2 ⟨rfl, rfl⟩
            go_wp2
            go_roundw
            case rel => exact ⟨k + 1, by omega, by go_num, hf, trivial⟩
            case measure => simp [Lib.intOf]; omega
        · have hf : Hid (A = true) := by
            have := hal.out
            rw [List.drop_eq_nil_of_le (by rw [hll.out]; omega)] at this
            exact this.symm
          go_wp2
          go_ret
          rw [hf.out]
          exact ⟨rfl, rfl⟩
    · rw [decide_eq_true h1, decide_eq_false h2]
      go_enter Try.func60, Try.ntmps60
      go_wp2
      go_ret
      exact ⟨rfl, rfl⟩
  · rw [decide_eq_false h1]
    go_enter Try.func60, Try.ntmps60
    go_wp2
    go_ret
    exact ⟨rfl, rfl⟩
set_option maxHeartbeats 400000 in
theorem specTexts (o : Option Addr) (F : List ByteArray) (cap : Nat) (w : World) (hF : Tx w.heap.size w o F) (hlen : F.length ≤ 1048576) (hsz : ∀ t ∈ F, t.size ≤ 1048576) :
    Calls Try.prog 61 #[.slice o F.length cap] w fun e w' => e = .returned (.bool (Fn.textsOk F)) ∧ w = w' := by
  have HF := mkH hF
  have Hsz := mkH hsz
  clear hF hsz
  unfold Fn.textsOk
  by_cases h1 : 1 ≤ F.length
  · by_cases h2 : F.length ≤ 100
    · rw [decide_eq_true h1, decide_eq_true h2, Bool.true_and, Bool.true_and]
      obtain ⟨A, hA⟩ : ∃ A, F.all (fun t => decide (t.size ≤ 1000)) = A := ⟨_, rfl⟩
      rw [hA]
      have hA := mkH hA
      go_enter Try.func61, Try.ntmps61
      go_wp2
      go_loopw [3] (fun i wr => ∃ k : Nat, k ≤ F.length ∧ i = .int .i64 k ∧ Hid ((F.drop k).all (fun t => decide (t.size ≤ 1000)) = A) ∧ wr = w) (fun i _ => F.length - (Lib.intOf i).toNat)
      case atStart => exact ⟨0, Nat.zero_le _, rfl, hA, rfl⟩
      case round =>
        obtain ⟨k, hk, rfl, hal, hWr⟩ := hrel
        have hWr' : wr = w := hWr
        clear hWr
        subst hWr'
        by_cases hlt : k < F.length
        · have hst := mkH (hal.out.symm.trans (all_drop (fun t => decide (t.size ≤ 1000)) F k hlt))
          obtain ⟨a, rfl, ha, hc⟩ := HF.out k hlt
          have hkz := Hsz.out F[k] (List.getElem_mem hlt)
          generalize F[k] = f at *
          by_cases hz : f.size ≤ 1000
          · have hf : Hid ((F.drop (k + 1)).all (fun t => decide (t.size ≤ 1000)) = A) := by rw [hst.out, decide_eq_true hz]; exact (Bool.true_and _).symm
            clear hst hal
            go_wp2
            go_roundw
            case rel => exact ⟨k + 1, by omega, by go_num, hf, trivial⟩
            case measure => simp [Lib.intOf]; omega
          · have hf : Hid (A = false) := by rw [hst.out, decide_eq_false hz]; exact Bool.false_and _
            clear hst hal
            go_wp2
            go_ret
            rw [hf.out]
            exact ⟨rfl, rfl⟩
        · have hf : Hid (A = true) := by
            have := hal.out
            rw [List.drop_eq_nil_of_le (by omega)] at this
            exact this.symm
          go_wp2
          go_ret
          rw [hf.out]
          exact ⟨rfl, rfl⟩
    · rw [decide_eq_true h1, decide_eq_false h2]
      go_enter Try.func61, Try.ntmps61
      go_wp2
      go_ret
      exact ⟨rfl, rfl⟩
  · rw [decide_eq_false h1]
    go_enter Try.func61, Try.ntmps61
    go_wp2
    go_ret
    exact ⟨rfl, rfl⟩
end Go.Proofs.Ytonnmbkfjiddnaa
namespace Go.Proofs.Ytonnmbkfjiddnaa
open Go.RowKit Go.Lib Go.Maps
namespace Fn
def u0 (n : Nd) : Bool := n.num == 0
def m0 (n : Nd) : Bool := n.mat == 0
def t0 (n : Nd) : Bool := n.text.toList.isEmpty
def n0 (n : Nd) : Bool := (n.names.length : Int) == 0
def k0 (n : Nd) : Bool := (n.keys.length : Int) == 0
def upTo (x m : Int) : Bool := decide (0 ≤ x) && decide (x ≤ m)
def tx (n : Nd) : Bool := decide ((n.text.size : Int) ≤ 1000)
def one (n : Nd) : Bool := match n.names with | [t] => nameOk t | _ => false
def all5 (a b c d e : Bool) : Bool := a && (b && (c && (d && e)))
/-- The fields but its kids, as a node's kind asks. -/
def fieldsOk (n : Nd) : Bool :=
  if n.kind = 3 then all5 (upTo n.num 100) (m0 n) (t0 n) (n0 n) (k0 n) else
  if n.kind = 7 ∨ n.kind = 8 ∨ n.kind = 9 ∨ n.kind = 10 then all5 (u0 n) (m0 n) (tx n) (n0 n) (k0 n) else
  if n.kind = 11 then all5 (u0 n) (m0 n) (tx n) (one n) (k0 n) else
  if n.kind = 28 then all5 (u0 n) (m0 n) (t0 n) (textsOk n.names) (k0 n) else
  if n.kind = 29 ∨ n.kind = 30 then all5 (upTo n.num 999999999) (m0 n) (t0 n) (n0 n) (k0 n) else
  if n.kind = 25 ∨ n.kind = 26 ∨ n.kind = 27 ∨ n.kind = 31 then all5 (u0 n) (upTo n.mat 2) (t0 n) (textsOk n.names) (textsOk n.keys) else
  if n.kind = 1 ∨ n.kind = 2 ∨ n.kind = 4 ∨ n.kind = 5 ∨ n.kind = 6 ∨ n.kind = 20 ∨ n.kind = 21 ∨ n.kind = 22 ∨ n.kind = 23 ∨ n.kind = 24 then all5 (u0 n) (m0 n) (t0 n) (n0 n) (k0 n) else false
end Fn
set_option maxHeartbeats 2000000 in
set_option maxRecDepth 20000 in
theorem specF3 (num mat : Int) (text : ByteArray) (names keys : List ByteArray) (a1 a2 a3 : Option Addr) (c1 c2 c3 nk : Nat) (w : World) :
    Calls Try.prog 48 #[.agg #[.int .i64 3, .int .i64 num, .int .i64 mat, .string text, .slice a1 names.length c1, .slice a2 keys.length c2, .slice a3 nk c3]] w fun e w' => e = .returned (.bool ((decide (0 ≤ num) && decide (num ≤ 100)) && ((mat == 0) && (text.toList.isEmpty && (((names.length : Int) == 0) && ((keys.length : Int) == 0)))))) ∧ Below w.heap.size w w' := by
  go_enter Try.func48, Try.ntmps48
  go_wp2
  all_goals
    go_ret
    refine ⟨?_, (Below.refl _ _).alloc (Nat.le_refl _) _⟩
    show Ending.returned (Value.bool _) = Ending.returned (Value.bool _)
    congr 2
    simp_all
  all_goals first | done | omega | (intros; omega) | (intros; simp_all; done) | (intros; simp_all; omega)
set_option maxHeartbeats 2000000 in
set_option maxRecDepth 20000 in
theorem specF7 (num mat : Int) (text : ByteArray) (names keys : List ByteArray) (a1 a2 a3 : Option Addr) (c1 c2 c3 nk : Nat) (w : World) (ht : text.size ≤ 1048576) :
    Calls Try.prog 48 #[.agg #[.int .i64 7, .int .i64 num, .int .i64 mat, .string text, .slice a1 names.length c1, .slice a2 keys.length c2, .slice a3 nk c3]] w fun e w' => e = .returned (.bool ((num == 0) && ((mat == 0) && (decide ((text.size : Int) ≤ 1000) && (((names.length : Int) == 0) && ((keys.length : Int) == 0)))))) ∧ Below w.heap.size w w' := by
  go_enter Try.func48, Try.ntmps48
  go_wp2
  all_goals
    go_ret
    refine ⟨?_, (Below.refl _ _).alloc (Nat.le_refl _) _⟩
    show Ending.returned (Value.bool _) = Ending.returned (Value.bool _)
    congr 2
    simp_all
  all_goals first | done | omega | (intros; omega) | (intros; simp_all; done) | (intros; simp_all; omega)
set_option maxHeartbeats 2000000 in
set_option maxRecDepth 20000 in
theorem specF8 (num mat : Int) (text : ByteArray) (names keys : List ByteArray) (a1 a2 a3 : Option Addr) (c1 c2 c3 nk : Nat) (w : World) (ht : text.size ≤ 1048576) :
    Calls Try.prog 48 #[.agg #[.int .i64 8, .int .i64 num, .int .i64 mat, .string text, .slice a1 names.length c1, .slice a2 keys.length c2, .slice a3 nk c3]] w fun e w' => e = .returned (.bool ((num == 0) && ((mat == 0) && (decide ((text.size : Int) ≤ 1000) && (((names.length : Int) == 0) && ((keys.length : Int) == 0)))))) ∧ Below w.heap.size w w' := by
  go_enter Try.func48, Try.ntmps48
  go_wp2
  all_goals
    go_ret
    refine ⟨?_, (Below.refl _ _).alloc (Nat.le_refl _) _⟩
    show Ending.returned (Value.bool _) = Ending.returned (Value.bool _)
    congr 2
    simp_all
  all_goals first | done | omega | (intros; omega) | (intros; simp_all; done) | (intros; simp_all; omega)
set_option maxHeartbeats 2000000 in
set_option maxRecDepth 20000 in
theorem specF9 (num mat : Int) (text : ByteArray) (names keys : List ByteArray) (a1 a2 a3 : Option Addr) (c1 c2 c3 nk : Nat) (w : World) (ht : text.size ≤ 1048576) :
    Calls Try.prog 48 #[.agg #[.int .i64 9, .int .i64 num, .int .i64 mat, .string text, .slice a1 names.length c1, .slice a2 keys.length c2, .slice a3 nk c3]] w fun e w' => e = .returned (.bool ((num == 0) && ((mat == 0) && (decide ((text.size : Int) ≤ 1000) && (((names.length : Int) == 0) && ((keys.length : Int) == 0)))))) ∧ Below w.heap.size w w' := by
  go_enter Try.func48, Try.ntmps48
  go_wp2
  all_goals
    go_ret
    refine ⟨?_, (Below.refl _ _).alloc (Nat.le_refl _) _⟩
    show Ending.returned (Value.bool _) = Ending.returned (Value.bool _)
    congr 2
    simp_all
  all_goals first | done | omega | (intros; omega) | (intros; simp_all; done) | (intros; simp_all; omega)
set_option maxHeartbeats 2000000 in
set_option maxRecDepth 20000 in
theorem specF10 (num mat : Int) (text : ByteArray) (names keys : List ByteArray) (a1 a2 a3 : Option Addr) (c1 c2 c3 nk : Nat) (w : World) (ht : text.size ≤ 1048576) :
    Calls Try.prog 48 #[.agg #[.int .i64 10, .int .i64 num, .int .i64 mat, .string text, .slice a1 names.length c1, .slice a2 keys.length c2, .slice a3 nk c3]] w fun e w' => e = .returned (.bool ((num == 0) && ((mat == 0) && (decide ((text.size : Int) ≤ 1000) && (((names.length : Int) == 0) && ((keys.length : Int) == 0)))))) ∧ Below w.heap.size w w' := by
  go_enter Try.func48, Try.ntmps48
  go_wp2
  all_goals
    go_ret
    refine ⟨?_, (Below.refl _ _).alloc (Nat.le_refl _) _⟩
    show Ending.returned (Value.bool _) = Ending.returned (Value.bool _)
    congr 2
    simp_all
  all_goals first | done | omega | (intros; omega) | (intros; simp_all; done) | (intros; simp_all; omega)
set_option maxHeartbeats 2000000 in
set_option maxRecDepth 20000 in
theorem specF29 (num mat : Int) (text : ByteArray) (names keys : List ByteArray) (a1 a2 a3 : Option Addr) (c1 c2 c3 nk : Nat) (w : World) :
    Calls Try.prog 48 #[.agg #[.int .i64 29, .int .i64 num, .int .i64 mat, .string text, .slice a1 names.length c1, .slice a2 keys.length c2, .slice a3 nk c3]] w fun e w' => e = .returned (.bool ((decide (0 ≤ num) && decide (num ≤ 999999999)) && ((mat == 0) && (text.toList.isEmpty && (((names.length : Int) == 0) && ((keys.length : Int) == 0)))))) ∧ Below w.heap.size w w' := by
  go_enter Try.func48, Try.ntmps48
  go_wp2
  all_goals
    go_ret
    refine ⟨?_, (Below.refl _ _).alloc (Nat.le_refl _) _⟩
    show Ending.returned (Value.bool _) = Ending.returned (Value.bool _)
    congr 2
    simp_all
  all_goals first | done | omega | (intros; omega) | (intros; simp_all; done) | (intros; simp_all; omega)
set_option maxHeartbeats 2000000 in
set_option maxRecDepth 20000 in
theorem specF30 (num mat : Int) (text : ByteArray) (names keys : List ByteArray) (a1 a2 a3 : Option Addr) (c1 c2 c3 nk : Nat) (w : World) :
    Calls Try.prog 48 #[.agg #[.int .i64 30, .int .i64 num, .int .i64 mat, .string text, .slice a1 names.length c1, .slice a2 keys.length c2, .slice a3 nk c3]] w fun e w' => e = .returned (.bool ((decide (0 ≤ num) && decide (num ≤ 999999999)) && ((mat == 0) && (text.toList.isEmpty && (((names.length : Int) == 0) && ((keys.length : Int) == 0)))))) ∧ Below w.heap.size w w' := by
  go_enter Try.func48, Try.ntmps48
  go_wp2
  all_goals
    go_ret
    refine ⟨?_, (Below.refl _ _).alloc (Nat.le_refl _) _⟩
    show Ending.returned (Value.bool _) = Ending.returned (Value.bool _)
    congr 2
    simp_all
  all_goals first | done | omega | (intros; omega) | (intros; simp_all; done) | (intros; simp_all; omega)
set_option maxHeartbeats 2000000 in
set_option maxRecDepth 20000 in
theorem specF1 (num mat : Int) (text : ByteArray) (names keys : List ByteArray) (a1 a2 a3 : Option Addr) (c1 c2 c3 nk : Nat) (w : World) :
    Calls Try.prog 48 #[.agg #[.int .i64 1, .int .i64 num, .int .i64 mat, .string text, .slice a1 names.length c1, .slice a2 keys.length c2, .slice a3 nk c3]] w fun e w' => e = .returned (.bool ((num == 0) && ((mat == 0) && (text.toList.isEmpty && (((names.length : Int) == 0) && ((keys.length : Int) == 0)))))) ∧ Below w.heap.size w w' := by
  go_enter Try.func48, Try.ntmps48
  go_wp2
  all_goals
    go_ret
    refine ⟨?_, (Below.refl _ _).alloc (Nat.le_refl _) _⟩
    show Ending.returned (Value.bool _) = Ending.returned (Value.bool _)
    congr 2
    simp_all
  all_goals first | done | omega | (intros; omega) | (intros; simp_all; done) | (intros; simp_all; omega)
set_option maxHeartbeats 2000000 in
set_option maxRecDepth 20000 in
theorem specF2 (num mat : Int) (text : ByteArray) (names keys : List ByteArray) (a1 a2 a3 : Option Addr) (c1 c2 c3 nk : Nat) (w : World) :
    Calls Try.prog 48 #[.agg #[.int .i64 2, .int .i64 num, .int .i64 mat, .string text, .slice a1 names.length c1, .slice a2 keys.length c2, .slice a3 nk c3]] w fun e w' => e = .returned (.bool ((num == 0) && ((mat == 0) && (text.toList.isEmpty && (((names.length : Int) == 0) && ((keys.length : Int) == 0)))))) ∧ Below w.heap.size w w' := by
  go_enter Try.func48, Try.ntmps48
  go_wp2
  all_goals
    go_ret
    refine ⟨?_, (Below.refl _ _).alloc (Nat.le_refl _) _⟩
    show Ending.returned (Value.bool _) = Ending.returned (Value.bool _)
    congr 2
    simp_all
  all_goals first | done | omega | (intros; omega) | (intros; simp_all; done) | (intros; simp_all; omega)
set_option maxHeartbeats 2000000 in
set_option maxRecDepth 20000 in
theorem specF4 (num mat : Int) (text : ByteArray) (names keys : List ByteArray) (a1 a2 a3 : Option Addr) (c1 c2 c3 nk : Nat) (w : World) :
    Calls Try.prog 48 #[.agg #[.int .i64 4, .int .i64 num, .int .i64 mat, .string text, .slice a1 names.length c1, .slice a2 keys.length c2, .slice a3 nk c3]] w fun e w' => e = .returned (.bool ((num == 0) && ((mat == 0) && (text.toList.isEmpty && (((names.length : Int) == 0) && ((keys.length : Int) == 0)))))) ∧ Below w.heap.size w w' := by
  go_enter Try.func48, Try.ntmps48
  go_wp2
  all_goals
    go_ret
    refine ⟨?_, (Below.refl _ _).alloc (Nat.le_refl _) _⟩
    show Ending.returned (Value.bool _) = Ending.returned (Value.bool _)
    congr 2
    simp_all
  all_goals first | done | omega | (intros; omega) | (intros; simp_all; done) | (intros; simp_all; omega)
set_option maxHeartbeats 2000000 in
set_option maxRecDepth 20000 in
theorem specF5 (num mat : Int) (text : ByteArray) (names keys : List ByteArray) (a1 a2 a3 : Option Addr) (c1 c2 c3 nk : Nat) (w : World) :
    Calls Try.prog 48 #[.agg #[.int .i64 5, .int .i64 num, .int .i64 mat, .string text, .slice a1 names.length c1, .slice a2 keys.length c2, .slice a3 nk c3]] w fun e w' => e = .returned (.bool ((num == 0) && ((mat == 0) && (text.toList.isEmpty && (((names.length : Int) == 0) && ((keys.length : Int) == 0)))))) ∧ Below w.heap.size w w' := by
  go_enter Try.func48, Try.ntmps48
  go_wp2
  all_goals
    go_ret
    refine ⟨?_, (Below.refl _ _).alloc (Nat.le_refl _) _⟩
    show Ending.returned (Value.bool _) = Ending.returned (Value.bool _)
    congr 2
    simp_all
  all_goals first | done | omega | (intros; omega) | (intros; simp_all; done) | (intros; simp_all; omega)
set_option maxHeartbeats 2000000 in
set_option maxRecDepth 20000 in
theorem specF6 (num mat : Int) (text : ByteArray) (names keys : List ByteArray) (a1 a2 a3 : Option Addr) (c1 c2 c3 nk : Nat) (w : World) :
    Calls Try.prog 48 #[.agg #[.int .i64 6, .int .i64 num, .int .i64 mat, .string text, .slice a1 names.length c1, .slice a2 keys.length c2, .slice a3 nk c3]] w fun e w' => e = .returned (.bool ((num == 0) && ((mat == 0) && (text.toList.isEmpty && (((names.length : Int) == 0) && ((keys.length : Int) == 0)))))) ∧ Below w.heap.size w w' := by
  go_enter Try.func48, Try.ntmps48
  go_wp2
  all_goals
    go_ret
    refine ⟨?_, (Below.refl _ _).alloc (Nat.le_refl _) _⟩
    show Ending.returned (Value.bool _) = Ending.returned (Value.bool _)
    congr 2
    simp_all
  all_goals first | done | omega | (intros; omega) | (intros; simp_all; done) | (intros; simp_all; omega)
set_option maxHeartbeats 2000000 in
set_option maxRecDepth 20000 in
theorem specF20 (num mat : Int) (text : ByteArray) (names keys : List ByteArray) (a1 a2 a3 : Option Addr) (c1 c2 c3 nk : Nat) (w : World) :
    Calls Try.prog 48 #[.agg #[.int .i64 20, .int .i64 num, .int .i64 mat, .string text, .slice a1 names.length c1, .slice a2 keys.length c2, .slice a3 nk c3]] w fun e w' => e = .returned (.bool ((num == 0) && ((mat == 0) && (text.toList.isEmpty && (((names.length : Int) == 0) && ((keys.length : Int) == 0)))))) ∧ Below w.heap.size w w' := by
  go_enter Try.func48, Try.ntmps48
  go_wp2
  all_goals
    go_ret
    refine ⟨?_, (Below.refl _ _).alloc (Nat.le_refl _) _⟩
    show Ending.returned (Value.bool _) = Ending.returned (Value.bool _)
    congr 2
    simp_all
  all_goals first | done | omega | (intros; omega) | (intros; simp_all; done) | (intros; simp_all; omega)
set_option maxHeartbeats 2000000 in
set_option maxRecDepth 20000 in
theorem specF21 (num mat : Int) (text : ByteArray) (names keys : List ByteArray) (a1 a2 a3 : Option Addr) (c1 c2 c3 nk : Nat) (w : World) :
    Calls Try.prog 48 #[.agg #[.int .i64 21, .int .i64 num, .int .i64 mat, .string text, .slice a1 names.length c1, .slice a2 keys.length c2, .slice a3 nk c3]] w fun e w' => e = .returned (.bool ((num == 0) && ((mat == 0) && (text.toList.isEmpty && (((names.length : Int) == 0) && ((keys.length : Int) == 0)))))) ∧ Below w.heap.size w w' := by
  go_enter Try.func48, Try.ntmps48
  go_wp2
  all_goals
    go_ret
    refine ⟨?_, (Below.refl _ _).alloc (Nat.le_refl _) _⟩
    show Ending.returned (Value.bool _) = Ending.returned (Value.bool _)
    congr 2
    simp_all
  all_goals first | done | omega | (intros; omega) | (intros; simp_all; done) | (intros; simp_all; omega)
set_option maxHeartbeats 2000000 in
set_option maxRecDepth 20000 in
theorem specF22 (num mat : Int) (text : ByteArray) (names keys : List ByteArray) (a1 a2 a3 : Option Addr) (c1 c2 c3 nk : Nat) (w : World) :
    Calls Try.prog 48 #[.agg #[.int .i64 22, .int .i64 num, .int .i64 mat, .string text, .slice a1 names.length c1, .slice a2 keys.length c2, .slice a3 nk c3]] w fun e w' => e = .returned (.bool ((num == 0) && ((mat == 0) && (text.toList.isEmpty && (((names.length : Int) == 0) && ((keys.length : Int) == 0)))))) ∧ Below w.heap.size w w' := by
  go_enter Try.func48, Try.ntmps48
  go_wp2
  all_goals
    go_ret
    refine ⟨?_, (Below.refl _ _).alloc (Nat.le_refl _) _⟩
    show Ending.returned (Value.bool _) = Ending.returned (Value.bool _)
    congr 2
    simp_all
  all_goals first | done | omega | (intros; omega) | (intros; simp_all; done) | (intros; simp_all; omega)
set_option maxHeartbeats 2000000 in
set_option maxRecDepth 20000 in
theorem specF23 (num mat : Int) (text : ByteArray) (names keys : List ByteArray) (a1 a2 a3 : Option Addr) (c1 c2 c3 nk : Nat) (w : World) :
    Calls Try.prog 48 #[.agg #[.int .i64 23, .int .i64 num, .int .i64 mat, .string text, .slice a1 names.length c1, .slice a2 keys.length c2, .slice a3 nk c3]] w fun e w' => e = .returned (.bool ((num == 0) && ((mat == 0) && (text.toList.isEmpty && (((names.length : Int) == 0) && ((keys.length : Int) == 0)))))) ∧ Below w.heap.size w w' := by
  go_enter Try.func48, Try.ntmps48
  go_wp2
  all_goals
    go_ret
    refine ⟨?_, (Below.refl _ _).alloc (Nat.le_refl _) _⟩
    show Ending.returned (Value.bool _) = Ending.returned (Value.bool _)
    congr 2
    simp_all
  all_goals first | done | omega | (intros; omega) | (intros; simp_all; done) | (intros; simp_all; omega)
set_option maxHeartbeats 2000000 in
set_option maxRecDepth 20000 in
theorem specF24 (num mat : Int) (text : ByteArray) (names keys : List ByteArray) (a1 a2 a3 : Option Addr) (c1 c2 c3 nk : Nat) (w : World) :
    Calls Try.prog 48 #[.agg #[.int .i64 24, .int .i64 num, .int .i64 mat, .string text, .slice a1 names.length c1, .slice a2 keys.length c2, .slice a3 nk c3]] w fun e w' => e = .returned (.bool ((num == 0) && ((mat == 0) && (text.toList.isEmpty && (((names.length : Int) == 0) && ((keys.length : Int) == 0)))))) ∧ Below w.heap.size w w' := by
  go_enter Try.func48, Try.ntmps48
  go_wp2
  all_goals
    go_ret
    refine ⟨?_, (Below.refl _ _).alloc (Nat.le_refl _) _⟩
    show Ending.returned (Value.bool _) = Ending.returned (Value.bool _)
    congr 2
    simp_all
  all_goals first | done | omega | (intros; omega) | (intros; simp_all; done) | (intros; simp_all; omega)
end Go.Proofs.Ytonnmbkfjiddnaa
namespace Go.Proofs.Ytonnmbkfjiddnaa
open Go.RowKit Go.Lib Go.Maps
set_option maxHeartbeats 2000000 in
set_option maxRecDepth 20000 in
theorem specF28 (num mat : Int) (text : ByteArray) (names keys : List ByteArray) (a1 a2 a3 : Option Addr) (c1 c2 c3 nk : Nat) (w : World) (h1 : Tx w.heap.size w a1 names) (h2 : names.length ≤ 1048576) (h3 : ∀ t ∈ names, t.size ≤ 1048576) :
    Calls Try.prog 48 #[.agg #[.int .i64 28, .int .i64 num, .int .i64 mat, .string text, .slice a1 names.length c1, .slice a2 keys.length c2, .slice a3 nk c3]] w fun e w' => e = .returned (.bool ((num == 0) && ((mat == 0) && (text.toList.isEmpty && (Fn.textsOk names && ((keys.length : Int) == 0)))))) ∧ Below w.heap.size w w' := by
  have hbA : Below w.heap.size w (w.alloc (.cells #[.int .i64 28, .int .i64 num, .int .i64 mat, .string text, .slice a1 names.length c1, .slice a2 keys.length c2, .slice a3 nk c3] 44)) := (Below.refl _ _).alloc (Nat.le_refl _) _
  have hC := mkH (specTexts a1 names c1 (w.alloc (.cells #[.int .i64 28, .int .i64 num, .int .i64 mat, .string text, .slice a1 names.length c1, .slice a2 keys.length c2, .slice a3 nk c3] 44)) ((h1.below hbA).mono hbA.size) h2 h3)
  clear h1 h2 h3 hbA
  generalize Fn.textsOk names = A at *
  go_enter Try.func48, Try.ntmps48
  go_wp2_with fail
  refine hC.out.mono ?_
  rintro e w2 ⟨rfl, rfl⟩
  clear hC
  go_wp2
  all_goals
    go_ret
    refine ⟨?_, (Below.refl _ _).alloc (Nat.le_refl _) _⟩
    show Ending.returned (Value.bool _) = Ending.returned (Value.bool _)
    congr 2 <;> simp_all
  all_goals first | done | omega | (intros; omega) | (intros; simp_all; done) | (intros; simp_all; omega)
set_option maxHeartbeats 2000000 in
set_option maxRecDepth 20000 in
theorem specF25 (num mat : Int) (text : ByteArray) (names keys : List ByteArray) (a1 a2 a3 : Option Addr) (c1 c2 c3 nk : Nat) (w : World) (h1 : Tx w.heap.size w a1 names) (h2 : names.length ≤ 1048576) (h3 : ∀ t ∈ names, t.size ≤ 1048576) (h4 : Tx w.heap.size w a2 keys) (h5 : keys.length ≤ 1048576) (h6 : ∀ t ∈ keys, t.size ≤ 1048576) :
    Calls Try.prog 48 #[.agg #[.int .i64 25, .int .i64 num, .int .i64 mat, .string text, .slice a1 names.length c1, .slice a2 keys.length c2, .slice a3 nk c3]] w fun e w' => e = .returned (.bool ((num == 0) && ((decide (0 ≤ mat) && decide (mat ≤ 2)) && (text.toList.isEmpty && (Fn.textsOk names && Fn.textsOk keys))))) ∧ Below w.heap.size w w' := by
  have hbA : Below w.heap.size w (w.alloc (.cells #[.int .i64 25, .int .i64 num, .int .i64 mat, .string text, .slice a1 names.length c1, .slice a2 keys.length c2, .slice a3 nk c3] 44)) := (Below.refl _ _).alloc (Nat.le_refl _) _
  have hC := mkH (specTexts a1 names c1 (w.alloc (.cells #[.int .i64 25, .int .i64 num, .int .i64 mat, .string text, .slice a1 names.length c1, .slice a2 keys.length c2, .slice a3 nk c3] 44)) ((h1.below hbA).mono hbA.size) h2 h3)
  have hD := mkH (specTexts a2 keys c2 (w.alloc (.cells #[.int .i64 25, .int .i64 num, .int .i64 mat, .string text, .slice a1 names.length c1, .slice a2 keys.length c2, .slice a3 nk c3] 44)) ((h4.below hbA).mono hbA.size) h5 h6)
  clear h1 h2 h3 h4 h5 h6 hbA
  generalize Fn.textsOk names = A at *
  generalize Fn.textsOk keys = B at *
  by_cases hm0 : 0 ≤ mat
  · have hm0' : decide (0 ≤ mat) = true := by simpa using hm0
    go_enter Try.func48, Try.ntmps48
    go_wp2_with fail
    refine hC.out.mono ?_
    rintro e w2 ⟨rfl, rfl⟩
    go_wp2_with fail
    refine hD.out.mono ?_
    rintro e w2 ⟨rfl, rfl⟩
    clear hC hD
    go_wp2
    all_goals
      go_ret
      refine ⟨?_, (Below.refl _ _).alloc (Nat.le_refl _) _⟩
      show Ending.returned (Value.bool _) = Ending.returned (Value.bool _)
      congr 2 <;> simp_all
    all_goals first | done | omega | (intros; omega) | (intros; simp_all; done) | (intros; simp_all; omega)
  · have hm0' : decide (0 ≤ mat) = false := by simpa using hm0
    go_enter Try.func48, Try.ntmps48
    go_wp2_with fail
    refine hC.out.mono ?_
    rintro e w2 ⟨rfl, rfl⟩
    go_wp2_with fail
    refine hD.out.mono ?_
    rintro e w2 ⟨rfl, rfl⟩
    clear hC hD
    go_wp2
    all_goals
      go_ret
      refine ⟨?_, (Below.refl _ _).alloc (Nat.le_refl _) _⟩
      show Ending.returned (Value.bool _) = Ending.returned (Value.bool _)
      congr 2 <;> simp_all
    all_goals first | done | omega | (intros; omega) | (intros; simp_all; done) | (intros; simp_all; omega)
set_option maxHeartbeats 2000000 in
set_option maxRecDepth 20000 in
theorem specF26 (num mat : Int) (text : ByteArray) (names keys : List ByteArray) (a1 a2 a3 : Option Addr) (c1 c2 c3 nk : Nat) (w : World) (h1 : Tx w.heap.size w a1 names) (h2 : names.length ≤ 1048576) (h3 : ∀ t ∈ names, t.size ≤ 1048576) (h4 : Tx w.heap.size w a2 keys) (h5 : keys.length ≤ 1048576) (h6 : ∀ t ∈ keys, t.size ≤ 1048576) :
    Calls Try.prog 48 #[.agg #[.int .i64 26, .int .i64 num, .int .i64 mat, .string text, .slice a1 names.length c1, .slice a2 keys.length c2, .slice a3 nk c3]] w fun e w' => e = .returned (.bool ((num == 0) && ((decide (0 ≤ mat) && decide (mat ≤ 2)) && (text.toList.isEmpty && (Fn.textsOk names && Fn.textsOk keys))))) ∧ Below w.heap.size w w' := by
  have hbA : Below w.heap.size w (w.alloc (.cells #[.int .i64 26, .int .i64 num, .int .i64 mat, .string text, .slice a1 names.length c1, .slice a2 keys.length c2, .slice a3 nk c3] 44)) := (Below.refl _ _).alloc (Nat.le_refl _) _
  have hC := mkH (specTexts a1 names c1 (w.alloc (.cells #[.int .i64 26, .int .i64 num, .int .i64 mat, .string text, .slice a1 names.length c1, .slice a2 keys.length c2, .slice a3 nk c3] 44)) ((h1.below hbA).mono hbA.size) h2 h3)
  have hD := mkH (specTexts a2 keys c2 (w.alloc (.cells #[.int .i64 26, .int .i64 num, .int .i64 mat, .string text, .slice a1 names.length c1, .slice a2 keys.length c2, .slice a3 nk c3] 44)) ((h4.below hbA).mono hbA.size) h5 h6)
  clear h1 h2 h3 h4 h5 h6 hbA
  generalize Fn.textsOk names = A at *
  generalize Fn.textsOk keys = B at *
  by_cases hm0 : 0 ≤ mat
  · have hm0' : decide (0 ≤ mat) = true := by simpa using hm0
    go_enter Try.func48, Try.ntmps48
    go_wp2_with fail
    refine hC.out.mono ?_
    rintro e w2 ⟨rfl, rfl⟩
    go_wp2_with fail
    refine hD.out.mono ?_
    rintro e w2 ⟨rfl, rfl⟩
    clear hC hD
    go_wp2
    all_goals
      go_ret
      refine ⟨?_, (Below.refl _ _).alloc (Nat.le_refl _) _⟩
      show Ending.returned (Value.bool _) = Ending.returned (Value.bool _)
      congr 2 <;> simp_all
    all_goals first | done | omega | (intros; omega) | (intros; simp_all; done) | (intros; simp_all; omega)
  · have hm0' : decide (0 ≤ mat) = false := by simpa using hm0
    go_enter Try.func48, Try.ntmps48
    go_wp2_with fail
    refine hC.out.mono ?_
    rintro e w2 ⟨rfl, rfl⟩
    go_wp2_with fail
    refine hD.out.mono ?_
    rintro e w2 ⟨rfl, rfl⟩
    clear hC hD
    go_wp2
    all_goals
      go_ret
      refine ⟨?_, (Below.refl _ _).alloc (Nat.le_refl _) _⟩
      show Ending.returned (Value.bool _) = Ending.returned (Value.bool _)
      congr 2 <;> simp_all
    all_goals first | done | omega | (intros; omega) | (intros; simp_all; done) | (intros; simp_all; omega)
set_option maxHeartbeats 2000000 in
set_option maxRecDepth 20000 in
theorem specF27 (num mat : Int) (text : ByteArray) (names keys : List ByteArray) (a1 a2 a3 : Option Addr) (c1 c2 c3 nk : Nat) (w : World) (h1 : Tx w.heap.size w a1 names) (h2 : names.length ≤ 1048576) (h3 : ∀ t ∈ names, t.size ≤ 1048576) (h4 : Tx w.heap.size w a2 keys) (h5 : keys.length ≤ 1048576) (h6 : ∀ t ∈ keys, t.size ≤ 1048576) :
    Calls Try.prog 48 #[.agg #[.int .i64 27, .int .i64 num, .int .i64 mat, .string text, .slice a1 names.length c1, .slice a2 keys.length c2, .slice a3 nk c3]] w fun e w' => e = .returned (.bool ((num == 0) && ((decide (0 ≤ mat) && decide (mat ≤ 2)) && (text.toList.isEmpty && (Fn.textsOk names && Fn.textsOk keys))))) ∧ Below w.heap.size w w' := by
  have hbA : Below w.heap.size w (w.alloc (.cells #[.int .i64 27, .int .i64 num, .int .i64 mat, .string text, .slice a1 names.length c1, .slice a2 keys.length c2, .slice a3 nk c3] 44)) := (Below.refl _ _).alloc (Nat.le_refl _) _
  have hC := mkH (specTexts a1 names c1 (w.alloc (.cells #[.int .i64 27, .int .i64 num, .int .i64 mat, .string text, .slice a1 names.length c1, .slice a2 keys.length c2, .slice a3 nk c3] 44)) ((h1.below hbA).mono hbA.size) h2 h3)
  have hD := mkH (specTexts a2 keys c2 (w.alloc (.cells #[.int .i64 27, .int .i64 num, .int .i64 mat, .string text, .slice a1 names.length c1, .slice a2 keys.length c2, .slice a3 nk c3] 44)) ((h4.below hbA).mono hbA.size) h5 h6)
  clear h1 h2 h3 h4 h5 h6 hbA
  generalize Fn.textsOk names = A at *
  generalize Fn.textsOk keys = B at *
  by_cases hm0 : 0 ≤ mat
  · have hm0' : decide (0 ≤ mat) = true := by simpa using hm0
    go_enter Try.func48, Try.ntmps48
    go_wp2_with fail
    refine hC.out.mono ?_
    rintro e w2 ⟨rfl, rfl⟩
    go_wp2_with fail
    refine hD.out.mono ?_
    rintro e w2 ⟨rfl, rfl⟩
    clear hC hD
    go_wp2
    all_goals
      go_ret
      refine ⟨?_, (Below.refl _ _).alloc (Nat.le_refl _) _⟩
      show Ending.returned (Value.bool _) = Ending.returned (Value.bool _)
      congr 2 <;> simp_all
    all_goals first | done | omega | (intros; omega) | (intros; simp_all; done) | (intros; simp_all; omega)
  · have hm0' : decide (0 ≤ mat) = false := by simpa using hm0
    go_enter Try.func48, Try.ntmps48
    go_wp2_with fail
    refine hC.out.mono ?_
    rintro e w2 ⟨rfl, rfl⟩
    go_wp2_with fail
    refine hD.out.mono ?_
    rintro e w2 ⟨rfl, rfl⟩
    clear hC hD
    go_wp2
    all_goals
      go_ret
      refine ⟨?_, (Below.refl _ _).alloc (Nat.le_refl _) _⟩
      show Ending.returned (Value.bool _) = Ending.returned (Value.bool _)
      congr 2 <;> simp_all
    all_goals first | done | omega | (intros; omega) | (intros; simp_all; done) | (intros; simp_all; omega)
set_option maxHeartbeats 2000000 in
set_option maxRecDepth 20000 in
theorem specF31 (num mat : Int) (text : ByteArray) (names keys : List ByteArray) (a1 a2 a3 : Option Addr) (c1 c2 c3 nk : Nat) (w : World) (h1 : Tx w.heap.size w a1 names) (h2 : names.length ≤ 1048576) (h3 : ∀ t ∈ names, t.size ≤ 1048576) (h4 : Tx w.heap.size w a2 keys) (h5 : keys.length ≤ 1048576) (h6 : ∀ t ∈ keys, t.size ≤ 1048576) :
    Calls Try.prog 48 #[.agg #[.int .i64 31, .int .i64 num, .int .i64 mat, .string text, .slice a1 names.length c1, .slice a2 keys.length c2, .slice a3 nk c3]] w fun e w' => e = .returned (.bool ((num == 0) && ((decide (0 ≤ mat) && decide (mat ≤ 2)) && (text.toList.isEmpty && (Fn.textsOk names && Fn.textsOk keys))))) ∧ Below w.heap.size w w' := by
  have hbA : Below w.heap.size w (w.alloc (.cells #[.int .i64 31, .int .i64 num, .int .i64 mat, .string text, .slice a1 names.length c1, .slice a2 keys.length c2, .slice a3 nk c3] 44)) := (Below.refl _ _).alloc (Nat.le_refl _) _
  have hC := mkH (specTexts a1 names c1 (w.alloc (.cells #[.int .i64 31, .int .i64 num, .int .i64 mat, .string text, .slice a1 names.length c1, .slice a2 keys.length c2, .slice a3 nk c3] 44)) ((h1.below hbA).mono hbA.size) h2 h3)
  have hD := mkH (specTexts a2 keys c2 (w.alloc (.cells #[.int .i64 31, .int .i64 num, .int .i64 mat, .string text, .slice a1 names.length c1, .slice a2 keys.length c2, .slice a3 nk c3] 44)) ((h4.below hbA).mono hbA.size) h5 h6)
  clear h1 h2 h3 h4 h5 h6 hbA
  generalize Fn.textsOk names = A at *
  generalize Fn.textsOk keys = B at *
  by_cases hm0 : 0 ≤ mat
  · have hm0' : decide (0 ≤ mat) = true := by simpa using hm0
    go_enter Try.func48, Try.ntmps48
    go_wp2_with fail
    refine hC.out.mono ?_
    rintro e w2 ⟨rfl, rfl⟩
    go_wp2_with fail
    refine hD.out.mono ?_
    rintro e w2 ⟨rfl, rfl⟩
    clear hC hD
    go_wp2
    all_goals
      go_ret
      refine ⟨?_, (Below.refl _ _).alloc (Nat.le_refl _) _⟩
      show Ending.returned (Value.bool _) = Ending.returned (Value.bool _)
      congr 2 <;> simp_all
    all_goals first | done | omega | (intros; omega) | (intros; simp_all; done) | (intros; simp_all; omega)
  · have hm0' : decide (0 ≤ mat) = false := by simpa using hm0
    go_enter Try.func48, Try.ntmps48
    go_wp2_with fail
    refine hC.out.mono ?_
    rintro e w2 ⟨rfl, rfl⟩
    go_wp2_with fail
    refine hD.out.mono ?_
    rintro e w2 ⟨rfl, rfl⟩
    clear hC hD
    go_wp2
    all_goals
      go_ret
      refine ⟨?_, (Below.refl _ _).alloc (Nat.le_refl _) _⟩
      show Ending.returned (Value.bool _) = Ending.returned (Value.bool _)
      congr 2 <;> simp_all
    all_goals first | done | omega | (intros; omega) | (intros; simp_all; done) | (intros; simp_all; omega)
set_option maxHeartbeats 2000000 in
set_option maxRecDepth 20000 in
theorem specF11no (num mat : Int) (text : ByteArray) (names keys : List ByteArray) (a1 a2 a3 : Option Addr) (c1 c2 c3 nk : Nat) (w : World) (_ : text.size ≤ 1048576) (hl : ((names.length : Int) == 1) = false) :
    Calls Try.prog 48 #[.agg #[.int .i64 11, .int .i64 num, .int .i64 mat, .string text, .slice a1 names.length c1, .slice a2 keys.length c2, .slice a3 nk c3]] w fun e w' => e = .returned (.bool ((num == 0) && ((mat == 0) && (decide ((text.size : Int) ≤ 1000) && (false && ((keys.length : Int) == 0)))))) ∧ Below w.heap.size w w' := by
  go_enter Try.func48, Try.ntmps48
  go_wp2
  all_goals
    go_ret
    refine ⟨?_, (Below.refl _ _).alloc (Nat.le_refl _) _⟩
    show Ending.returned (Value.bool _) = Ending.returned (Value.bool _)
    congr 2 <;> simp_all
  all_goals first | done | omega | (intros; omega) | (intros; simp_all; done) | (intros; simp_all; omega)
set_option maxHeartbeats 2000000 in
set_option maxRecDepth 20000 in
theorem specF11yes (num mat : Int) (text t : ByteArray) (keys : List ByteArray) (a : Addr) (a2 a3 : Option Addr) (c1 c2 c3 nk : Nat) (w : World) (ht : text.size ≤ 1048576) (ht2 : t.size ≤ 1048576) (ha : a.block < w.heap.size) (hc : w.cell? (a.add 0) = some (.string t)) :
    Calls Try.prog 48 #[.agg #[.int .i64 11, .int .i64 num, .int .i64 mat, .string text, .slice (some a) 1 c1, .slice a2 keys.length c2, .slice a3 nk c3]] w fun e w' => e = .returned (.bool ((num == 0) && ((mat == 0) && (decide ((text.size : Int) ≤ 1000) && (Fn.nameOk t && ((keys.length : Int) == 0)))))) ∧ Below w.heap.size w w' := by
  have hbA : Below w.heap.size w (w.alloc (.cells #[.int .i64 11, .int .i64 num, .int .i64 mat, .string text, .slice (some a) 1 c1, .slice a2 keys.length c2, .slice a3 nk c3] 44)) := (Below.refl _ _).alloc (Nat.le_refl _) _
  have hcA := (hbA.cell (p := a.add 0) (by rw [add_blockN]; exact ha)).trans hc
  have hC := mkH (specName t (w.alloc (.cells #[.int .i64 11, .int .i64 num, .int .i64 mat, .string text, .slice (some a) 1 c1, .slice a2 keys.length c2, .slice a3 nk c3] 44)) ht2)
  have e0 : a.add 0 = a := by simp [Addr.add]
  rw [e0] at hcA
  clear hc ha hbA e0
  generalize Fn.nameOk t = A at *
  go_enter Try.func48, Try.ntmps48
  go_wp2_with fail
  refine hC.out.mono ?_
  rintro e w2 ⟨rfl, rfl⟩
  clear hC
  go_wp2
  all_goals
    go_ret
    refine ⟨?_, (Below.refl _ _).alloc (Nat.le_refl _) _⟩
    show Ending.returned (Value.bool _) = Ending.returned (Value.bool _)
    congr 2 <;> simp_all
  all_goals first | done | omega | (intros; omega) | (intros; simp_all; done) | (intros; simp_all; omega)
set_option maxHeartbeats 2000000 in
set_option maxRecDepth 20000 in
theorem specFno (kind num mat : Int) (text : ByteArray) (names keys : List ByteArray) (a1 a2 a3 : Option Addr) (c1 c2 c3 nk : Nat) (w : World)
    (x3 : (kind == 3) = false) (x7 : (kind == 7) = false) (x8 : (kind == 8) = false) (x9 : (kind == 9) = false) (x10 : (kind == 10) = false) (x11 : (kind == 11) = false) (x28 : (kind == 28) = false) (x29 : (kind == 29) = false) (x30 : (kind == 30) = false) (x25 : (kind == 25) = false) (x26 : (kind == 26) = false) (x27 : (kind == 27) = false) (x31 : (kind == 31) = false) (x1 : (kind == 1) = false) (x2 : (kind == 2) = false) (x4 : (kind == 4) = false) (x5 : (kind == 5) = false) (x6 : (kind == 6) = false) (x20 : (kind == 20) = false) (x21 : (kind == 21) = false) (x22 : (kind == 22) = false) (x23 : (kind == 23) = false) (x24 : (kind == 24) = false) :
    Calls Try.prog 48 #[.agg #[.int .i64 kind, .int .i64 num, .int .i64 mat, .string text, .slice a1 names.length c1, .slice a2 keys.length c2, .slice a3 nk c3]] w fun e w' => e = .returned (.bool false) ∧ Below w.heap.size w w' := by
  go_enter Try.func48, Try.ntmps48
  go_wp2
  go_ret
  exact ⟨rfl, (Below.refl _ _).alloc (Nat.le_refl _) _⟩
theorem all5_eq (a b c d e : Bool) : (a && (b && (c && (d && e)))) = Fn.all5 a b c d e := rfl
/-- The fields of a node. -/
theorem specFields (n : Nd) (vn vk vd : Value) (w : World) (hI : NdIn w.heap.size w n vn vk vd) (hf : n.fits 1048576) :
    Calls Try.prog 48 #[ndV n vn vk vd] w fun e w' => e = .returned (.bool (Fn.fieldsOk n)) ∧ Below w.heap.size w w' := by
  obtain ⟨⟨a1, c1, rfl, t1⟩, ⟨a2, c2, rfl, t2⟩, ⟨a3, c3, rfl, t3⟩⟩ := hI
  obtain ⟨f1, f2, f3, f4, f5, f6⟩ := hf
  obtain ⟨kind, num, mat, text, names, keys, kids⟩ := n
  simp only at *
  unfold ndV
  simp only
  by_cases x3 : kind = 3
  · subst x3
    exact specF3 num mat text names keys a1 a2 a3 c1 c2 c3 kids.length w
  by_cases x7 : kind = 7
  · subst x7
    exact specF7 num mat text names keys a1 a2 a3 c1 c2 c3 kids.length w f1
  by_cases x8 : kind = 8
  · subst x8
    exact specF8 num mat text names keys a1 a2 a3 c1 c2 c3 kids.length w f1
  by_cases x9 : kind = 9
  · subst x9
    exact specF9 num mat text names keys a1 a2 a3 c1 c2 c3 kids.length w f1
  by_cases x10 : kind = 10
  · subst x10
    exact specF10 num mat text names keys a1 a2 a3 c1 c2 c3 kids.length w f1
  by_cases x11 : kind = 11
  · subst x11
    rcases names with _ | ⟨t, _ | ⟨t2, r⟩⟩
    · exact specF11no num mat text [] keys a1 a2 a3 c1 c2 c3 kids.length w f1 rfl
    · obtain ⟨a, rfl, ha, hc⟩ := t1 0 (by simp)
      exact specF11yes num mat text t keys a a2 a3 c1 c2 c3 kids.length w f1 (f3 t (by simp)) ha hc
    · exact specF11no num mat text (t :: t2 :: r) keys a1 a2 a3 c1 c2 c3 kids.length w f1 (by simp; omega)
  by_cases x28 : kind = 28
  · subst x28
    exact specF28 num mat text names keys a1 a2 a3 c1 c2 c3 kids.length w t1 f2 f3
  by_cases x29 : kind = 29
  · subst x29
    exact specF29 num mat text names keys a1 a2 a3 c1 c2 c3 kids.length w
  by_cases x30 : kind = 30
  · subst x30
    exact specF30 num mat text names keys a1 a2 a3 c1 c2 c3 kids.length w
  by_cases x25 : kind = 25
  · subst x25
    exact specF25 num mat text names keys a1 a2 a3 c1 c2 c3 kids.length w t1 f2 f3 t2 f4 f5
  by_cases x26 : kind = 26
  · subst x26
    exact specF26 num mat text names keys a1 a2 a3 c1 c2 c3 kids.length w t1 f2 f3 t2 f4 f5
  by_cases x27 : kind = 27
  · subst x27
    exact specF27 num mat text names keys a1 a2 a3 c1 c2 c3 kids.length w t1 f2 f3 t2 f4 f5
  by_cases x31 : kind = 31
  · subst x31
    exact specF31 num mat text names keys a1 a2 a3 c1 c2 c3 kids.length w t1 f2 f3 t2 f4 f5
  by_cases x1 : kind = 1
  · subst x1
    exact specF1 num mat text names keys a1 a2 a3 c1 c2 c3 kids.length w
  by_cases x2 : kind = 2
  · subst x2
    exact specF2 num mat text names keys a1 a2 a3 c1 c2 c3 kids.length w
  by_cases x4 : kind = 4
  · subst x4
    exact specF4 num mat text names keys a1 a2 a3 c1 c2 c3 kids.length w
  by_cases x5 : kind = 5
  · subst x5
    exact specF5 num mat text names keys a1 a2 a3 c1 c2 c3 kids.length w
  by_cases x6 : kind = 6
  · subst x6
    exact specF6 num mat text names keys a1 a2 a3 c1 c2 c3 kids.length w
  by_cases x20 : kind = 20
  · subst x20
    exact specF20 num mat text names keys a1 a2 a3 c1 c2 c3 kids.length w
  by_cases x21 : kind = 21
  · subst x21
    exact specF21 num mat text names keys a1 a2 a3 c1 c2 c3 kids.length w
  by_cases x22 : kind = 22
  · subst x22
    exact specF22 num mat text names keys a1 a2 a3 c1 c2 c3 kids.length w
  by_cases x23 : kind = 23
  · subst x23
    exact specF23 num mat text names keys a1 a2 a3 c1 c2 c3 kids.length w
  by_cases x24 : kind = 24
  · subst x24
    exact specF24 num mat text names keys a1 a2 a3 c1 c2 c3 kids.length w
  have e : Fn.fieldsOk ⟨kind, num, mat, text, names, keys, kids⟩ = false := by
    unfold Fn.fieldsOk
    simp [x3, x7, x8, x9, x10, x11, x28, x29, x30, x25, x26, x27, x31, x1, x2, x4, x5, x6, x20, x21, x22, x23, x24]
  rw [e]
  exact specFno kind num mat text names keys a1 a2 a3 c1 c2 c3 kids.length w (by simpa using x3) (by simpa using x7) (by simpa using x8) (by simpa using x9) (by simpa using x10) (by simpa using x11) (by simpa using x28) (by simpa using x29) (by simpa using x30) (by simpa using x25) (by simpa using x26) (by simpa using x27) (by simpa using x31) (by simpa using x1) (by simpa using x2) (by simpa using x4) (by simpa using x5) (by simpa using x6) (by simpa using x20) (by simpa using x21) (by simpa using x22) (by simpa using x23) (by simpa using x24)
end Go.Proofs.Ytonnmbkfjiddnaa
namespace Go.Proofs.Ytonnmbkfjiddnaa
open Go.RowKit Go.Lib Go.Maps
namespace Fn
/-- Whether a kid of a kind may stand at a place. -/
def kidOk (kind : Int) (i : Nat) (k : Int) : Bool :=
  if kind = 1 then isCmd k else
  if kind = 2 then (((i : Int) == 0) && isTest k) || ((((i : Int) == 1) && (k == 1)) || (((i : Int) == 2) && ((k == 1) || (k == 2)))) else
  if kind = 3 then ((i : Int) == 0) && (k == 1) else
  if kind = 22 then ((i : Int) == 0) && isTest k else
  if kind = 23 ∨ kind = 24 then isTest k else false
def kidsFrom (kind : Int) : Nat → List Int → Bool
  | _, [] => true
  | i, k :: r => kidOk kind i k && kidsFrom kind (i + 1) r
def least (kind : Int) (n : Nat) : Bool :=
  if kind = 2 then decide (2 ≤ (n : Int)) else if kind = 3 ∨ kind = 22 ∨ kind = 23 ∨ kind = 24 then decide (1 ≤ (n : Int)) else true
def kidsOk (kind : Int) (ks : List Int) : Bool := kidsFrom kind 0 ks && least kind ks.length
theorem from_step (kind : Int) (ks : List Int) (i : Nat) (h : i < ks.length) : kidsFrom kind i (ks.drop i) = (kidOk kind i ks[i] && kidsFrom kind (i + 1) (ks.drop (i + 1))) := by
  rw [List.drop_eq_getElem_cons h, kidsFrom]
end Fn
set_option maxHeartbeats 2000000 in
set_option maxRecDepth 20000 in
theorem specKids1 (num mat : Int) (text : ByteArray) (v1 v2 : Value) (o od : Option Addr) (F : List Nd) (kids ks : List Int) (cap cd : Nat) (w : World) (hF : Nds w.heap.size w o F) (hk : Ints w.heap.size w od kids) (_ : kids.length ≤ 1048576) (_ : F.length ≤ 1048576) (hks : ks.length = kids.length) (hin : ∀ i (h : i < kids.length) (h' : i < ks.length), ∃ q : Nat, kids[i] = (q : Int) ∧ ∃ hq : q < F.length, F[q].kind = ks[i]) :
    Calls Try.prog 49 #[.slice o F.length cap, .agg #[.int .i64 1, .int .i64 num, .int .i64 mat, .string text, v1, v2, .slice od kids.length cd]] w fun e w' => e = .returned (.bool (Fn.kidsOk 1 ks)) ∧ Below w.heap.size w w' := by
  obtain ⟨A, hA⟩ : ∃ A, Fn.kidsFrom 1 0 ks = A := ⟨_, rfl⟩
  have hans : Hid (Fn.kidsOk 1 ks = (A && Fn.least 1 kids.length)) := by
    unfold Fn.kidsOk
    rw [hA, hks]
    exact rfl
  rw [hans.out]
  have hbA : Below w.heap.size w (w.alloc (.cells #[.int .i64 1, .int .i64 num, .int .i64 mat, .string text, v1, v2, .slice od kids.length cd] 44)) := (Below.refl _ _).alloc (Nat.le_refl _) _
  have hF := mkH (hF.below hbA)
  have hk := mkH (hk.below hbA)
  have hin := mkH hin
  have hks := mkH hks
  have HA := mkH hA
  have hB : (w.alloc (.cells #[.int .i64 1, .int .i64 num, .int .i64 mat, .string text, v1, v2, .slice od kids.length cd] 44)).heap[w.heap.size]? = some (.cells #[.int .i64 1, .int .i64 num, .int .i64 mat, .string text, v1, v2, .slice od kids.length cd] 44 (0, 0)) := hp_allocN _ _
  have q0 : (w.alloc (.cells #[.int .i64 1, .int .i64 num, .int .i64 mat, .string text, v1, v2, .slice od kids.length cd] 44)).cell? ⟨w.heap.size, 0, none⟩ = some (.int .i64 1) := by simp
  have q6 : (w.alloc (.cells #[.int .i64 1, .int .i64 num, .int .i64 mat, .string text, v1, v2, .slice od kids.length cd] 44)).cell? ⟨w.heap.size, 6, none⟩ = some (.slice od kids.length cd) := by simp
  obtain ⟨W, hW⟩ : ∃ W, W = w.alloc (.cells #[.int .i64 1, .int .i64 num, .int .i64 mat, .string text, v1, v2, .slice od kids.length cd] 44) := ⟨_, rfl⟩
  have HW := mkH hW
  rw [← hW] at hF hk q0 q6 hbA
  clear hans hA hW hB
  have hbA := mkH hbA
  go_enter Try.func49, Try.ntmps49
  go_wp2
  rw [← HW.out]
  clear HW
  generalize hG : w.heap.size = G at *
  go_loopw [5] (fun iv wr => ∃ i : Nat, i ≤ kids.length ∧ iv = .int .i64 i ∧ Hid (Fn.kidsFrom 1 i (ks.drop i) = A) ∧ wr = W) (fun iv _ => kids.length - (Lib.intOf iv).toNat)
  case atStart => exact ⟨0, Nat.zero_le _, rfl, HA, rfl⟩
  case round =>
    obtain ⟨i, hi, rfl, hfr, hWr⟩ := hrel
    have hWr' : wr = W := hWr
    clear hWr
    subst hWr'
    by_cases hlt : i < kids.length
    · have hls : i < ks.length := by rw [hks.out]; exact hlt
      obtain ⟨q, hq, hqF, hqk⟩ := hin.out i hlt hls
      obtain ⟨a, rfl, ha, ck⟩ := hk.out i hlt
      obtain ⟨b, vn, vk, vd, rfl, hb, hN, -⟩ := hF.out q hqF
      rw [hq] at ck
      have cn := hN.c0
      rw [hqk] at cn
      have hst := mkH (hfr.out.symm.trans (Fn.from_step 1 ks i hls))
      clear hN hq hqk hfr hF hk hin hks
      generalize ks[i] = x at *
      cases hc : Fn.isCmd x
      · have hL := specIsCmd x wr
        rw [hc] at hL
        have hf : Hid (A = false) := by rw [hst.out, show Fn.kidOk 1 i x = false from hc]; exact Bool.false_and _
        clear hst hc
        go_wp2_with fail
        refine hL.mono ?_
        rintro e w2 ⟨rfl, rfl⟩
        go_wp2
        go_ret
        rw [hf.out]
        exact ⟨rfl, by rw [hG]; exact hbA.out⟩
      · have hL := specIsCmd x wr
        rw [hc] at hL
        have hf : Hid (Fn.kidsFrom 1 (i + 1) (ks.drop (i + 1)) = A) := by rw [hst.out, show Fn.kidOk 1 i x = true from hc]; exact (Bool.true_and _).symm
        clear hst hc
        go_wp2_with fail
        refine hL.mono ?_
        rintro e w2 ⟨rfl, rfl⟩
        go_wp2
        go_roundw
        case rel => exact ⟨i + 1, by omega, by go_num, hf, trivial⟩
        case measure => simp [Lib.intOf]; omega
    · have hf : Hid (A = true) := by
        have := hfr.out
        rw [List.drop_eq_nil_of_le (by rw [hks.out]; omega)] at this
        exact this.symm
      clear hfr hF hk hin hks
      go_wp2
      go_ret
      rw [hf.out]
      exact ⟨rfl, by rw [hG]; exact hbA.out⟩
set_option maxHeartbeats 2000000 in
set_option maxRecDepth 20000 in
theorem specKids23 (num mat : Int) (text : ByteArray) (v1 v2 : Value) (o od : Option Addr) (F : List Nd) (kids ks : List Int) (cap cd : Nat) (w : World) (hF : Nds w.heap.size w o F) (hk : Ints w.heap.size w od kids) (_ : kids.length ≤ 1048576) (_ : F.length ≤ 1048576) (hks : ks.length = kids.length) (hin : ∀ i (h : i < kids.length) (h' : i < ks.length), ∃ q : Nat, kids[i] = (q : Int) ∧ ∃ hq : q < F.length, F[q].kind = ks[i]) :
    Calls Try.prog 49 #[.slice o F.length cap, .agg #[.int .i64 23, .int .i64 num, .int .i64 mat, .string text, v1, v2, .slice od kids.length cd]] w fun e w' => e = .returned (.bool (Fn.kidsOk 23 ks)) ∧ Below w.heap.size w w' := by
  obtain ⟨A, hA⟩ : ∃ A, Fn.kidsFrom 23 0 ks = A := ⟨_, rfl⟩
  have hans : Hid (Fn.kidsOk 23 ks = (A && Fn.least 23 kids.length)) := by
    unfold Fn.kidsOk
    rw [hA, hks]
    exact rfl
  rw [hans.out]
  have hbA : Below w.heap.size w (w.alloc (.cells #[.int .i64 23, .int .i64 num, .int .i64 mat, .string text, v1, v2, .slice od kids.length cd] 44)) := (Below.refl _ _).alloc (Nat.le_refl _) _
  have hF := mkH (hF.below hbA)
  have hk := mkH (hk.below hbA)
  have hin := mkH hin
  have hks := mkH hks
  have HA := mkH hA
  have hB : (w.alloc (.cells #[.int .i64 23, .int .i64 num, .int .i64 mat, .string text, v1, v2, .slice od kids.length cd] 44)).heap[w.heap.size]? = some (.cells #[.int .i64 23, .int .i64 num, .int .i64 mat, .string text, v1, v2, .slice od kids.length cd] 44 (0, 0)) := hp_allocN _ _
  have q0 : (w.alloc (.cells #[.int .i64 23, .int .i64 num, .int .i64 mat, .string text, v1, v2, .slice od kids.length cd] 44)).cell? ⟨w.heap.size, 0, none⟩ = some (.int .i64 23) := by simp
  have q6 : (w.alloc (.cells #[.int .i64 23, .int .i64 num, .int .i64 mat, .string text, v1, v2, .slice od kids.length cd] 44)).cell? ⟨w.heap.size, 6, none⟩ = some (.slice od kids.length cd) := by simp
  obtain ⟨W, hW⟩ : ∃ W, W = w.alloc (.cells #[.int .i64 23, .int .i64 num, .int .i64 mat, .string text, v1, v2, .slice od kids.length cd] 44) := ⟨_, rfl⟩
  have HW := mkH hW
  rw [← hW] at hF hk q0 q6 hbA
  clear hans hA hW hB
  have hbA := mkH hbA
  go_enter Try.func49, Try.ntmps49
  go_wp2
  rw [← HW.out]
  clear HW
  generalize hG : w.heap.size = G at *
  go_loopw [5] (fun iv wr => ∃ i : Nat, i ≤ kids.length ∧ iv = .int .i64 i ∧ Hid (Fn.kidsFrom 23 i (ks.drop i) = A) ∧ wr = W) (fun iv _ => kids.length - (Lib.intOf iv).toNat)
  case atStart => exact ⟨0, Nat.zero_le _, rfl, HA, rfl⟩
  case round =>
    obtain ⟨i, hi, rfl, hfr, hWr⟩ := hrel
    have hWr' : wr = W := hWr
    clear hWr
    subst hWr'
    by_cases hlt : i < kids.length
    · have hls : i < ks.length := by rw [hks.out]; exact hlt
      obtain ⟨q, hq, hqF, hqk⟩ := hin.out i hlt hls
      obtain ⟨a, rfl, ha, ck⟩ := hk.out i hlt
      obtain ⟨b, vn, vk, vd, rfl, hb, hN, -⟩ := hF.out q hqF
      rw [hq] at ck
      have cn := hN.c0
      rw [hqk] at cn
      have hst := mkH (hfr.out.symm.trans (Fn.from_step 23 ks i hls))
      clear hN hq hqk hfr hF hk hin hks
      generalize ks[i] = x at *
      cases hc : Fn.isTest x
      · have hL := specIsTest x wr
        rw [hc] at hL
        have hf : Hid (A = false) := by rw [hst.out, show Fn.kidOk 23 i x = false from hc]; exact Bool.false_and _
        clear hst hc
        go_wp2_with fail
        refine hL.mono ?_
        rintro e w2 ⟨rfl, rfl⟩
        go_wp2
        go_ret
        rw [hf.out]
        exact ⟨rfl, by rw [hG]; exact hbA.out⟩
      · have hL := specIsTest x wr
        rw [hc] at hL
        have hf : Hid (Fn.kidsFrom 23 (i + 1) (ks.drop (i + 1)) = A) := by rw [hst.out, show Fn.kidOk 23 i x = true from hc]; exact (Bool.true_and _).symm
        clear hst hc
        go_wp2_with fail
        refine hL.mono ?_
        rintro e w2 ⟨rfl, rfl⟩
        go_wp2
        go_roundw
        case rel => exact ⟨i + 1, by omega, by go_num, hf, trivial⟩
        case measure => simp [Lib.intOf]; omega
    · have hf : Hid (A = true) := by
        have := hfr.out
        rw [List.drop_eq_nil_of_le (by rw [hks.out]; omega)] at this
        exact this.symm
      clear hfr hF hk hin hks
      go_wp2
      go_ret
      rw [hf.out]
      exact ⟨rfl, by rw [hG]; exact hbA.out⟩
set_option maxHeartbeats 2000000 in
set_option maxRecDepth 20000 in
theorem specKids24 (num mat : Int) (text : ByteArray) (v1 v2 : Value) (o od : Option Addr) (F : List Nd) (kids ks : List Int) (cap cd : Nat) (w : World) (hF : Nds w.heap.size w o F) (hk : Ints w.heap.size w od kids) (_ : kids.length ≤ 1048576) (_ : F.length ≤ 1048576) (hks : ks.length = kids.length) (hin : ∀ i (h : i < kids.length) (h' : i < ks.length), ∃ q : Nat, kids[i] = (q : Int) ∧ ∃ hq : q < F.length, F[q].kind = ks[i]) :
    Calls Try.prog 49 #[.slice o F.length cap, .agg #[.int .i64 24, .int .i64 num, .int .i64 mat, .string text, v1, v2, .slice od kids.length cd]] w fun e w' => e = .returned (.bool (Fn.kidsOk 24 ks)) ∧ Below w.heap.size w w' := by
  obtain ⟨A, hA⟩ : ∃ A, Fn.kidsFrom 24 0 ks = A := ⟨_, rfl⟩
  have hans : Hid (Fn.kidsOk 24 ks = (A && Fn.least 24 kids.length)) := by
    unfold Fn.kidsOk
    rw [hA, hks]
    exact rfl
  rw [hans.out]
  have hbA : Below w.heap.size w (w.alloc (.cells #[.int .i64 24, .int .i64 num, .int .i64 mat, .string text, v1, v2, .slice od kids.length cd] 44)) := (Below.refl _ _).alloc (Nat.le_refl _) _
  have hF := mkH (hF.below hbA)
  have hk := mkH (hk.below hbA)
  have hin := mkH hin
  have hks := mkH hks
  have HA := mkH hA
  have hB : (w.alloc (.cells #[.int .i64 24, .int .i64 num, .int .i64 mat, .string text, v1, v2, .slice od kids.length cd] 44)).heap[w.heap.size]? = some (.cells #[.int .i64 24, .int .i64 num, .int .i64 mat, .string text, v1, v2, .slice od kids.length cd] 44 (0, 0)) := hp_allocN _ _
  have q0 : (w.alloc (.cells #[.int .i64 24, .int .i64 num, .int .i64 mat, .string text, v1, v2, .slice od kids.length cd] 44)).cell? ⟨w.heap.size, 0, none⟩ = some (.int .i64 24) := by simp
  have q6 : (w.alloc (.cells #[.int .i64 24, .int .i64 num, .int .i64 mat, .string text, v1, v2, .slice od kids.length cd] 44)).cell? ⟨w.heap.size, 6, none⟩ = some (.slice od kids.length cd) := by simp
  obtain ⟨W, hW⟩ : ∃ W, W = w.alloc (.cells #[.int .i64 24, .int .i64 num, .int .i64 mat, .string text, v1, v2, .slice od kids.length cd] 44) := ⟨_, rfl⟩
  have HW := mkH hW
  rw [← hW] at hF hk q0 q6 hbA
  clear hans hA hW hB
  have hbA := mkH hbA
  go_enter Try.func49, Try.ntmps49
  go_wp2
  rw [← HW.out]
  clear HW
  generalize hG : w.heap.size = G at *
  go_loopw [5] (fun iv wr => ∃ i : Nat, i ≤ kids.length ∧ iv = .int .i64 i ∧ Hid (Fn.kidsFrom 24 i (ks.drop i) = A) ∧ wr = W) (fun iv _ => kids.length - (Lib.intOf iv).toNat)
  case atStart => exact ⟨0, Nat.zero_le _, rfl, HA, rfl⟩
  case round =>
    obtain ⟨i, hi, rfl, hfr, hWr⟩ := hrel
    have hWr' : wr = W := hWr
    clear hWr
    subst hWr'
    by_cases hlt : i < kids.length
    · have hls : i < ks.length := by rw [hks.out]; exact hlt
      obtain ⟨q, hq, hqF, hqk⟩ := hin.out i hlt hls
      obtain ⟨a, rfl, ha, ck⟩ := hk.out i hlt
      obtain ⟨b, vn, vk, vd, rfl, hb, hN, -⟩ := hF.out q hqF
      rw [hq] at ck
      have cn := hN.c0
      rw [hqk] at cn
      have hst := mkH (hfr.out.symm.trans (Fn.from_step 24 ks i hls))
      clear hN hq hqk hfr hF hk hin hks
      generalize ks[i] = x at *
      cases hc : Fn.isTest x
      · have hL := specIsTest x wr
        rw [hc] at hL
        have hf : Hid (A = false) := by rw [hst.out, show Fn.kidOk 24 i x = false from hc]; exact Bool.false_and _
        clear hst hc
        go_wp2_with fail
        refine hL.mono ?_
        rintro e w2 ⟨rfl, rfl⟩
        go_wp2
        go_ret
        rw [hf.out]
        exact ⟨rfl, by rw [hG]; exact hbA.out⟩
      · have hL := specIsTest x wr
        rw [hc] at hL
        have hf : Hid (Fn.kidsFrom 24 (i + 1) (ks.drop (i + 1)) = A) := by rw [hst.out, show Fn.kidOk 24 i x = true from hc]; exact (Bool.true_and _).symm
        clear hst hc
        go_wp2_with fail
        refine hL.mono ?_
        rintro e w2 ⟨rfl, rfl⟩
        go_wp2
        go_roundw
        case rel => exact ⟨i + 1, by omega, by go_num, hf, trivial⟩
        case measure => simp [Lib.intOf]; omega
    · have hf : Hid (A = true) := by
        have := hfr.out
        rw [List.drop_eq_nil_of_le (by rw [hks.out]; omega)] at this
        exact this.symm
      clear hfr hF hk hin hks
      go_wp2
      go_ret
      rw [hf.out]
      exact ⟨rfl, by rw [hG]; exact hbA.out⟩
set_option maxHeartbeats 2000000 in
set_option maxRecDepth 20000 in
theorem specKids22 (num mat : Int) (text : ByteArray) (v1 v2 : Value) (o od : Option Addr) (F : List Nd) (kids ks : List Int) (cap cd : Nat) (w : World) (hF : Nds w.heap.size w o F) (hk : Ints w.heap.size w od kids) (_ : kids.length ≤ 1048576) (_ : F.length ≤ 1048576) (hks : ks.length = kids.length) (hin : ∀ i (h : i < kids.length) (h' : i < ks.length), ∃ q : Nat, kids[i] = (q : Int) ∧ ∃ hq : q < F.length, F[q].kind = ks[i]) :
    Calls Try.prog 49 #[.slice o F.length cap, .agg #[.int .i64 22, .int .i64 num, .int .i64 mat, .string text, v1, v2, .slice od kids.length cd]] w fun e w' => e = .returned (.bool (Fn.kidsOk 22 ks)) ∧ Below w.heap.size w w' := by
  obtain ⟨A, hA⟩ : ∃ A, Fn.kidsFrom 22 0 ks = A := ⟨_, rfl⟩
  have hans : Hid (Fn.kidsOk 22 ks = (A && Fn.least 22 kids.length)) := by
    unfold Fn.kidsOk
    rw [hA, hks]
    exact rfl
  rw [hans.out]
  have hbA : Below w.heap.size w (w.alloc (.cells #[.int .i64 22, .int .i64 num, .int .i64 mat, .string text, v1, v2, .slice od kids.length cd] 44)) := (Below.refl _ _).alloc (Nat.le_refl _) _
  have hF := mkH (hF.below hbA)
  have hk := mkH (hk.below hbA)
  have hin := mkH hin
  have hks := mkH hks
  have HA := mkH hA
  have hB : (w.alloc (.cells #[.int .i64 22, .int .i64 num, .int .i64 mat, .string text, v1, v2, .slice od kids.length cd] 44)).heap[w.heap.size]? = some (.cells #[.int .i64 22, .int .i64 num, .int .i64 mat, .string text, v1, v2, .slice od kids.length cd] 44 (0, 0)) := hp_allocN _ _
  have q0 : (w.alloc (.cells #[.int .i64 22, .int .i64 num, .int .i64 mat, .string text, v1, v2, .slice od kids.length cd] 44)).cell? ⟨w.heap.size, 0, none⟩ = some (.int .i64 22) := by simp
  have q6 : (w.alloc (.cells #[.int .i64 22, .int .i64 num, .int .i64 mat, .string text, v1, v2, .slice od kids.length cd] 44)).cell? ⟨w.heap.size, 6, none⟩ = some (.slice od kids.length cd) := by simp
  obtain ⟨W, hW⟩ : ∃ W, W = w.alloc (.cells #[.int .i64 22, .int .i64 num, .int .i64 mat, .string text, v1, v2, .slice od kids.length cd] 44) := ⟨_, rfl⟩
  have HW := mkH hW
  rw [← hW] at hF hk q0 q6 hbA
  clear hans hA hW hB
  have hbA := mkH hbA
  go_enter Try.func49, Try.ntmps49
  go_wp2
  rw [← HW.out]
  clear HW
  generalize hG : w.heap.size = G at *
  go_loopw [5] (fun iv wr => ∃ i : Nat, i ≤ kids.length ∧ iv = .int .i64 i ∧ Hid (Fn.kidsFrom 22 i (ks.drop i) = A) ∧ wr = W) (fun iv _ => kids.length - (Lib.intOf iv).toNat)
  case atStart => exact ⟨0, Nat.zero_le _, rfl, HA, rfl⟩
  case round =>
    obtain ⟨i, hi, rfl, hfr, hWr⟩ := hrel
    have hWr' : wr = W := hWr
    clear hWr
    subst hWr'
    by_cases hlt : i < kids.length
    · have hls : i < ks.length := by rw [hks.out]; exact hlt
      obtain ⟨q, hq, hqF, hqk⟩ := hin.out i hlt hls
      obtain ⟨a, rfl, ha, ck⟩ := hk.out i hlt
      obtain ⟨b, vn, vk, vd, rfl, hb, hN, -⟩ := hF.out q hqF
      rw [hq] at ck
      have cn := hN.c0
      rw [hqk] at cn
      have hst := mkH (hfr.out.symm.trans (Fn.from_step 22 ks i hls))
      clear hN hq hqk hfr hF hk hin hks
      generalize ks[i] = x at *
      by_cases hz : i = 0
      · have i0 : ((i : Int) == 0) = true := by simp; omega
        clear hz
        cases hc : Fn.isTest x
        · have hL := specIsTest x wr
          rw [hc] at hL
          have hf : Hid (A = false) := by rw [hst.out, show Fn.kidOk 22 i x = false from by unfold Fn.kidOk; simp [i0, hc]]; exact Bool.false_and _
          clear hst hc
          go_wp2_with fail
          refine hL.mono ?_
          rintro e w2 ⟨rfl, rfl⟩
          go_wp2
          go_ret
          rw [hf.out]
          exact ⟨rfl, by rw [hG]; exact hbA.out⟩
        · have hL := specIsTest x wr
          rw [hc] at hL
          have hf : Hid (Fn.kidsFrom 22 (i + 1) (ks.drop (i + 1)) = A) := by rw [hst.out, show Fn.kidOk 22 i x = true from by unfold Fn.kidOk; simp [i0, hc]]; exact (Bool.true_and _).symm
          clear hst hc
          go_wp2_with fail
          refine hL.mono ?_
          rintro e w2 ⟨rfl, rfl⟩
          go_wp2
          go_roundw
          case rel => exact ⟨i + 1, by omega, by go_num, hf, trivial⟩
          case measure => simp [Lib.intOf]; omega
      · have i0 : ((i : Int) == 0) = false := by simp; omega
        have hf : Hid (A = false) := by rw [hst.out, show Fn.kidOk 22 i x = false from by unfold Fn.kidOk; simp [i0]]; exact Bool.false_and _
        clear hst
        go_wp2
        go_ret
        rw [hf.out]
        exact ⟨rfl, by rw [hG]; exact hbA.out⟩
    · have hf : Hid (A = true) := by
        have := hfr.out
        rw [List.drop_eq_nil_of_le (by rw [hks.out]; omega)] at this
        exact this.symm
      clear hfr hF hk hin hks
      go_wp2
      go_ret
      rw [hf.out]
      exact ⟨rfl, by rw [hG]; exact hbA.out⟩
set_option maxHeartbeats 2000000 in
set_option maxRecDepth 20000 in
theorem specKids3 (num mat : Int) (text : ByteArray) (v1 v2 : Value) (o od : Option Addr) (F : List Nd) (kids ks : List Int) (cap cd : Nat) (w : World) (hF : Nds w.heap.size w o F) (hk : Ints w.heap.size w od kids) (_ : kids.length ≤ 1048576) (_ : F.length ≤ 1048576) (hks : ks.length = kids.length) (hin : ∀ i (h : i < kids.length) (h' : i < ks.length), ∃ q : Nat, kids[i] = (q : Int) ∧ ∃ hq : q < F.length, F[q].kind = ks[i]) :
    Calls Try.prog 49 #[.slice o F.length cap, .agg #[.int .i64 3, .int .i64 num, .int .i64 mat, .string text, v1, v2, .slice od kids.length cd]] w fun e w' => e = .returned (.bool (Fn.kidsOk 3 ks)) ∧ Below w.heap.size w w' := by
  obtain ⟨A, hA⟩ : ∃ A, Fn.kidsFrom 3 0 ks = A := ⟨_, rfl⟩
  have hans : Hid (Fn.kidsOk 3 ks = (A && Fn.least 3 kids.length)) := by
    unfold Fn.kidsOk
    rw [hA, hks]
    exact rfl
  rw [hans.out]
  have hbA : Below w.heap.size w (w.alloc (.cells #[.int .i64 3, .int .i64 num, .int .i64 mat, .string text, v1, v2, .slice od kids.length cd] 44)) := (Below.refl _ _).alloc (Nat.le_refl _) _
  have hF := mkH (hF.below hbA)
  have hk := mkH (hk.below hbA)
  have hin := mkH hin
  have hks := mkH hks
  have HA := mkH hA
  have hB : (w.alloc (.cells #[.int .i64 3, .int .i64 num, .int .i64 mat, .string text, v1, v2, .slice od kids.length cd] 44)).heap[w.heap.size]? = some (.cells #[.int .i64 3, .int .i64 num, .int .i64 mat, .string text, v1, v2, .slice od kids.length cd] 44 (0, 0)) := hp_allocN _ _
  have q0 : (w.alloc (.cells #[.int .i64 3, .int .i64 num, .int .i64 mat, .string text, v1, v2, .slice od kids.length cd] 44)).cell? ⟨w.heap.size, 0, none⟩ = some (.int .i64 3) := by simp
  have q6 : (w.alloc (.cells #[.int .i64 3, .int .i64 num, .int .i64 mat, .string text, v1, v2, .slice od kids.length cd] 44)).cell? ⟨w.heap.size, 6, none⟩ = some (.slice od kids.length cd) := by simp
  obtain ⟨W, hW⟩ : ∃ W, W = w.alloc (.cells #[.int .i64 3, .int .i64 num, .int .i64 mat, .string text, v1, v2, .slice od kids.length cd] 44) := ⟨_, rfl⟩
  have HW := mkH hW
  rw [← hW] at hF hk q0 q6 hbA
  clear hans hA hW hB
  have hbA := mkH hbA
  go_enter Try.func49, Try.ntmps49
  go_wp2
  rw [← HW.out]
  clear HW
  generalize hG : w.heap.size = G at *
  go_loopw [5] (fun iv wr => ∃ i : Nat, i ≤ kids.length ∧ iv = .int .i64 i ∧ Hid (Fn.kidsFrom 3 i (ks.drop i) = A) ∧ wr = W) (fun iv _ => kids.length - (Lib.intOf iv).toNat)
  case atStart => exact ⟨0, Nat.zero_le _, rfl, HA, rfl⟩
  case round =>
    obtain ⟨i, hi, rfl, hfr, hWr⟩ := hrel
    have hWr' : wr = W := hWr
    clear hWr
    subst hWr'
    by_cases hlt : i < kids.length
    · have hls : i < ks.length := by rw [hks.out]; exact hlt
      obtain ⟨q, hq, hqF, hqk⟩ := hin.out i hlt hls
      obtain ⟨a, rfl, ha, ck⟩ := hk.out i hlt
      obtain ⟨b, vn, vk, vd, rfl, hb, hN, -⟩ := hF.out q hqF
      rw [hq] at ck
      have cn := hN.c0
      rw [hqk] at cn
      have hst := mkH (hfr.out.symm.trans (Fn.from_step 3 ks i hls))
      clear hN hq hqk hfr hF hk hin hks
      generalize ks[i] = x at *
      by_cases hz : i = 0
      · have i0 : ((i : Int) == 0) = true := by simp; omega
        clear hz
        by_cases hx1 : x = 1
        · have x1 : (x == 1) = true := by simpa using hx1
          clear hx1
          have hf : Hid (Fn.kidsFrom 3 (i + 1) (ks.drop (i + 1)) = A) := by rw [hst.out, show Fn.kidOk 3 i x = true from by unfold Fn.kidOk; simp [i0, x1]]; exact (Bool.true_and _).symm
          clear hst
          go_wp2
          go_roundw
          case rel => exact ⟨i + 1, by omega, by go_num, hf, trivial⟩
          case measure => simp [Lib.intOf]; omega
        · have x1 : (x == 1) = false := by simpa using hx1
          clear hx1
          have hf : Hid (A = false) := by rw [hst.out, show Fn.kidOk 3 i x = false from by unfold Fn.kidOk; simp [x1]]; exact Bool.false_and _
          clear hst
          go_wp2
          go_ret
          rw [hf.out]
          exact ⟨rfl, by rw [hG]; exact hbA.out⟩
      · have i0 : ((i : Int) == 0) = false := by simp; omega
        have hf : Hid (A = false) := by rw [hst.out, show Fn.kidOk 3 i x = false from by unfold Fn.kidOk; simp [i0]]; exact Bool.false_and _
        clear hst
        go_wp2
        go_ret
        rw [hf.out]
        exact ⟨rfl, by rw [hG]; exact hbA.out⟩
    · have hf : Hid (A = true) := by
        have := hfr.out
        rw [List.drop_eq_nil_of_le (by rw [hks.out]; omega)] at this
        exact this.symm
      clear hfr hF hk hin hks
      go_wp2
      go_ret
      rw [hf.out]
      exact ⟨rfl, by rw [hG]; exact hbA.out⟩
set_option maxHeartbeats 2000000 in
set_option maxRecDepth 20000 in
theorem specKids2 (num mat : Int) (text : ByteArray) (v1 v2 : Value) (o od : Option Addr) (F : List Nd) (kids ks : List Int) (cap cd : Nat) (w : World) (hF : Nds w.heap.size w o F) (hk : Ints w.heap.size w od kids) (_ : kids.length ≤ 1048576) (_ : F.length ≤ 1048576) (hks : ks.length = kids.length) (hin : ∀ i (h : i < kids.length) (h' : i < ks.length), ∃ q : Nat, kids[i] = (q : Int) ∧ ∃ hq : q < F.length, F[q].kind = ks[i]) :
    Calls Try.prog 49 #[.slice o F.length cap, .agg #[.int .i64 2, .int .i64 num, .int .i64 mat, .string text, v1, v2, .slice od kids.length cd]] w fun e w' => e = .returned (.bool (Fn.kidsOk 2 ks)) ∧ Below w.heap.size w w' := by
  obtain ⟨A, hA⟩ : ∃ A, Fn.kidsFrom 2 0 ks = A := ⟨_, rfl⟩
  have hans : Hid (Fn.kidsOk 2 ks = (A && Fn.least 2 kids.length)) := by
    unfold Fn.kidsOk
    rw [hA, hks]
    exact rfl
  rw [hans.out]
  have hbA : Below w.heap.size w (w.alloc (.cells #[.int .i64 2, .int .i64 num, .int .i64 mat, .string text, v1, v2, .slice od kids.length cd] 44)) := (Below.refl _ _).alloc (Nat.le_refl _) _
  have hF := mkH (hF.below hbA)
  have hk := mkH (hk.below hbA)
  have hin := mkH hin
  have hks := mkH hks
  have HA := mkH hA
  have hB : (w.alloc (.cells #[.int .i64 2, .int .i64 num, .int .i64 mat, .string text, v1, v2, .slice od kids.length cd] 44)).heap[w.heap.size]? = some (.cells #[.int .i64 2, .int .i64 num, .int .i64 mat, .string text, v1, v2, .slice od kids.length cd] 44 (0, 0)) := hp_allocN _ _
  have q0 : (w.alloc (.cells #[.int .i64 2, .int .i64 num, .int .i64 mat, .string text, v1, v2, .slice od kids.length cd] 44)).cell? ⟨w.heap.size, 0, none⟩ = some (.int .i64 2) := by simp
  have q6 : (w.alloc (.cells #[.int .i64 2, .int .i64 num, .int .i64 mat, .string text, v1, v2, .slice od kids.length cd] 44)).cell? ⟨w.heap.size, 6, none⟩ = some (.slice od kids.length cd) := by simp
  obtain ⟨W, hW⟩ : ∃ W, W = w.alloc (.cells #[.int .i64 2, .int .i64 num, .int .i64 mat, .string text, v1, v2, .slice od kids.length cd] 44) := ⟨_, rfl⟩
  have HW := mkH hW
  rw [← hW] at hF hk q0 q6 hbA
  clear hans hA hW hB
  have hbA := mkH hbA
  go_enter Try.func49, Try.ntmps49
  go_wp2
  rw [← HW.out]
  clear HW
  generalize hG : w.heap.size = G at *
  go_loopw [5] (fun iv wr => ∃ i : Nat, i ≤ kids.length ∧ iv = .int .i64 i ∧ Hid (Fn.kidsFrom 2 i (ks.drop i) = A) ∧ wr = W) (fun iv _ => kids.length - (Lib.intOf iv).toNat)
  case atStart => exact ⟨0, Nat.zero_le _, rfl, HA, rfl⟩
  case round =>
    obtain ⟨i, hi, rfl, hfr, hWr⟩ := hrel
    have hWr' : wr = W := hWr
    clear hWr
    subst hWr'
    by_cases hlt : i < kids.length
    · have hls : i < ks.length := by rw [hks.out]; exact hlt
      obtain ⟨q, hq, hqF, hqk⟩ := hin.out i hlt hls
      obtain ⟨a, rfl, ha, ck⟩ := hk.out i hlt
      obtain ⟨b, vn, vk, vd, rfl, hb, hN, -⟩ := hF.out q hqF
      rw [hq] at ck
      have cn := hN.c0
      rw [hqk] at cn
      have hst := mkH (hfr.out.symm.trans (Fn.from_step 2 ks i hls))
      clear hN hq hqk hfr hF hk hin hks
      generalize ks[i] = x at *
      by_cases hz : i = 0
      · have i0 : ((i : Int) == 0) = true := by simp; omega
        have i1 : ((i : Int) == 1) = false := by simp; omega
        have i2 : ((i : Int) == 2) = false := by simp; omega
        clear hz
        cases hc : Fn.isTest x
        · have hL := specIsTest x wr
          rw [hc] at hL
          have hf : Hid (A = false) := by rw [hst.out, show Fn.kidOk 2 i x = false from by unfold Fn.kidOk; simp [i0, i1, i2, hc]]; exact Bool.false_and _
          clear hst hc
          go_wp2_with fail
          refine hL.mono ?_
          rintro e w2 ⟨rfl, rfl⟩
          go_wp2
          go_ret
          rw [hf.out]
          exact ⟨rfl, by rw [hG]; exact hbA.out⟩
        · have hL := specIsTest x wr
          rw [hc] at hL
          have hf : Hid (Fn.kidsFrom 2 (i + 1) (ks.drop (i + 1)) = A) := by rw [hst.out, show Fn.kidOk 2 i x = true from by unfold Fn.kidOk; simp [i0, i1, i2, hc]]; exact (Bool.true_and _).symm
          clear hst hc
          go_wp2_with fail
          refine hL.mono ?_
          rintro e w2 ⟨rfl, rfl⟩
          go_wp2
          go_roundw
          case rel => exact ⟨i + 1, by omega, by go_num, hf, trivial⟩
          case measure => simp [Lib.intOf]; omega
      · have i0 : ((i : Int) == 0) = false := by simp; omega
        by_cases hz1 : i = 1
        · have i1 : ((i : Int) == 1) = true := by simp; omega
          have i2 : ((i : Int) == 2) = false := by simp; omega
          clear hz1 hz
          by_cases hx1 : x = 1
          · have x1 : (x == 1) = true := by simpa using hx1
            clear hx1
            have hf : Hid (Fn.kidsFrom 2 (i + 1) (ks.drop (i + 1)) = A) := by rw [hst.out, show Fn.kidOk 2 i x = true from by unfold Fn.kidOk; simp [i0, i1, i2, x1]]; exact (Bool.true_and _).symm
            clear hst
            go_wp2
            go_roundw
            case rel => exact ⟨i + 1, by omega, by go_num, hf, trivial⟩
            case measure => simp [Lib.intOf]; omega
          · have x1 : (x == 1) = false := by simpa using hx1
            clear hx1
            have hf : Hid (A = false) := by rw [hst.out, show Fn.kidOk 2 i x = false from by unfold Fn.kidOk; simp [i0, i1, i2, x1]]; exact Bool.false_and _
            clear hst
            go_wp2
            go_ret
            rw [hf.out]
            exact ⟨rfl, by rw [hG]; exact hbA.out⟩
        · have i1 : ((i : Int) == 1) = false := by simp; omega
          by_cases hz2 : i = 2
          · have i2 : ((i : Int) == 2) = true := by simp; omega
            clear hz2 hz1 hz
            by_cases hx1 : x = 1
            · have x1 : (x == 1) = true := by simpa using hx1
              clear hx1
              have hf : Hid (Fn.kidsFrom 2 (i + 1) (ks.drop (i + 1)) = A) := by rw [hst.out, show Fn.kidOk 2 i x = true from by unfold Fn.kidOk; simp [i0, i1, i2, x1]]; exact (Bool.true_and _).symm
              clear hst
              go_wp2
              go_roundw
              case rel => exact ⟨i + 1, by omega, by go_num, hf, trivial⟩
              case measure => simp [Lib.intOf]; omega
            · have x1 : (x == 1) = false := by simpa using hx1
              clear hx1
              by_cases hx2 : x = 2
              · have x2 : (x == 2) = true := by simpa using hx2
                clear hx2
                have hf : Hid (Fn.kidsFrom 2 (i + 1) (ks.drop (i + 1)) = A) := by rw [hst.out, show Fn.kidOk 2 i x = true from by unfold Fn.kidOk; simp [i0, i1, i2, x1, x2]]; exact (Bool.true_and _).symm
                clear hst
                go_wp2
                go_roundw
                case rel => exact ⟨i + 1, by omega, by go_num, hf, trivial⟩
                case measure => simp [Lib.intOf]; omega
              · have x2 : (x == 2) = false := by simpa using hx2
                clear hx2
                have hf : Hid (A = false) := by rw [hst.out, show Fn.kidOk 2 i x = false from by unfold Fn.kidOk; simp [i0, i1, i2, x1, x2]]; exact Bool.false_and _
                clear hst
                go_wp2
                go_ret
                rw [hf.out]
                exact ⟨rfl, by rw [hG]; exact hbA.out⟩
          · have i2 : ((i : Int) == 2) = false := by simp; omega
            have hf : Hid (A = false) := by rw [hst.out, show Fn.kidOk 2 i x = false from by unfold Fn.kidOk; simp [i0, i1, i2]]; exact Bool.false_and _
            clear hst
            go_wp2
            go_ret
            rw [hf.out]
            exact ⟨rfl, by rw [hG]; exact hbA.out⟩
    · have hf : Hid (A = true) := by
        have := hfr.out
        rw [List.drop_eq_nil_of_le (by rw [hks.out]; omega)] at this
        exact this.symm
      clear hfr hF hk hin hks
      go_wp2
      go_ret
      rw [hf.out]
      exact ⟨rfl, by rw [hG]; exact hbA.out⟩
set_option maxHeartbeats 2000000 in
set_option maxRecDepth 20000 in
theorem specKidsNo (kd : Int) (num mat : Int) (text : ByteArray) (v1 v2 : Value) (o od : Option Addr) (F : List Nd) (kids ks : List Int) (cap cd : Nat) (w : World) (hF : Nds w.heap.size w o F) (hk : Ints w.heap.size w od kids) (_ : kids.length ≤ 1048576) (_ : F.length ≤ 1048576) (hks : ks.length = kids.length) (hin : ∀ i (h : i < kids.length) (h' : i < ks.length), ∃ q : Nat, kids[i] = (q : Int) ∧ ∃ hq : q < F.length, F[q].kind = ks[i]) (y1 : (kd == 1) = false) (y2 : (kd == 2) = false) (y3 : (kd == 3) = false) (y22 : (kd == 22) = false) (y23 : (kd == 23) = false) (y24 : (kd == 24) = false) :
    Calls Try.prog 49 #[.slice o F.length cap, .agg #[.int .i64 kd, .int .i64 num, .int .i64 mat, .string text, v1, v2, .slice od kids.length cd]] w fun e w' => e = .returned (.bool (Fn.kidsOk kd ks)) ∧ Below w.heap.size w w' := by
  obtain ⟨A, hA⟩ : ∃ A, Fn.kidsFrom kd 0 ks = A := ⟨_, rfl⟩
  have hans : Hid (Fn.kidsOk kd ks = (A && Fn.least kd kids.length)) := by
    unfold Fn.kidsOk
    rw [hA, hks]
    exact rfl
  rw [hans.out]
  have hbA : Below w.heap.size w (w.alloc (.cells #[.int .i64 kd, .int .i64 num, .int .i64 mat, .string text, v1, v2, .slice od kids.length cd] 44)) := (Below.refl _ _).alloc (Nat.le_refl _) _
  have hF := mkH (hF.below hbA)
  have hk := mkH (hk.below hbA)
  have hin := mkH hin
  have hks := mkH hks
  have HA := mkH hA
  have hB : (w.alloc (.cells #[.int .i64 kd, .int .i64 num, .int .i64 mat, .string text, v1, v2, .slice od kids.length cd] 44)).heap[w.heap.size]? = some (.cells #[.int .i64 kd, .int .i64 num, .int .i64 mat, .string text, v1, v2, .slice od kids.length cd] 44 (0, 0)) := hp_allocN _ _
  have q0 : (w.alloc (.cells #[.int .i64 kd, .int .i64 num, .int .i64 mat, .string text, v1, v2, .slice od kids.length cd] 44)).cell? ⟨w.heap.size, 0, none⟩ = some (.int .i64 kd) := by simp
  have q6 : (w.alloc (.cells #[.int .i64 kd, .int .i64 num, .int .i64 mat, .string text, v1, v2, .slice od kids.length cd] 44)).cell? ⟨w.heap.size, 6, none⟩ = some (.slice od kids.length cd) := by simp
  obtain ⟨W, hW⟩ : ∃ W, W = w.alloc (.cells #[.int .i64 kd, .int .i64 num, .int .i64 mat, .string text, v1, v2, .slice od kids.length cd] 44) := ⟨_, rfl⟩
  have HW := mkH hW
  rw [← hW] at hF hk q0 q6 hbA
  clear hans hA hW hB
  have hbA := mkH hbA
  go_enter Try.func49, Try.ntmps49
  go_wp2
  rw [← HW.out]
  clear HW
  generalize hG : w.heap.size = G at *
  go_loopw [5] (fun iv wr => ∃ i : Nat, i ≤ kids.length ∧ iv = .int .i64 i ∧ Hid (Fn.kidsFrom kd i (ks.drop i) = A) ∧ wr = W) (fun iv _ => kids.length - (Lib.intOf iv).toNat)
  case atStart => exact ⟨0, Nat.zero_le _, rfl, HA, rfl⟩
  case round =>
    obtain ⟨i, hi, rfl, hfr, hWr⟩ := hrel
    have hWr' : wr = W := hWr
    clear hWr
    subst hWr'
    by_cases hlt : i < kids.length
    · have hls : i < ks.length := by rw [hks.out]; exact hlt
      obtain ⟨q, hq, hqF, hqk⟩ := hin.out i hlt hls
      obtain ⟨a, rfl, ha, ck⟩ := hk.out i hlt
      obtain ⟨b, vn, vk, vd, rfl, hb, hN, -⟩ := hF.out q hqF
      rw [hq] at ck
      have cn := hN.c0
      rw [hqk] at cn
      have hst := mkH (hfr.out.symm.trans (Fn.from_step kd ks i hls))
      clear hN hq hqk hfr hF hk hin hks
      generalize ks[i] = x at *
      have z1 : ¬ kd = 1 := by simpa using y1
      have z2 : ¬ kd = 2 := by simpa using y2
      have z3 : ¬ kd = 3 := by simpa using y3
      have z22 : ¬ kd = 22 := by simpa using y22
      have z23 : ¬ kd = 23 := by simpa using y23
      have z24 : ¬ kd = 24 := by simpa using y24
      have hf : Hid (A = false) := by rw [hst.out, show Fn.kidOk kd i x = false from by unfold Fn.kidOk; simp [z1, z2, z3, z22, z23, z24]]; exact Bool.false_and _
      clear hst
      go_wp2
      go_ret
      rw [hf.out]
      exact ⟨rfl, by rw [hG]; exact hbA.out⟩
    · have hf : Hid (A = true) := by
        have := hfr.out
        rw [List.drop_eq_nil_of_le (by rw [hks.out]; omega)] at this
        exact this.symm
      clear hfr hF hk hin hks
      have z1 : ¬ kd = 1 := by simpa using y1
      have z2 : ¬ kd = 2 := by simpa using y2
      have z3 : ¬ kd = 3 := by simpa using y3
      have z22 : ¬ kd = 22 := by simpa using y22
      have z23 : ¬ kd = 23 := by simpa using y23
      have z24 : ¬ kd = 24 := by simpa using y24
      have hle : Hid (Fn.least kd kids.length = true) := by unfold Fn.least; simp [Hid, z2, z3, z22, z23, z24]
      go_wp2
      go_ret
      rw [hf.out, hle.out]
      exact ⟨rfl, by rw [hG]; exact hbA.out⟩
/-- The kids of a node. -/
theorem specKids (n : Nd) (vn vk vd : Value) (o : Option Addr) (F : List Nd) (ks : List Int) (cap : Nat) (w : World) (hI : NdIn w.heap.size w n vn vk vd) (hF : Nds w.heap.size w o F) (hf : n.fits 1048576) (hlF : F.length ≤ 1048576) (hks : ks.length = n.kids.length) (hin : ∀ i (h : i < n.kids.length) (h' : i < ks.length), ∃ q : Nat, n.kids[i] = (q : Int) ∧ ∃ hq : q < F.length, F[q].kind = ks[i]) :
    Calls Try.prog 49 #[.slice o F.length cap, ndV n vn vk vd] w fun e w' => e = .returned (.bool (Fn.kidsOk n.kind ks)) ∧ Below w.heap.size w w' := by
  obtain ⟨-, -, ⟨a3, c3, rfl, t3⟩⟩ := hI
  have f6 := hf.2.2.2.2.2
  obtain ⟨kind, num, mat, text, names, keys, kids⟩ := n
  unfold ndV
  simp only at *
  by_cases x1 : kind = 1
  · subst x1
    exact specKids1 num mat text vn vk o a3 F kids ks cap c3 w hF t3 f6 hlF hks hin
  by_cases x2 : kind = 2
  · subst x2
    exact specKids2 num mat text vn vk o a3 F kids ks cap c3 w hF t3 f6 hlF hks hin
  by_cases x3 : kind = 3
  · subst x3
    exact specKids3 num mat text vn vk o a3 F kids ks cap c3 w hF t3 f6 hlF hks hin
  by_cases x22 : kind = 22
  · subst x22
    exact specKids22 num mat text vn vk o a3 F kids ks cap c3 w hF t3 f6 hlF hks hin
  by_cases x23 : kind = 23
  · subst x23
    exact specKids23 num mat text vn vk o a3 F kids ks cap c3 w hF t3 f6 hlF hks hin
  by_cases x24 : kind = 24
  · subst x24
    exact specKids24 num mat text vn vk o a3 F kids ks cap c3 w hF t3 f6 hlF hks hin
  exact specKidsNo kind num mat text vn vk o a3 F kids ks cap c3 w hF t3 f6 hlF hks hin (by simpa using x1) (by simpa using x2) (by simpa using x3) (by simpa using x22) (by simpa using x23) (by simpa using x24)
end Go.Proofs.Ytonnmbkfjiddnaa
