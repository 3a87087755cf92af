
/- The specification's tests of a mail's flags, and of a number among mails. -/
import Derived.Test.YtbepjjnjdhkcbaaDoorSpecFlag2
import Derived.Test.YtbepjjnjdhkcbaaDoorGenStore
namespace Go.Proofs.YtbepjjnjdhkcbaaDoor
open Go.RowKit Go.Lib Go.Maps
namespace St
def flags (F : List ByteArray) : Bool := decide (F.length ≤ 20) && F.all flag
def lessB (p t : ByteArray) : Bool := Op.bytesLess p.toList t.toList
def riseP : ByteArray → List ByteArray → Bool
  | _, [] => true
  | p, c :: r => lessB p c && riseP c r
def rise : List ByteArray → Bool
  | [] => true
  | c :: r => riseP c r
theorem rise_step (p : ByteArray) (l : List ByteArray) (k : Nat) (h : k < l.length) : riseP p (l.drop k) = (lessB p l[k] && riseP l[k] (l.drop (k + 1))) := by
  rw [List.drop_eq_getElem_cons h, riseP]
def hasUid (u : Int) (M : List GMail) : Bool := M.any fun m => m.uid == u
theorem any_drop {α : Type} (f : α → Bool) (l : List α) (k : Nat) (h : k < l.length) : (l.drop k).any f = (f l[k] || (l.drop (k + 1)).any f) := by
  rw [List.drop_eq_getElem_cons h, List.any_cons]
end St
theorem wrap_inS (n : Int) (h0 : -9223372036854775808 ≤ n) (h1 : n ≤ 9223372036854775807) : IntKind.i64.wrap n = n := by
  simp only [IntKind.wrap, IntKind.bits, IntKind.signed, Bool.true_and]
  split <;> rename_i h <;> simp at h <;> omega
set_option maxHeartbeats 1000000 in
theorem specFlags (o : Option Addr) (F : List ByteArray) (cap lo hi : Nat) (w : World) (hF : TxL lo hi w o F) (hl : F.length ≤ 1048576) (hfit : ∀ t ∈ F, t.size ≤ 1048576) :
    Calls Tryd.prog 20 #[.slice o F.length cap] w fun e w' => e = .returned (.bool (St.flags F)) ∧ w = w' := by
  unfold St.flags
  by_cases h1 : F.length ≤ 20
  · have x1 : decide ((20 : Int) < (F.length : Int)) = false := decide_eq_false (by omega)
    rw [decide_eq_true h1, Bool.true_and]
    obtain ⟨A, hA⟩ : ∃ A, F.all St.flag = A := ⟨_, rfl⟩
    rw [hA]
    replace hA := mkHid hA
    have HF := mkHid hF
    have Hfit := mkHid hfit
    clear hF hfit
    go_enter Tryd.func20, Tryd.ntmps20
    go_wp2
    go_loopw [3] (fun i wr => ∃ k : Nat, k ≤ F.length ∧ i = .int .i64 k ∧ Hid ((F.drop k).all St.flag = A) ∧ wr = w) (fun i _ => F.length - (Lib.intOf i).toNat)
    case atStart => exact ⟨0, Nat.zero_le _, rfl, hA, rfl⟩
    case round =>
      clear hA
      obtain ⟨k, hk, rfl, hal, hWr⟩ := hrel
      have hWr' : wr = w := hWr
      clear hWr
      subst hWr'
      by_cases hlt : k < F.length
      · obtain ⟨a, rfl, ha1, ha2, c0⟩ := HF.out k hlt
        have hst := St.all_drop St.flag F k hlt
        rw [hal.out] at hst
        have cF := mkHid (specFlagC F[k] wr (Hfit.out _ (List.getElem_mem hlt)))
        unfold plFlagFault at cF
        clear hal
        generalize F[k] = t at *
        cases hb : St.flag t
        · rw [hb] at cF hst
          have hf : Hid (A = false) := by rw [hst]; rfl
          clear hst hb
          unfold St.code at cF
          go_wp2_with fail
          refine cF.out.mono ?_
          rintro e w2 ⟨rfl, rfl⟩
          go_wp2
          go_ret
          rw [hf.out]
          exact ⟨rfl, rfl⟩
        · rw [hb] at cF hst
          have hf : Hid ((F.drop (k + 1)).all St.flag = A) := by rw [hst]; rfl
          clear hst hb
          unfold St.code at cF
          go_wp2_with fail
          refine cF.out.mono ?_
          rintro e w2 ⟨rfl, rfl⟩
          go_wp2
          go_roundw
          case rel => exact ⟨k + 1, by omega, by go_num, hf, trivial⟩
          case measure => simp [Lib.intOf]; omega
      · have hf : Hid (A = true) := by
          have := hal.out
          rw [List.drop_eq_nil_of_le (by omega)] at this
          exact this.symm
        go_wp2
        go_ret
        rw [hf.out]
        exact ⟨rfl, rfl⟩
  · have x1 : decide ((20 : Int) < (F.length : Int)) = true := decide_eq_true (by omega)
    rw [decide_eq_false h1]
    go_enter Tryd.func20, Tryd.ntmps20
    go_wp2
    go_ret
    exact ⟨rfl, rfl⟩
set_option maxHeartbeats 1000000 in
theorem specRise (o : Option Addr) (F : List ByteArray) (cap lo : Nat) (w : World) (hF : TxL lo w.heap.size w o F) (hl : F.length ≤ 1048576) :
    Calls Tryd.prog 21 #[.slice o F.length cap] w fun e w' => e = .returned (.bool (St.rise F)) ∧ Below w.heap.size w w' := by
  obtain ⟨A, hA⟩ : ∃ A, St.rise F = A := ⟨_, rfl⟩
  rw [hA]
  have hA0 : Hid (F.length = 0 → A = true) := show _ → _ from fun h => by rw [← hA, List.length_eq_zero_iff.1 h]; rfl
  have hA1 : Hid (∀ h : 0 < F.length, St.riseP F[0] (F.drop 1) = A) := show ∀ h, _ from fun h => by
    rw [← hA]
    cases F with
    | nil => cases h
    | cons c r => rfl
  have HF := mkHid hF
  clear hF hA
  go_enter Tryd.func21, Tryd.ntmps21
  go_wp2
  go_loopw [3] (fun iv wr => ∃ k i : Nat, k ≤ F.length ∧ iv = .int .i64 (i : Int) ∧ Hid (i = k + 1) ∧ Hid (∀ h : k < F.length, St.riseP F[k] (F.drop (k + 1)) = A) ∧ Hid (k = F.length → A = true) ∧ Below w.heap.size w wr) (fun i _ => F.length + 1 - (Lib.intOf i).toNat)
  case atStart => exact ⟨0, 1, Nat.zero_le _, rfl, rfl, hA1, show _ → _ from fun h => hA0.out h.symm, Below.refl _ _⟩
  case round =>
    clear hA0 hA1
    obtain ⟨k, i, hk, rfl, hik, hal, hend, hb⟩ := hrel
    have hi2 : i ≤ F.length + 1 := by have := hik.out; omega
    by_cases hlt' : i < F.length
    · have hlt : k + 1 < F.length := by have := hik.out; omega
      obtain ⟨a, rfl, ha1, ha2, c0⟩ := (HF.out.below hb (Nat.le_refl _)) k (by omega)
      obtain ⟨a', ea, -, -, c1⟩ := (HF.out.below hb (Nat.le_refl _)) (k + 1) hlt
      cases ea
      have hst := hal.out (by omega)
      rw [St.rise_step _ F (k + 1) hlt] at hst
      have hji : (i : Int) - 1 = (k : Int) := by have := hik.out; omega
      have hwj : IntKind.i64.wrap (k : Int) = (k : Int) := wrap_inS _ (by omega) (by omega)
      have hjI : (0 : Int) ≤ (k : Int) ∧ (k : Int) < (F.length : Int) := ⟨by omega, by omega⟩
      obtain ⟨c, hc⟩ : ∃ c, c = F[k + 1]'hlt := ⟨_, rfl⟩
      obtain ⟨p, hp⟩ : ∃ p, p = F[k]'(by omega) := ⟨_, rfl⟩
      rw [← hc] at hst c1
      rw [← hp] at hst c0
      rw [← hik.out] at c1
      obtain ⟨R, hR⟩ : ∃ R, St.riseP c (F.drop (k + 1 + 1)) = R := ⟨_, rfl⟩
      rw [hR] at hst
      have HR : Hid (∀ h : k + 1 < F.length, St.riseP (F[k + 1]'h) (F.drop (k + 1 + 1)) = R) := show ∀ h, _ from fun h => by rw [← hc]; exact hR
      replace hlt := mkHid hlt
      clear hR hal hend hc hp
      unfold St.lessB at hst
      cases hx : Op.bytesLess p.toList c.toList
      · rw [hx] at hst
        have hf : Hid (A = false) := hst.symm
        clear hst
        go_wp2
        go_quiet (fail)
        go_wp2
        go_ret
        rw [hf.out]
        exact ⟨rfl, below_drewN hb _⟩
      · rw [hx] at hst
        have hf : Hid (R = A) := hst
        clear hst
        go_wp2
        go_quiet (fail)
        have hbq := mkHid (below_drewN hb nq)
        go_wp2
        go_roundw
        case rel => exact ⟨k + 1, i + 1, by have := hlt.out; omega, by go_num, by show _ = _; have := hik.out; omega, fun h => (HR.out h).trans hf.out, show _ → _ from fun h => absurd h (by have := hlt.out; omega), hbq.out⟩
        case measure => simp [Lib.intOf]; omega
    · have hf : Hid (A = true) := by
        by_cases hk1 : k = F.length
        · exact hend.out hk1
        · have hik' := hik.out
          have := hal.out (by omega)
          rw [List.drop_eq_nil_of_le (by omega)] at this
          exact this.symm
      go_wp2
      go_ret
      rw [hf.out]
      exact ⟨rfl, hb⟩
set_option maxHeartbeats 1000000 in
theorem specMail (nm : ByteArray) (va nu tm : Int) (o : Option Addr) (M : List GMail) (cap : Nat) (vg : Value) (u : Int) (lo : Nat) (w : World) (hM : GMailsL lo w.heap.size w o M) (hl : M.length ≤ 1048576) (hg : ∃ a n c, vg = .slice a n c) :
    Calls Tryd.prog 22 #[.agg #[.string nm, .int .i64 va, .int .i64 nu, .int .i64 tm, .slice o M.length cap, vg], .int .i64 u] w fun e w' => ∃ r : Int, e = .returned (.int .i64 r) ∧ Hid (decide (0 ≤ r) = St.hasUid u M) ∧ Below w.heap.size w w' := by
  obtain ⟨ga, gn, gc, rfl⟩ := hg
  obtain ⟨A, hA⟩ : ∃ A, St.hasUid u M = A := ⟨_, rfl⟩
  rw [hA]
  replace hA := mkHid hA
  obtain ⟨W, hW⟩ : ∃ W, W = w.alloc (.cells #[.string nm, .int .i64 va, .int .i64 nu, .int .i64 tm, .slice o M.length cap, .slice ga gn gc] 38) := ⟨_, rfl⟩
  have hbA : Below w.heap.size w W := by rw [hW]; exact (Below.refl _ _).alloc (Nat.le_refl _) _
  have q4 : W.cell? ⟨w.heap.size, 4, none⟩ = some (.slice o M.length cap) := by rw [hW]; simp
  have HM := mkHid (hM.below hbA (Nat.le_refl _))
  have HW := mkHid hW
  clear hW hM
  go_enter Tryd.func22, Tryd.ntmps22
  go_wp2
  rw [← HW.out]
  clear HW
  go_loopw [5] (fun iv wr => ∃ (i : Nat), i ≤ M.length ∧ iv = .int .i64 i ∧ Hid ((M.drop i).any (fun m => m.uid == u) = A) ∧ wr = W) (fun iv _ => M.length - (Lib.intOf iv).toNat)
  case atStart => exact ⟨0, Nat.zero_le _, rfl, hA, rfl⟩
  case round =>
    clear hA
    obtain ⟨i, hi, rfl, hz, hWr⟩ := hrel
    have hWr' : wr = W := hWr
    clear hWr
    subst hWr'
    by_cases hlt : i < M.length
    · obtain ⟨a, v3, rfl, ha1, ha2, hB, -⟩ := HM.out i hlt
      have c0 := hB.c0
      have hz1 := hz.out
      rw [St.any_drop _ M i hlt] at hz1
      clear hB hz
      generalize M[i] = m at *
      cases hb : (m.uid == u)
      · rw [hb] at hz1
        replace hz1 := mkHid hz1
        go_wp2
        go_roundw
        case rel => exact ⟨i + 1, by omega, by go_num, hz1, trivial⟩
        case measure => simp [Lib.intOf]; omega
      · rw [hb] at hz1
        have hf : Hid (A = true) := hz1.symm
        clear hz1
        go_wp2
        go_ret
        exact ⟨_, rfl, by rw [hf.out]; exact decide_eq_true (by omega), hbA⟩
    · have hf : Hid (A = false) := by
        have := hz.out
        rw [List.drop_eq_nil_of_le (by omega)] at this
        exact this.symm
      go_wp2
      go_ret
      exact ⟨_, rfl, by rw [hf.out]; rfl, hbA⟩
end Go.Proofs.YtbepjjnjdhkcbaaDoor
