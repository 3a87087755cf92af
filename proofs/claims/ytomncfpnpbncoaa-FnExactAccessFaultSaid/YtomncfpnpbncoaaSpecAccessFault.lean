
/- The specification's AccessFault. -/
import Derived.Test.YtomncfpnpbncoaaPhraseSpec
import Derived.Test.YtomncfpnpbncoaaDomainCode
import Derived.Test.YtomncfpnpbncoaaGenAccessUser
namespace Go.Proofs.Ytomncfpnpbncoaa
open Go.RowKit Go.Lib Go.Maps
namespace Au
/-- The bytes that a name may not have, of those that can be printed. -/
def bars : ByteArray := ⟨#[34, 40, 41, 123, 92]⟩
def byte (c : UInt8) : Bool := decide (33 ≤ c.toNat) && (decide (c.toNat ≤ 126) && decide (indexByte bars.data.toList c < 0))
def txt (t : ByteArray) : Bool := decide (1 ≤ t.size) && (decide (t.size ≤ 40) && t.data.toList.all byte)
def ok (u : GAccessUser) : Bool := txt u.name && txt u.password
theorem all_drop {α : Type} (K : α → Bool) (F : List α) (k : Nat) (h : k < F.length) : (F.drop k).all K = (K F[k] && (F.drop (k + 1)).all K) := by
  rw [List.drop_eq_getElem_cons h, List.all_cons]
theorem all_end {α : Type} (K : α → Bool) (F : List α) (k : Nat) (h : F.length ≤ k) : (F.drop k).all K = true := by
  rw [List.drop_eq_nil_of_le h, List.all_nil]
end Au
abbrev plAccessFault (F : List GAccessUser) : Int := dcode (decide (F.length ≤ 20) && F.all Au.ok)
theorem auBars (c : UInt8) (w : World) : Calls Try.prog 16 #[.string ⟨#[34, 40, 41, 123, 92]⟩, .string ⟨#[c]⟩, .int .i64 0] w fun e w' => e = .returned (.int .i64 (indexByte Au.bars.data.toList c)) ∧ w = w' := by
  refine (specIndex1 _ c w (by show 5 ≤ 1100000; omega)).mono ?_
  rintro e w' ⟨rfl, rfl⟩
  rw [ix_zero]
  exact ⟨rfl, rfl⟩
set_option maxHeartbeats 2000000 in
theorem specPlainT (t : ByteArray) (w : World) (hs : t.size ≤ 1048576) :
    Calls Try.prog 10 #[.string t] w fun e w' => e = .returned (.bool (Au.txt t)) ∧ w = w' := by
  have hll : t.data.toList.length = t.size := by simp
  unfold Au.txt
  by_cases h1 : 1 ≤ t.size
  rotate_left
  · have x1 : decide ((t.size : Int) < 1) = true := decide_eq_true (by omega)
    rw [decide_eq_false h1, Bool.false_and]
    go_enter Try.func10, Try.ntmps10
    go_wp2
    go_ret
    exact ⟨rfl, rfl⟩
  have x1 : decide ((t.size : Int) < 1) = false := decide_eq_false (by omega)
  rw [decide_eq_true h1, Bool.true_and]
  by_cases h2 : t.size ≤ 40
  rotate_left
  · have x2 : decide ((40 : Int) < (t.size : Int)) = true := decide_eq_true (by omega)
    rw [decide_eq_false h2, Bool.false_and]
    go_enter Try.func10, Try.ntmps10
    go_wp2
    go_ret
    exact ⟨rfl, rfl⟩
  have x2 : decide ((40 : Int) < (t.size : Int)) = false := decide_eq_false (by omega)
  rw [decide_eq_true h2, Bool.true_and]
  obtain ⟨R, hR⟩ : ∃ R, t.data.toList.all Au.byte = R := ⟨_, rfl⟩
  have HR : Hid ((t.data.toList.drop 0).all Au.byte = R) := hR
  rw [hR]
  have Hll := mkHid hll
  clear hR hll
  go_enter Try.func10, Try.ntmps10
  go_wp2
  go_loopw [3] (fun iv wr => ∃ i : Nat, i ≤ t.size ∧ iv = .int .i64 i ∧ Hid ((t.data.toList.drop i).all Au.byte = R) ∧ wr = w) (fun iv _ => t.size - (Lib.intOf iv).toNat)
  case atStart => exact ⟨0, Nat.zero_le _, rfl, HR, rfl⟩
  case round =>
    clear HR
    obtain ⟨i, hi, rfl, hp, rfl⟩ := hrel
    by_cases hlt : i < t.size
    · have hli : i < t.data.toList.length := by rw [Hll.out]; exact hlt
      have hst := hp.out
      rw [Au.all_drop Au.byte t.data.toList i hli, show t.data.toList[i]'hli = t[i] from rfl] at hst
      have Hst := mkHid hst
      clear hst hp
      have hex : t.extract i (i + 1) = ⟨#[t[i]]⟩ := by
        apply ByteArray.ext
        apply Array.toList_inj.1
        rw [Pl.ext_data, show i + 1 - i = 1 by omega, List.drop_eq_getElem_cons hli]
        rfl
      have cX := mkHid (fun w' => auBars t[i] w')
      have h8 : t[i].toNat < 256 := UInt8.toNat_lt _
      unfold Au.byte at Hst
      by_cases y0 : 33 ≤ t[i].toNat
      · have u0 : decide ((t[i].toNat : Int) < 33) = false := decide_eq_false (by omega)
        rw [decide_eq_true y0, Bool.true_and] at Hst
        by_cases y1 : t[i].toNat ≤ 126
        · have u1 : decide ((126 : Int) < (t[i].toNat : Int)) = false := decide_eq_false (by omega)
          rw [decide_eq_true y1, Bool.true_and] at Hst
          obtain ⟨z, hz⟩ : ∃ z, indexByte Au.bars.data.toList t[i] = z := ⟨_, rfl⟩
          rw [hz] at cX Hst
          clear hz
          by_cases y2 : z < 0
          · have u2 : decide (0 ≤ z) = false := decide_eq_false (by omega)
            have hn : Hid ((t.data.toList.drop (i + 1)).all Au.byte = R) := show _ = _ from by rw [← Hst.out, decide_eq_true y2, Bool.true_and]; rfl
            clear Hst
            go_wp2_with (go_at_call 16; fail)
            refine (cX.out _).mono ?_
            rintro e w2 ⟨rfl, rfl⟩
            go_wp2
            go_roundw
            case rel => exact ⟨i + 1, by omega, by go_num, hn, trivial⟩
            case measure => simp [Lib.intOf]; omega
          · have u2 : decide (0 ≤ z) = true := decide_eq_true (by omega)
            have hr : Hid (R = false) := show _ = _ from by rw [← Hst.out, decide_eq_false y2, Bool.false_and]
            clear Hst
            go_wp2_with (go_at_call 16; fail)
            refine (cX.out _).mono ?_
            rintro e w2 ⟨rfl, rfl⟩
            go_wp2
            go_ret
            rw [hr.out]
            exact ⟨rfl, rfl⟩
        · have u1 : decide ((126 : Int) < (t[i].toNat : Int)) = true := decide_eq_true (by omega)
          have hr : Hid (R = false) := show _ = _ from by rw [← Hst.out, decide_eq_false y1, Bool.false_and, Bool.false_and]
          clear Hst cX
          go_wp2
          go_ret
          rw [hr.out]
          exact ⟨rfl, rfl⟩
      · have u0 : decide ((t[i].toNat : Int) < 33) = true := decide_eq_true (by omega)
        have hr : Hid (R = false) := show _ = _ from by rw [← Hst.out, decide_eq_false y0, Bool.false_and, Bool.false_and]
        clear Hst cX
        go_wp2
        go_ret
        rw [hr.out]
        exact ⟨rfl, rfl⟩
    · have hr : Hid (R = true) := show _ = _ from by rw [← hp.out, Au.all_end _ _ i (by rw [Hll.out]; omega)]
      clear hp
      go_wp2
      go_ret
      rw [hr.out]
      exact ⟨rfl, rfl⟩
set_option maxHeartbeats 2000000 in
theorem specAccessFault (o : Option Addr) (F : List GAccessUser) (cap lo : Nat) (w : World) (hF : GAccessUsersL lo w.heap.size w o F) (hl : F.length ≤ 1048576) (hf : ∀ f ∈ F, f.fits 1048576) :
    Calls Try.prog 5 #[.slice o F.length cap] w fun e w' => e = .returned (.int .i64 (plAccessFault F)) ∧ Below w.heap.size w w' := by
  unfold plAccessFault
  by_cases h1 : F.length ≤ 20
  rotate_left
  · have x1 : decide ((20 : Int) < (F.length : Int)) = true := decide_eq_true (by omega)
    rw [decide_eq_false h1, Bool.false_and]
    go_enter Try.func5, Try.ntmps5
    go_wp2
    go_ret
    exact ⟨rfl, Below.refl _ _⟩
  have x1 : decide ((20 : Int) < (F.length : Int)) = false := decide_eq_false (by omega)
  rw [decide_eq_true h1, Bool.true_and]
  obtain ⟨R, hR⟩ : ∃ R, dcode (F.all Au.ok) = R := ⟨_, rfl⟩
  have HR : Hid (dcode ((F.drop 0).all Au.ok) = R) := hR
  rw [hR]
  have HF := mkHid hF
  have Hf := mkHid hf
  clear hR hF hf
  go_enter Try.func5, Try.ntmps5
  go_wp2
  go_loopw [3] (fun iv wr => ∃ i : Nat, i ≤ F.length ∧ iv = .int .i64 i ∧ Hid (dcode ((F.drop i).all Au.ok) = R) ∧ wr = w) (fun iv _ => F.length - (Lib.intOf iv).toNat)
  case atStart => exact ⟨0, Nat.zero_le _, rfl, HR, rfl⟩
  case round =>
    clear HR
    obtain ⟨i, hi, rfl, hp, rfl⟩ := hrel
    by_cases hlt : i < F.length
    · obtain ⟨a, rfl, ha1, ha2, hAt⟩ := HF.out i hlt
      have d0 := hAt.c0
      have d1 := hAt.c1
      obtain ⟨f0, f1⟩ := Hf.out F[i] (List.getElem_mem hlt)
      have hst := hp.out
      rw [Au.all_drop Au.ok F i hlt] at hst
      have Hst := mkHid hst
      clear hst hp hAt
      generalize F[i] = u at *
      unfold Au.ok at Hst
      have cA := mkHid (fun w' => specPlainT u.name w' f0)
      have cB := mkHid (fun w' => specPlainT u.password w' f1)
      generalize Au.txt u.name = b1 at *
      generalize Au.txt u.password = b2 at *
      cases b1
      · have hr : Hid (R = 1) := show _ = _ from by rw [← Hst.out]; simp [dcode]
        clear Hst
        go_wp2_with (go_at_call 10; fail)
        refine (cA.out _).mono ?_
        rintro e w2 ⟨rfl, rfl⟩
        go_wp2
        go_ret
        rw [hr.out]
        exact ⟨rfl, Below.refl _ _⟩
      · cases b2
        · have hr : Hid (R = 1) := show _ = _ from by rw [← Hst.out]; simp [dcode]
          clear Hst
          go_wp2_with (go_at_call 10; fail)
          refine (cA.out _).mono ?_
          rintro e w2 ⟨rfl, rfl⟩
          go_wp2_with (go_at_call 10; fail)
          refine (cB.out _).mono ?_
          rintro e w2 ⟨rfl, rfl⟩
          go_wp2
          go_ret
          rw [hr.out]
          exact ⟨rfl, Below.refl _ _⟩
        · have hn : Hid (dcode ((F.drop (i + 1)).all Au.ok) = R) := show _ = _ from by rw [← Hst.out, Bool.and_self, Bool.true_and]; rfl
          clear Hst
          go_wp2_with (go_at_call 10; fail)
          refine (cA.out _).mono ?_
          rintro e w2 ⟨rfl, rfl⟩
          go_wp2_with (go_at_call 10; fail)
          refine (cB.out _).mono ?_
          rintro e w2 ⟨rfl, rfl⟩
          go_wp2
          go_roundw
          case rel => exact ⟨i + 1, by omega, by go_num, hn, trivial⟩
          case measure => simp [Lib.intOf]; omega
    · have hr : Hid (R = 0) := show _ = _ from by rw [← hp.out, Au.all_end _ _ i (by omega)]; rfl
      clear hp
      go_wp2
      go_ret
      rw [hr.out]
      exact ⟨rfl, Below.refl _ _⟩
end Go.Proofs.Ytomncfpnpbncoaa
