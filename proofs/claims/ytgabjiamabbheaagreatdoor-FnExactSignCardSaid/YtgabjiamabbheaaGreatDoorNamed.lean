
/- The last field of a name, the program's side. -/
import Derived.Test.YtgabjiamabbheaaGreatDoorFields
import Derived.Test.YtgabjiamabbheaaGreatDoorLow
import Derived.Lib.QuietBelow
import Derived.Deep.QuietTactic
import Derived.BigQuiet
namespace Go.Proofs.YtgabjiamabbheaaGreatDoor
open Go.RowKit Go.Lib
def namedB (n m : ByteArray) : Bool := lower n.data.toList == lower m.data.toList
set_option maxRecDepth 10000 in
set_option maxHeartbeats 1000000 in
theorem implNamed (n v m : ByteArray) (w : World) (hn : n.size ≤ 100000) (hm : m.size ≤ 100000) :
    Calls Tryz.prog 92 #[.agg #[.string n, .string v], .string m] w fun e w' => e = .returned (.bool (namedB n m)) ∧ Below w.heap.size w w' := by
  have hA := fun w => implLowered n w hn
  have hB := fun w => implLowered m w hm
  obtain ⟨W, hW⟩ : ∃ W, W = w.alloc (.cells #[.string n, .string v] 51) := ⟨_, rfl⟩
  have hbW : Below w.heap.size w W := by rw [hW]; exact (Below.refl _ _).alloc (Nat.le_refl _) _
  have q0 : W.cell? ⟨w.heap.size, 0, none⟩ = some (.string n) := by rw [hW]; simp
  have k0 := cell_regrown q0
  have HE : Hid (namedB n m = ((⟨(lower n.data.toList).toArray⟩ : ByteArray).data.toList == (⟨(lower m.data.toList).toArray⟩ : ByteArray).data.toList)) := rfl
  generalize (⟨(lower n.data.toList).toArray⟩ : ByteArray) = ta at *
  generalize (⟨(lower m.data.toList).toArray⟩ : ByteArray) = tb at *
  have HA := (show Hid _ from hA)
  have HB := (show Hid _ from hB)
  clear hA hB k0
  go_enter Tryz.func92, Tryz.ntmps92
  go_wp2_with fail
  rw [← hW]
  refine (HA.out _).mono ?_
  rintro e w1 ⟨rfl, hb1⟩
  go_wp2_with fail
  refine (HB.out _).mono ?_
  rintro e w2 ⟨rfl, hb2⟩
  have hbq := hbW.trans ((hb1.trans (hb2.mono hb1.size)).mono hbW.size)
  clear hW
  go_wp2
  go_ret
  rw [HE.out, ← ByteArray.toList_eq, ← ByteArray.toList_eq]
  exact ⟨rfl, hbq⟩
/-- The last place below k that is meant. -/
def lastTo (p : Nat → Bool) : Nat → Option Nat
  | 0 => none
  | k + 1 => if p k then some k else lastTo p k
def atV : Option Nat → Int
  | none => -1
  | some k => k
def nmAt (F : List Fd) (m : ByteArray) (i : Nat) : Bool := if h : i < F.length then namedB F[i].1 m else false
set_option maxRecDepth 10000 in
set_option maxHeartbeats 2000000 in
theorem implLast (o : Option Addr) (F : List Fd) (cap : Nat) (m : ByteArray) (w : World) (hF : Fld w.heap.size w o F) (hlen : F.length ≤ 1048576) (hsz : ∀ f ∈ F, f.1.size ≤ 100000) (hm : m.size ≤ 100000) :
    Calls Tryz.prog 65 #[.slice o F.length cap, .string m] w fun e w' => e = .returned (.int .i64 (atV (lastTo (nmAt F m) F.length))) ∧ Below w.heap.size w w' := by
  have HF : Hid (Fld w.heap.size w o F) := hF
  have Hsz : Hid (∀ f ∈ F, f.1.size ≤ 100000) := hsz
  clear hF hsz
  obtain ⟨R, hR⟩ : ∃ R, R = atV (lastTo (nmAt F m) F.length) := ⟨_, rfl⟩
  rw [← hR]
  have HR : Hid (R = atV (lastTo (nmAt F m) F.length)) := hR
  clear hR
  go_enter Tryz.func65, Tryz.ntmps65
  go_wp2
  go_loopw [5] (fun i wr => ∃ k : Nat, k ≤ F.length ∧ i = .int .i64 ((k : Int) - 1) ∧ Hid (R = atV (lastTo (nmAt F m) k)) ∧ Below w.heap.size w wr) (fun i _ => (Lib.intOf i + 1).toNat)
  case atStart => exact ⟨F.length, Nat.le_refl _, by go_num, HR, Below.refl _ _⟩
  case round =>
    obtain ⟨k, hk, rfl, HA, hbr⟩ := hrel
    cases k with
    | zero =>
      have hv : R = -1 := HA.out
      subst hv
      go_wp2
      go_ret
      exact ⟨rfl, hbr⟩
    | succ k =>
      have hkl : k < F.length := by omega
      obtain ⟨a, rfl, ha, hc0, hc1⟩ := ((HF.out).below hbr) k hkl
      have hfs := Hsz.out F[k] (List.getElem_mem hkl)
      have hN := fun v w => implNamed F[k].1 v m w hfs hm
      have HX : Hid (lastTo (nmAt F m) (k + 1) = if namedB F[k].1 m then some k else lastTo (nmAt F m) k) := by
        show _ = _
        rw [lastTo, nmAt, dif_pos hkl]
      have HN := (show Hid _ from hN)
      clear hN
      generalize F[k].1 = f at *
      have e1 : ((k + 1 : Nat) : Int) - 1 = (k : Int) := by omega
      rw [e1]
      cases hb : namedB f m
      · have HA2 : Hid (R = atV (lastTo (nmAt F m) k)) := by
          show _ = _
          rw [HA.out, HX.out, hb]
          rfl
        rw [hb] at HN
        clear HX HA hb
        go_wp2_with fail
        refine (HN.out _ _).mono ?_
        rintro e w1 ⟨rfl, hb1⟩
        have hbq := hbr.trans (hb1.mono hbr.size)
        go_wp2
        go_roundw
        case rel => exact ⟨k, by omega, by go_num, HA2, hbq⟩
        case measure => simp [Lib.intOf]
      · have hv : R = (k : Int) := by
          rw [HA.out, HX.out, hb]
          rfl
        rw [hb] at HN
        clear HX HA hb HR
        subst hv
        go_wp2_with fail
        refine (HN.out _ _).mono ?_
        rintro e w1 ⟨rfl, hb1⟩
        have hbq := hbr.trans (hb1.mono hbr.size)
        go_wp2
        go_ret
        exact ⟨rfl, hbq⟩
end Go.Proofs.YtgabjiamabbheaaGreatDoor
