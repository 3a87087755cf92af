
/- The specification's l14Write: its small callees. -/
import Derived.Test.YtfaeckaeaeadeaaGreatDoorQwPlain
import Derived.Test.YtfaeckaeaeadeaaGreatDoorDateSpec
import Derived.Test.YtfaeckaeaeadeaaGreatDoorPhraseQuote
import Derived.Test.YtfaeckaeaeadeaaGreatDoorDec
namespace Go.Proofs.YtfaeckaeaeadeaaGreatDoor
open Go.RowKit Go.Lib Go.Maps
/-- A call's answer: a text of these bytes. -/
def RetT (X : List UInt8) (w : World) (e : Ending) (w' : World) : Prop := ∃ t : ByteArray, e = .returned (.string t) ∧ t.data.toList = X ∧ Below w.heap.size w w'
def Qw.fk (j : Nat) : ByteArray := match j with | 0 => ⟨#[83, 69, 69, 78]⟩ | 1 => ⟨#[70, 76, 65, 71, 71, 69, 68]⟩ | 2 => ⟨#[68, 69, 76, 69, 84, 69, 68]⟩ | _ => ⟨#[65, 78, 83, 87, 69, 82, 69, 68]⟩
def Qw.fn (j : Nat) : ByteArray := match j with | 0 => ⟨#[92, 83, 101, 101, 110]⟩ | 1 => ⟨#[92, 70, 108, 97, 103, 103, 101, 100]⟩ | 2 => ⟨#[92, 68, 101, 108, 101, 116, 101, 100]⟩ | _ => ⟨#[92, 65, 110, 115, 119, 101, 114, 101, 100]⟩
def Qw.hk (j : Nat) : ByteArray := match j with | 0 => ⟨#[70, 82, 79, 77]⟩ | 1 => ⟨#[84, 79]⟩ | 2 => ⟨#[67, 67]⟩ | _ => ⟨#[83, 85, 66, 74, 69, 67, 84]⟩
def Qw.hn (j : Nat) : ByteArray := match j with | 0 => ⟨#[70, 114, 111, 109]⟩ | 1 => ⟨#[84, 111]⟩ | 2 => ⟨#[67, 99]⟩ | _ => ⟨#[83, 117, 98, 106, 101, 99, 116]⟩
theorem specFlagOf (j : Nat) (hj : j < 4) (w : World) : Calls Tryz.prog 21 #[.string (Qw.fk j)] w fun e w' => e = .returned (.string (Qw.fn j)) ∧ w' = w := by
  match j, hj with
  | 0, _ | 1, _ | 2, _ | 3, _ =>
    unfold Qw.fk Qw.fn
    go_enter Tryz.func21, Tryz.ntmps21
    go_wp2
    go_ret
    exact ⟨rfl, rfl⟩
theorem specFieldOf (j : Nat) (hj : j < 4) (w : World) : Calls Tryz.prog 22 #[.string (Qw.hk j)] w fun e w' => e = .returned (.string (Qw.hn j)) ∧ w' = w := by
  match j, hj with
  | 0, _ | 1, _ | 2, _ | 3, _ =>
    unfold Qw.hk Qw.hn
    go_enter Tryz.func22, Tryz.ntmps22
    go_wp2
    go_ret
    exact ⟨rfl, rfl⟩
def Qw.dy (d : Int) : List UInt8 := (dayT d ⟨#[45]⟩).data.toList
set_option maxHeartbeats 4000000 in
set_option maxRecDepth 20000 in
theorem specDate14 (d : Int) (w : World) (hd0 : 0 ≤ d) (hd1 : d ≤ 2932896) :
    Calls Tryz.prog 24 #[.int .i64 d] w fun e w' => e = .returned (.string (dayT d ⟨#[45]⟩)) ∧ Below w.heap.size w w' := by
  have hD := specParts (d * 86400) d w (by omega) (by omega) (by omega) hd0 hd1
  unfold dayT
  obtain ⟨y0, y1, m0, m1, r0, r1⟩ := Pl.bounds d hd0 hd1
  generalize Pl.yr d = y at *
  generalize (Pl.mo d).1 = m at *
  generalize (Pl.mo d).2 = r at *
  have hY := fun w => specYear y w (by omega) (by omega)
  have h2 := fun w => specTwo (r + 1) w (by omega) (by omega)
  have hm := fun w => specMonths w
  obtain ⟨j, rfl⟩ : ∃ j : Nat, m = (j : Int) + 1 := ⟨(m - 1).toNat, by omega⟩
  rw [show ((j : Int) + 1 - 1) = (j : Int) by omega, Int.toNat_natCast]
  have hj : j < 12 := by omega
  have zm := Pl.month_size j hj
  have z2 := Pl.two_size (r + 1)
  have z4 : (Pl.two (y / 100) ++ Pl.two (y % 100)).size = 4 := by rw [ByteArray.size_append]; rfl
  have zs : Pl.months.size = 36 := rfl
  obtain ⟨a, ha⟩ : ∃ a : Nat, 3 * j = a := ⟨_, rfl⟩
  obtain ⟨c, hc⟩ : ∃ c : Nat, 3 * j + 3 = c := ⟨_, rfl⟩
  have hmo : Pl.months.extract a c = Pl.monthN j := by rw [← ha, ← hc]; rfl
  have w0 : IntKind.i64.wrap (d * 86400) = d * 86400 := wrap_in _ (by omega) (by omega)
  have w1 : IntKind.i64.wrap (3 * ((j : Int) + 1)) = (c : Int) := by rw [wrap_in _ (by omega) (by omega)]; omega
  have w2 : IntKind.i64.wrap ((c : Int) - 3) = (a : Int) := by rw [wrap_in _ (by omega) (by omega)]; omega
  have f1 : (c : Int) ≤ 36 := by omega
  have f2 : (a : Int) ≤ (c : Int) := by omega
  clear ha hc
  generalize Pl.monthN j = mn at *
  generalize Pl.two (r + 1) = td at *
  generalize Pl.two (y / 100) ++ Pl.two (y % 100) = ty at *
  generalize Pl.months = ms at *
  have q0 : 0 ≤ r + 1 := by omega
  have q1 : r + 1 ≤ 31 := by omega
  generalize r + 1 = dd at *
  have HY : Hid (∀ d os, Calls Tryz.prog 45 #[.int .i64 y] (Go.Sort.grow (redrawn w d) os) fun e w'' => e = .returned (.string ty) ∧ ∃ p : Regrown, w'' = Go.Sort.grow (redrawn w p.d) p.os) := fun d os => Calls.regrown_of (hY _)
  have H2 : Hid (∀ d os, Calls Tryz.prog 43 #[.int .i64 dd] (Go.Sort.grow (redrawn w d) os) fun e w'' => e = .returned (.string td) ∧ ∃ p : Regrown, w'' = Go.Sort.grow (redrawn w p.d) p.os) := fun d os => Calls.regrown_of (h2 _)
  have HM : Hid (∀ d os, Calls Tryz.prog 44 #[] (Go.Sort.grow (redrawn w d) os) fun e w'' => e = .returned (.string ms) ∧ ∃ p : Regrown, w'' = Go.Sort.grow (redrawn w p.d) p.os) := fun d os => Calls.regrown_of ((hm _).mono fun e w' ⟨he, hw⟩ => ⟨he, by rw [hw]; exact Below.refl _ _⟩)
  clear hY h2 hm m0 m1
  go_enter Tryz.func24, Tryz.ntmps24
  go_wp2_with fail
  refine hD.mono ?_
  rintro e w2 ⟨rfl, rfl⟩
  clear hD
  go_wp2
  refine wp_region_quiet_below (by kernel_rfl) (by kernel_rfl) ?_
  have n0 : ¬ 9223372036854775807 < td.size + 1 := by omega
  have n1 : ¬ 9223372036854775807 < td.size + 1 + mn.size := by omega
  have n2 : ¬ 9223372036854775807 < td.size + 1 + mn.size + 1 := by omega
  have n3 : ¬ 9223372036854775807 < td.size + 1 + mn.size + 1 + ty.size := by omega
  repeat (go_big_quiet_step (first | exact H2.out _ _ | exact HM.out _ _ | exact HY.out _ _))
  refine wpQuiet_nil ?_
  intro _ hw'
  obtain ⟨⟨dq, osq⟩, hw''⟩ := hw'
  subst hw''
  go_wp2
  go_ret
  exact ⟨rfl, below_regrown _ dq osq⟩
end Go.Proofs.YtfaeckaeaeadeaaGreatDoor
