
/- Heads read, of any text: both sides. -/
import Derived.Test.YtgabjiamabbheaaGreatDoorReadImpl
import Derived.Test.YtgabjiamabbheaaGreatDoorSgPlain2
namespace Go.Proofs.YtgabjiamabbheaaGreatDoor
open Go.RowKit Go.Lib
def RH (s : ByteArray) : HR := if s.size ≤ 100000 then Pl.readHead s.data.toList else ⟨2, 0, 0, []⟩
set_option maxRecDepth 20000 in
theorem RH_len (s : ByteArray) : (RH s).fields.length ≤ 200 := by
  unfold RH
  split
  · exact Pl.read_count _
  · exact Nat.zero_le _
set_option maxRecDepth 20000 in
theorem RH_body (s : ByteArray) : (RH s).body ≤ s.size := by
  unfold RH
  have e : s.data.toList.length = s.size := by simp
  split
  · rw [← e]; exact Pl.read_body _
  · exact Nat.zero_le _
set_option maxRecDepth 20000 in
theorem RH_good (s : ByteArray) (h : (RH s).code = 0) : s.size ≤ 100000 ∧ flsum (RH s).fields ≤ 100002 := by
  unfold RH at h ⊢
  have e : s.data.toList.length = s.size := by simp
  split
  · rename_i hs
    refine ⟨hs, ?_⟩
    have := Pl.read_sum s.data.toList
    omega
  · rename_i hs
    rw [if_neg hs] at h
    cases h
abbrev hdV (H : HR) (o : Option Addr) (c : Nat) : Value := .agg #[.int .i64 H.code, .int .i64 H.at_, .slice o H.fields.length c, .int .i64 H.body]
set_option maxRecDepth 20000 in
theorem specRH (s : ByteArray) (w : World) (hs : s.size ≤ 1048576) :
    Calls Tryz.prog 11 #[.string s] w fun e w' => ∃ o c, e = .returned (hdV (RH s) o c) ∧ OwnF w.heap.size (.slice o (RH s).fields.length c) (RH s).fields w' ∧ Below w.heap.size w w' := by
  unfold RH
  split
  · rename_i h
    refine (specReadHead s w h).mono ?_
    rintro e w' ⟨v, rfl, ho, hb⟩
    rcases ho.form with ⟨rfl, h0⟩ | ⟨g, cap, rfl⟩
    · rw [h0] at ho ⊢
      exact ⟨none, 0, by rw [hdV, h0]; rfl, ho, hb⟩
    · exact ⟨_, _, rfl, ho, hb⟩
  · have hl : decide ((100000 : Int) < (s.size : Int)) = true := by simp; omega
    go_enter Tryz.func11, Tryz.ntmps11
    go_wp2
    refine bodyPost_ret (v := .agg #[.int .i64 2, .int .i64 0, .slice none 0 0, .int .i64 0]) (by simp [results, Tryz.results11, go_sem]) rfl ⟨none, 0, rfl, OwnF.nil _ _, ?_⟩
    exact (Below.refl _ _).alloc (Nat.le_refl _) _
set_option maxRecDepth 20000 in
theorem implRH (s : ByteArray) (w : World) (hs : s.size ≤ 1048576) :
    Calls Tryz.prog 21 #[.string s] w fun e w' => ∃ o c, e = .returned (hdV (RH s) o c) ∧ OwnF w.heap.size (.slice o (RH s).fields.length c) (RH s).fields w' ∧ Below w.heap.size w w' := by
  unfold RH
  split
  · rename_i h
    refine (implReadHead s w h).mono ?_
    rintro e w' ⟨v, rfl, ho, hb⟩
    rcases ho.form with ⟨rfl, h0⟩ | ⟨g, cap, rfl⟩
    · rw [h0] at ho ⊢
      exact ⟨none, 0, by rw [hdV, h0]; rfl, ho, hb⟩
    · exact ⟨_, _, rfl, ho, hb⟩
  · have hT := fun w => implTooLong s w (by omega)
    simp only [decide_eq_true (show (100000 : Int) < (s.size : Int) by omega)] at hT
    go_enter_defers Tryz.func21, Tryz.ntmps21
    go_wp2_with fail
    refine (hT _).mono ?_
    rintro e w1 ⟨rfl, rfl⟩
    go_wp2
    simp [bodyPostD, Leaves, results, Tryz.results21, go_sem]
    exact ⟨none, 0, ⟨rfl, rfl⟩, OwnF.nil _ _, (Below.refl _ _).alloc (Nat.le_refl _) _⟩
end Go.Proofs.YtgabjiamabbheaaGreatDoor
