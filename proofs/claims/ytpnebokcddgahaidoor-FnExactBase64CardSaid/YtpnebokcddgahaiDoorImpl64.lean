/- The walk of Base64. -/
import Derived.Test.YtpnebokcddgahaiDoorAppend
import Derived.Test.YtpnebokcddgahaiDoorSpec64
namespace Go.Proofs.YtpnebokcddgahaiDoor
open Go.RowKit Go.Lib
set_option maxRecDepth 100000 in
set_option maxHeartbeats 1000000 in
theorem implBase64 (s : ByteArray) (w : World) (hs : s.size ≤ 100000) (hT : Tab w) (hz : 0 < w.heap.size) :
    Calls Tryd.prog 5 #[.string s] w fun e w' => e = .returned (.string ⟨(Pl.enc s.data.toList).toArray⟩) ∧ Below w.heap.size w w' := by
  obtain ⟨i0, hi, hz0, hz1, hz2⟩ := info_parts Tryd.info5
  have hc0 : decide ((100000 : Int) < (s.size : Int)) = false := by simp; omega
  go_enter Tryd.func5, Tryd.ntmps5
  go_wp2
  go_loopw [0, 3] (fun t v wr => ∃ (r p : List UInt8), t = .string ⟨r.toArray⟩ ∧ p.length + 6 * r.length ≤ 6 * s.size ∧ Hid (p ++ Pl.enc r = Pl.enc s.data.toList) ∧ Own w.heap.size v p wr ∧ Below w.heap.size w wr) (fun t _ _ => strLen t)
  case atStart => exact ⟨s.data.toList, [], rfl, by simp, rfl, Own.nil _ _, Below.refl _ _⟩
  case round =>
    obtain ⟨r, p, rfl, hpl, hp, hown, hb⟩ := hrel
    by_cases hr : r = []
    · subst hr
      have hla : Hid (p = Pl.enc s.data.toList) := by rw [Pl.enc_nil, List.append_nil] at hp; exact hp
      have hbk := hown.back (P := Tryd.prog) 24 9 Tryd.underlying24 Tryd.underlying5 Tryd.underlying9
      clear hp
      go_wp2
      go_ret
      rw [← hla.out]
      exact ⟨rfl, hb⟩
    · have hre : r.isEmpty = false := by simpa using hr
      have h0 : 0 < r.length := List.length_pos_iff.2 hr
      have hst : Hid ((p ++ Pl.bare (r.take 57) ++ [13, 10]) ++ Pl.enc (r.drop 57) = Pl.enc s.data.toList) := by
        have := hp.out
        rw [Pl.enc_step r hr] at this
        simpa [Hid] using this
      have hbl := Pl.bare_len ((min 57 r.length + 2) / 3) (r.take 57) (by rw [List.length_take]; omega)
      have hap := mkHid (fun W' (h1 : Own w.heap.size u3 p W') (h2 : Below w.heap.size w W') => implAppend w.heap.size u3 p (r.take 57) w W' h1 hT hz (Nat.le_refl _) h2 (by rw [List.length_take]; omega))
      clear hp
      by_cases h57 : 57 ≤ r.length
      · have hx : (⟨r.toArray⟩ : ByteArray).extract 0 57 = ⟨(r.take 57).toArray⟩ := by rw [Pl.ext_of]; rfl
        have hy : (⟨r.toArray⟩ : ByteArray).extract 57 r.length = ⟨(r.drop 57).toArray⟩ := by rw [Pl.ext_of, List.take_of_length_le (by simp)]
        go_wp2_with fail
        refine (hap.out _ hown hb).mono ?_
        rintro e w2 ⟨v2, rfl, hown2, hb2⟩
        have hz57 : (r.drop 57).length ≤ r.length - 57 := by simp
        generalize r.drop 57 = y at *
        generalize Pl.bare (r.take 57) = z at *
        go_wp2_with (at_builtin; go_must (refine wp_apps (W := w) rfl _ _ 24 9 rfl i0 Tryd.underlying24 Tryd.underlying9 hi hz0 hz1 hz2 w.heap.size v2 _ rfl hown2 ⟨#[13, 10]⟩ rfl (by simp [ByteArray.size]; omega) (Nat.le_refl _) hb2 ?_; intro v4 w4 hown4 hb4))
        go_roundw
        case rel => exact ⟨_, by simp; omega, hst, hown4⟩
        case measure => rw [strLen_mk, strLen_mk]; omega
      · have hx : (⟨r.toArray⟩ : ByteArray).extract 0 r.length = ⟨(r.take 57).toArray⟩ := by rw [Pl.ext_of, List.drop_zero, List.take_of_length_le (by omega), List.take_of_length_le (by omega)]
        rw [List.drop_eq_nil_of_le (show r.length ≤ 57 by omega)] at hst
        go_wp2_with fail
        refine (hap.out _ hown hb).mono ?_
        rintro e w2 ⟨v2, rfl, hown2, hb2⟩
        generalize Pl.bare (r.take 57) = z at *
        go_wp2_with (at_builtin; go_must (refine wp_apps (W := w) rfl _ _ 24 9 rfl i0 Tryd.underlying24 Tryd.underlying9 hi hz0 hz1 hz2 w.heap.size v2 _ rfl hown2 ⟨#[13, 10]⟩ rfl (by simp [ByteArray.size]; omega) (Nat.le_refl _) hb2 ?_; intro v4 w4 hown4 hb4))
        go_roundw
        case rel => exact ⟨[], rfl, _, by simp; omega, hst, hown4⟩
        case measure => rw [strLen_mk]; exact h0
end Go.Proofs.YtpnebokcddgahaiDoor
