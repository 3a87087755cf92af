/- The walk of Base64 in the model. -/
import Derived.Test.YtpnebokcddgahaiDoorBare
namespace Go.Proofs.YtpnebokcddgahaiDoor
open Go.RowKit Go.Lib
set_option maxRecDepth 100000 in
set_option maxHeartbeats 2000000 in
theorem specBase64 (s : ByteArray) (w : World) (hs : s.size ≤ 100000) :
    Calls Tryd.prog 4 #[.string s] w fun e w' => e = .returned (.string ⟨(Pl.enc s.data.toList).toArray⟩) ∧ Below w.heap.size w w' := by
  obtain ⟨i0, hi, hz0, hz1, hz2⟩ := info_parts Tryd.info5
  have hbare := mkHid (specBare s w hs)
  have hdl := Pl.bare_big s.data.toList (by simp; omega)
  obtain ⟨F, hF, hstart⟩ : ∃ F : Nat, 133336 ≤ F ∧ Hid (Pl.rowsF F (Pl.bare s.data.toList) = Pl.enc s.data.toList) := by
    obtain ⟨F, hF⟩ : ∃ F : Nat, 133336 ≤ F := ⟨133336, Nat.le_refl _⟩
    exact ⟨F, hF, Pl.rows_enc F s.data.toList (by simp; omega)⟩
  generalize Pl.bare s.data.toList = d at *
  generalize Pl.enc s.data.toList = r at *
  have hc0 : decide ((100000 : Int) < (s.size : Int)) = false := by simp; omega
  go_enter Tryd.func4, Tryd.ntmps4
  go_wp2_with fail
  refine hbare.out.mono ?_
  rintro e w1 ⟨rfl, hb1⟩
  have hs1 := hb1.size
  go_wp2_with fail
  go_loopw [4, 5] (fun v i wr => ∃ (k f : Nat) (p : List UInt8), k ≤ d.length + 76 ∧ i = .int .i64 k ∧ p.length ≤ 2 * k ∧ d.length ≤ k + f ∧ Hid (p ++ Pl.rowsF f (d.drop k) = r) ∧ Own w.heap.size v p wr ∧ Below w.heap.size w wr) (fun _ i _ => d.length + 80 - (RowKit.intOf i).toNat)
  case atStart => exact ⟨0, F, [], by omega, rfl, by simp, by omega, hstart, Own.made _ _ hs1, hb1.alloc hs1 _⟩
  case round =>
    obtain ⟨k, f, p, hk, rfl, hpl, hf, hp, hown, hb⟩ := hrel
    by_cases hlt : k < d.length
    · have hst := mkHid (Pl.rows_step f d k p r hlt hf hp.out)
      have hzl : ((d.drop k).take 76).length ≤ 76 := by rw [List.length_take]; omega
      by_cases h76 : d.length < k + 76
      · have hx : (⟨d.toArray⟩ : ByteArray).extract k d.length = ⟨((d.drop k).take 76).toArray⟩ := by
          rw [Pl.ext_of, List.take_of_length_le (by simp), List.take_of_length_le (by simp; omega)]
        generalize (d.drop k).take 76 = z at hst hx hzl
        clear hp
        go_wp2_with (at_builtin; go_must (refine wp_apps (W := w) rfl _ _ 24 9 rfl i0 Tryd.underlying24 Tryd.underlying9 hi hz0 hz1 hz2 w.heap.size u4 p rfl hown ⟨z.toArray⟩ rfl (by simp [sz]; omega) (Nat.le_refl _) hb ?_; intro v1 w2 hown1 hb2; refine Hid.out ?_))
        refine mkHid ?_
        go_wp2_with (at_builtin; go_must (refine wp_app (W := w) rfl _ _ 24 rfl i0 Tryd.underlying24 hi hz0 hz1 hz2 w.heap.size v1 _ rfl hown1 _ [13, 10] rfl 2 2 rfl rfl (by simp; omega) (Nat.le_refl _) hb2 ?_; intro v2 w3 hown2 hb3))
        go_roundw
        case rel => exact ⟨k + 76, f - 1, _, by omega, by go_num, by simp; omega, by omega, hst, by simpa using hown2, hb3⟩
        case measure => simp [RowKit.intOf]; omega
      · have hx : Hid ((⟨d.toArray⟩ : ByteArray).extract k (k + 76) = ⟨((d.drop k).take 76).toArray⟩) := by
          rw [Pl.ext_of, show k + 76 - k = 76 by omega]; exact rfl
        generalize (d.drop k).take 76 = z at hst hx hzl
        clear hp
        go_wp2_with (at_builtin; go_must (refine wp_apps (W := w) rfl _ _ 24 9 rfl i0 Tryd.underlying24 Tryd.underlying9 hi hz0 hz1 hz2 w.heap.size u4 p rfl hown ((⟨d.toArray⟩ : ByteArray).extract k (k + 76)) rfl (by rw [hx.out, sz]; omega) (Nat.le_refl _) hb ?_; intro v1 w2 hown1 hb2; refine Hid.out ?_))
        refine mkHid ?_
        rw [hx.out] at hown1
        go_wp2_with (at_builtin; go_must (refine wp_app (W := w) rfl _ _ 24 rfl i0 Tryd.underlying24 hi hz0 hz1 hz2 w.heap.size v1 _ rfl hown1 _ [13, 10] rfl 2 2 rfl rfl (by simp; omega) (Nat.le_refl _) hb2 ?_; intro v2 w3 hown2 hb3))
        go_roundw
        case rel => exact ⟨k + 76, f - 1, _, by omega, by go_num, by simp; omega, by omega, hst, by simpa using hown2, hb3⟩
        case measure => simp [RowKit.intOf]; omega
    · have hpn : Hid (p = r) := Pl.rows_end f d k p r (by omega) hp.out
      have hbk := hown.back (P := Tryd.prog) 24 9 Tryd.underlying24 Tryd.underlying5 Tryd.underlying9
      clear hp
      go_wp2
      go_ret
      rw [← hpn.out]
      exact ⟨rfl, hb⟩
end Go.Proofs.YtpnebokcddgahaiDoor
