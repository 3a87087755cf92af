
/- The walks of a reader of dates: no day's name ahead. -/
import Derived.Test.YtacmhofekdjobaaGreatDoorDateWeek
namespace Go.Proofs.YtacmhofekdjobaaGreatDoor
open Go.RowKit Go.Lib
set_option maxRecDepth 20000 in
set_option maxHeartbeats 4000000 in
theorem implDayNameNo (x : ByteArray) (hx : x.size ≤ 100) (hE : ∀ i, i < 7 → (lower x.data.toList == lower (Pl.dayN i).data.toList) = false) (w : World) (hM : DTab w) :
    Calls Tryz.prog 59 #[.string x] w fun e w' => e = .returned (.bool false) ∧ Below w.heap.size w w' := by
  have hL := implLowered x w (by omega)
  have HL := (show Hid (∀ i, i < 7 → ∀ w, _) from fun i (hi : i < 7) (w : World) => implLowered (Pl.dayN i) w (by have := Pl.day_size i hi; omega))
  have HM := (show Hid (DTab w) from hM)
  clear hM
  go_enter Tryz.func59, Tryz.ntmps59
  go_wp2_with fail
  refine hL.mono ?_
  rintro e w1 ⟨rfl, hb1⟩
  clear hL
  have hM := DTab.on HM.out hb1
  have c0 := hM 0 (by omega)
  have c1 := hM 1 (by omega)
  have c2 := hM 2 (by omega)
  have c3 := hM 3 (by omega)
  have c4 := hM 4 (by omega)
  have c5 := hM 5 (by omega)
  have c6 := hM 6 (by omega)
  clear hM
  go_wp2_with fail
  clear c0 c1 c2 c3 c4 c5 c6
  go_loopw [8] (fun v wr => ∃ i : Nat, v = .int .i64 i ∧ i ≤ 7 ∧ Hid (Below w.heap.size w wr)) (fun v _ => 7 - vN v)
  case atStart => exact ⟨0, rfl, Nat.zero_le _, hb1⟩
  case round =>
    obtain ⟨i, rfl, hij, Hb⟩ := hrel
    by_cases hi : i < 7
    · have f1 : (i : Int) < 7 := by omega
      have hix := fun w => day_at i hi w
      simp only [darr] at hix
      have hC := HL.out i hi
      have hEi := hE i hi
      clear hE HL
      go_wp2_with fail
      refine (hC _).mono ?_
      rintro e w2 ⟨rfl, hb2⟩
      have Hb2 := (show Hid _ from Hb.out.trans (hb2.mono Hb.out.size))
      clear hb2 Hb
      go_wp2_with fail
      go_roundw
      case rel => exact ⟨i + 1, rfl, by omega, Hb2⟩
      case measure =>
        show 7 - ((i : Int) + 1).toNat < 7 - (i : Int).toNat
        omega
    · have f1 : ¬ (i : Int) < 7 := by omega
      clear hE HL
      go_wp2_with fail
      go_ret
      exact ⟨rfl, Hb.out⟩
set_option maxRecDepth 20000 in
set_option maxHeartbeats 2000000 in
theorem rdWeekdayNo (B g n : Nat) (T : List Tk) (s : ByteArray) (q : Nat × Nat) (ill : Bool) (x : ByteArray) (a : Nat) (w : World) (h : Rd B T g s q n ill w) (hl : T.length ≤ 100) (hs : s.size ≤ 4000) (hk : ∀ t ∈ T, t.kind ≠ 4) (hx : x.size ≤ 100) (hE : ∀ i, i < 7 → (lower x.data.toList == lower (Pl.dayN i).data.toList) = false) (hn : T[n]? = some ⟨1, x, a⟩) (hD : DTab w) :
    Calls Tryz.prog 25 #[scp g] w fun e w' => e = .returned (.tuple #[]) ∧ Rd B T g s q n ill w' ∧ w.grownBy w' (some g) := by
  have hlt : n < T.length := by
    by_cases hc : n < T.length
    · exact hc
    · rw [List.getElem?_eq_none (by omega)] at hn; cases hn
  have hA := rdPeek B g n T s q ill ⟨1, x, a⟩ w h hl hs hk ⟨.inl ⟨hlt, hn, (by show (1 : Nat) ≠ 0; decide)⟩⟩
  have hV : tkV ⟨1, x, a⟩ = .agg #[.int .i64 1, .string x, .int .i64 a] := rfl
  rw [hV] at hA
  have HR := (show Hid _ from h)
  have HD := (show Hid (DTab w) from hD)
  clear h hn hD
  go_enter Tryz.func25, Tryz.ntmps25
  go_wp2_with fail
  refine hA.mono ?_
  rintro e w1 ⟨rfl, hb1⟩
  clear hA hV
  obtain ⟨X, hX⟩ : ∃ X, X = w1.alloc (.cells #[.int .i64 1, .string x, .int .i64 a] 70) := ⟨_, rfl⟩
  have hbX : Below w.heap.size w X := by rw [hX]; exact hb1.alloc hb1.size _
  have hC := implDayNameNo x hx hE X (DTab.on HD.out hbX)
  have RX := (show Hid _ from HR.out.below hbX)
  have BX := (show Hid _ from hbX)
  have HX := (show Hid (X = _) from hX)
  clear hbX hX hb1 HR HD
  go_wp2_with fail
  rw [← HX.out]
  clear HX
  refine hC.mono ?_
  rintro e w2 ⟨rfl, hb2⟩
  have R2 := (show Hid _ from RX.out.below hb2)
  have B2 := (show Hid _ from BX.out.trans (hb2.mono BX.out.size))
  clear hC RX BX hb2
  go_wp2_with fail
  exact bodyPost_end (v := .tuple #[]) (results_none Tryz.results25 _ _ _) rfl ⟨rfl, R2.out, grown_below B2.out⟩
end Go.Proofs.YtacmhofekdjobaaGreatDoor
