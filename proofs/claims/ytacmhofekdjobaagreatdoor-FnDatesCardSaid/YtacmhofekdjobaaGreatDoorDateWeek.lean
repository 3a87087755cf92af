
/- The walk of a reader of dates: a day's name with its comma. -/
import Derived.Test.YtacmhofekdjobaaGreatDoorDateMonth
namespace Go.Proofs.YtacmhofekdjobaaGreatDoor
open Go.RowKit Go.Lib
set_option maxRecDepth 20000 in
set_option maxHeartbeats 2000000 in
theorem rdWeekday (B g n : Nat) (T : List Tk) (s : ByteArray) (q : Nat × Nat) (ill : Bool) (j a : Nat) (tc : Tk) (w : World) (h : Rd B T g s q n ill w) (hl : T.length ≤ 100) (hs : s.size ≤ 4000) (hk : ∀ t ∈ T, t.kind ≠ 4) (hj : j < 7) (hn : T[n]? = some ⟨1, Pl.dayN j, a⟩) (hc : T[n + 1]? = some tc) (h5 : tc.kind = 5) (h44 : tc.text = ⟨#[44]⟩) (hD : DTab w) :
    Calls Tryz.prog 25 #[scp g] w fun e w' => e = .returned (.tuple #[]) ∧ Rd B T g s q (n + 1 + 1) ill w' ∧ w.grownBy w' (some g) := by
  have hlt : n < T.length := by
    by_cases hc : n < T.length
    · exact hc
    · rw [List.getElem?_eq_none (by omega)] at hn; cases hn
  have hA := rdPeek B g n T s q ill ⟨1, Pl.dayN j, a⟩ w h hl hs hk ⟨.inl ⟨hlt, hn, (by show (1 : Nat) ≠ 0; decide)⟩⟩
  have hV : tkV ⟨1, Pl.dayN j, a⟩ = .agg #[.int .i64 1, .string (Pl.dayN j), .int .i64 a] := rfl
  rw [hV] at hA
  have HT := (show Hid _ from fun (w : World) h => rdTake B g n T s q ill ⟨1, Pl.dayN j, a⟩ w h hl hs hk hn (by show (1 : Nat) ≠ 0; decide))
  have HS := (show Hid _ from fun (w : World) h => rdTakeSign B g (n + 1) T s q ill tc ⟨#[44]⟩ w h hl hs hk hc h5 h44)
  have HW := (show Hid _ from fun (w : World) => rdWant g w)
  have HR := (show Hid _ from h)
  have HD := (show Hid (DTab w) from hD)
  clear h hn hc h5 h44 hD
  go_enter Tryz.func25, Tryz.ntmps25
  go_wp2_with fail
  refine hA.mono ?_
  rintro e w1 ⟨rfl, hb1⟩
  clear hA hV
  obtain ⟨X, hX⟩ : ∃ X, X = w1.alloc (.cells #[.int .i64 1, .string (Pl.dayN j), .int .i64 a] 70) := ⟨_, rfl⟩
  have hbX : Below w.heap.size w X := by rw [hX]; exact hb1.alloc hb1.size _
  have hC := implDayName j hj X (DTab.on HD.out hbX)
  have RX := (show Hid _ from HR.out.below hbX)
  have BX := (show Hid _ from hbX)
  have HX := (show Hid (X = _) from hX)
  clear hbX hX hb1 HR HD
  go_wp2_with fail
  rw [← HX.out]
  clear HX
  refine hC.mono ?_
  rintro e w2 ⟨rfl, hb2⟩
  have R2 := (show Hid _ from RX.out.below hb2)
  have B2 := (show Hid _ from BX.out.trans (hb2.mono BX.out.size))
  clear hC RX BX hb2
  go_wp2_with fail
  refine (HT.out _ R2.out).mono ?_
  rintro e w3 ⟨rfl, r3, g3⟩
  have R3 := (show Hid _ from r3)
  have G3 := (show Hid _ from grown_trans (grown_below (r := some g) B2.out) g3)
  clear HT R2 B2 r3 g3
  go_wp2_with fail
  refine (HS.out _ R3.out).mono ?_
  rintro e w4 ⟨rfl, r4, g4⟩
  have R4 := (show Hid _ from r4)
  have G4 := (show Hid _ from grown_trans G3.out g4)
  clear HS R3 G3 r4 g4
  go_wp2_with fail
  refine (HW.out _).mono ?_
  rintro e w5 ⟨rfl, rfl⟩
  go_wp2_with fail
  exact bodyPost_end (v := .tuple #[]) (results_none Tryz.results25 _ _ _) rfl ⟨rfl, R4.out, G4.out⟩
end Go.Proofs.YtacmhofekdjobaaGreatDoor
