
/- The walks of a reader of dates: a month's name, a day's name. -/
import Derived.Test.YtacmhofekdjobaaGreatDoorDateRead4
import Derived.Test.YtacmhofekdjobaaGreatDoorLow
import Derived.Test.YtacmhofekdjobaaGreatDoorDateWrite
namespace Go.Proofs.YtacmhofekdjobaaGreatDoor
open Go.RowKit Go.Lib
/-- The number that a value is. -/
def vN (v : Value) : Nat := match v with | .int _ n => n.toNat | _ => 0
def marr : Array Value := #[.string (Pl.monthN 0), .string (Pl.monthN 1), .string (Pl.monthN 2), .string (Pl.monthN 3), .string (Pl.monthN 4), .string (Pl.monthN 5), .string (Pl.monthN 6), .string (Pl.monthN 7), .string (Pl.monthN 8), .string (Pl.monthN 9), .string (Pl.monthN 10), .string (Pl.monthN 11)]
set_option maxRecDepth 20000 in
theorem month_at (i : Nat) (hi : i < 12) (w : World) : Sem.run Tryz.prog (Instr.index 85 (.agg marr) (.int .i64 i)) w = .ok (.string (Pl.monthN i)) w := by
  rcases (show i = 0 ∨ i = 1 ∨ i = 2 ∨ i = 3 ∨ i = 4 ∨ i = 5 ∨ i = 6 ∨ i = 7 ∨ i = 8 ∨ i = 9 ∨ i = 10 ∨ i = 11 by omega) with rfl | rfl | rfl | rfl | rfl | rfl | rfl | rfl | rfl | rfl | rfl | rfl <;> kernel_rfl
set_option maxRecDepth 20000 in
theorem month_ne : ∀ i j : Fin 12, (lower (Pl.monthN j.val).data.toList == lower (Pl.monthN i.val).data.toList) = decide (i = j) := by decide +kernel
set_option maxRecDepth 20000 in
set_option maxHeartbeats 4000000 in
theorem implMonthNamed (j : Nat) (hj : j < 12) (w : World) (hM : MTab w) :
    Calls Tryz.prog 67 #[.string (Pl.monthN j)] w fun e w' => e = .returned (.tuple #[.int .i64 j, .bool true]) ∧ Below w.heap.size w w' := by
  have hsz := Pl.month_size j hj
  have hL := implLowered (Pl.monthN j) w (by omega)
  have HL := (show Hid (∀ i, i < 12 → ∀ w, _) from fun i (hi : i < 12) (w : World) => implLowered (Pl.monthN i) w (by have := Pl.month_size i hi; omega))
  have hE : ∀ i, i < 12 → (lower (Pl.monthN j).data.toList == lower (Pl.monthN i).data.toList) = decide (i = j) := fun i hi => by
    have := month_ne ⟨i, hi⟩ ⟨j, hj⟩
    rw [this]
    simp [Fin.ext_iff]
  have HM := (show Hid (MTab w) from hM)
  clear hM
  go_enter Tryz.func67, Tryz.ntmps67
  go_wp2_with fail
  refine hL.mono ?_
  rintro e w1 ⟨rfl, hb1⟩
  clear hL
  have hM := MTab.on HM.out hb1
  have c0 := hM 0 (by omega)
  have c1 := hM 1 (by omega)
  have c2 := hM 2 (by omega)
  have c3 := hM 3 (by omega)
  have c4 := hM 4 (by omega)
  have c5 := hM 5 (by omega)
  have c6 := hM 6 (by omega)
  have c7 := hM 7 (by omega)
  have c8 := hM 8 (by omega)
  have c9 := hM 9 (by omega)
  have c10 := hM 10 (by omega)
  have c11 := hM 11 (by omega)
  clear hM
  go_wp2_with fail
  clear c0 c1 c2 c3 c4 c5 c6 c7 c8 c9 c10 c11
  go_loopw [9] (fun v wr => ∃ i : Nat, v = .int .i64 i ∧ i ≤ j ∧ Hid (Below w.heap.size w wr)) (fun v _ => 12 - vN v)
  case atStart => exact ⟨0, rfl, Nat.zero_le _, hb1⟩
  case round =>
    obtain ⟨i, rfl, hij, Hb⟩ := hrel
    have hi : i < 12 := by omega
    have f1 : (i : Int) < 12 := by omega
    have hix := fun w => month_at i hi w
    simp only [marr] at hix
    have hC := HL.out i hi
    by_cases he : i = j
    · have hEi : (lower (Pl.monthN j).data.toList == lower (Pl.monthN i).data.toList) = true := (hE i hi).trans (by simp [he])
      have He := (show Hid (i = j) from he)
      clear he hE HL
      go_wp2_with fail
      refine (hC _).mono ?_
      rintro e w2 ⟨rfl, hb2⟩
      have Hb2 := (show Hid _ from Hb.out.trans (hb2.mono Hb.out.size))
      clear hb2 Hb
      go_wp2_with fail
      refine bodyPost_ret (v := .tuple #[.int .i64 i, .bool true]) (by simp [results, Tryz.results67, go_sem]) rfl ?_
      exact ⟨by rw [He.out], Hb2.out⟩
    · have hEi : (lower (Pl.monthN j).data.toList == lower (Pl.monthN i).data.toList) = false := (hE i hi).trans (by simp [he])
      have hlt : i + 1 ≤ j := by omega
      clear he hE HL
      go_wp2_with fail
      refine (hC _).mono ?_
      rintro e w2 ⟨rfl, hb2⟩
      have Hb2 := (show Hid _ from Hb.out.trans (hb2.mono Hb.out.size))
      clear hb2 Hb
      go_wp2_with fail
      go_roundw
      case rel => exact ⟨i + 1, rfl, hlt, Hb2⟩
      case measure =>
        show 12 - ((i : Int) + 1).toNat < 12 - (i : Int).toNat
        omega
def darr : Array Value := #[.string (Pl.dayN 0), .string (Pl.dayN 1), .string (Pl.dayN 2), .string (Pl.dayN 3), .string (Pl.dayN 4), .string (Pl.dayN 5), .string (Pl.dayN 6)]
set_option maxRecDepth 20000 in
theorem day_at (i : Nat) (hi : i < 7) (w : World) : Sem.run Tryz.prog (Instr.index 35 (.agg darr) (.int .i64 i)) w = .ok (.string (Pl.dayN i)) w := by
  rcases (show i = 0 ∨ i = 1 ∨ i = 2 ∨ i = 3 ∨ i = 4 ∨ i = 5 ∨ i = 6 by omega) with rfl | rfl | rfl | rfl | rfl | rfl | rfl <;> kernel_rfl
set_option maxRecDepth 20000 in
theorem day_ne : ∀ i j : Fin 7, (lower (Pl.dayN j.val).data.toList == lower (Pl.dayN i.val).data.toList) = decide (i = j) := by decide +kernel
set_option maxRecDepth 20000 in
set_option maxHeartbeats 4000000 in
theorem implDayName (j : Nat) (hj : j < 7) (w : World) (hM : DTab w) :
    Calls Tryz.prog 59 #[.string (Pl.dayN j)] w fun e w' => e = .returned (.bool true) ∧ Below w.heap.size w w' := by
  have hsz := Pl.day_size j hj
  have hL := implLowered (Pl.dayN j) w (by omega)
  have HL := (show Hid (∀ i, i < 7 → ∀ w, _) from fun i (hi : i < 7) (w : World) => implLowered (Pl.dayN i) w (by have := Pl.day_size i hi; omega))
  have hE : ∀ i, i < 7 → (lower (Pl.dayN j).data.toList == lower (Pl.dayN i).data.toList) = decide (i = j) := fun i hi => by
    have := day_ne ⟨i, hi⟩ ⟨j, hj⟩
    rw [this]
    simp [Fin.ext_iff]
  have HM := (show Hid (DTab w) from hM)
  clear hM
  go_enter Tryz.func59, Tryz.ntmps59
  go_wp2_with fail
  refine hL.mono ?_
  rintro e w1 ⟨rfl, hb1⟩
  clear hL
  have hM := DTab.on HM.out hb1
  have c0 := hM 0 (by omega)
  have c1 := hM 1 (by omega)
  have c2 := hM 2 (by omega)
  have c3 := hM 3 (by omega)
  have c4 := hM 4 (by omega)
  have c5 := hM 5 (by omega)
  have c6 := hM 6 (by omega)
  clear hM
  go_wp2_with fail
  clear c0 c1 c2 c3 c4 c5 c6
  go_loopw [8] (fun v wr => ∃ i : Nat, v = .int .i64 i ∧ i ≤ j ∧ Hid (Below w.heap.size w wr)) (fun v _ => 7 - vN v)
  case atStart => exact ⟨0, rfl, Nat.zero_le _, hb1⟩
  case round =>
    obtain ⟨i, rfl, hij, Hb⟩ := hrel
    have hi : i < 7 := by omega
    have f1 : (i : Int) < 7 := by omega
    have hix := fun w => day_at i hi w
    simp only [darr] at hix
    have hC := HL.out i hi
    by_cases he : i = j
    · have hEi : (lower (Pl.dayN j).data.toList == lower (Pl.dayN i).data.toList) = true := (hE i hi).trans (by simp [he])
      clear he hE HL
      go_wp2_with fail
      refine (hC _).mono ?_
      rintro e w2 ⟨rfl, hb2⟩
      have Hb2 := (show Hid _ from Hb.out.trans (hb2.mono Hb.out.size))
      clear hb2 Hb
      go_wp2_with fail
      go_ret
      exact ⟨rfl, Hb2.out⟩
    · have hEi : (lower (Pl.dayN j).data.toList == lower (Pl.dayN i).data.toList) = false := (hE i hi).trans (by simp [he])
      have hlt : i + 1 ≤ j := by omega
      clear he hE HL
      go_wp2_with fail
      refine (hC _).mono ?_
      rintro e w2 ⟨rfl, hb2⟩
      have Hb2 := (show Hid _ from Hb.out.trans (hb2.mono Hb.out.size))
      clear hb2 Hb
      go_wp2_with fail
      go_roundw
      case rel => exact ⟨i + 1, rfl, hlt, Hb2⟩
      case measure =>
        show 7 - ((i : Int) + 1).toNat < 7 - (i : Int).toNat
        omega
set_option maxRecDepth 20000 in
set_option maxHeartbeats 1000000 in
theorem rdMonth (B g n : Nat) (T : List Tk) (s : ByteArray) (q : Nat × Nat) (ill : Bool) (j a : Nat) (w : World) (h : Rd B T g s q n ill w) (hl : T.length ≤ 100) (hs : s.size ≤ 4000) (hk : ∀ t ∈ T, t.kind ≠ 4) (hj : j < 12) (hn : T[n]? = some ⟨1, Pl.monthN j, a⟩) (hM : MTab w) (hG : 1 < g) :
    Calls Tryz.prog 28 #[scp g] w fun e w' => e = .returned (.int .i64 j) ∧ Rd B T g s q (n + 1) ill w' ∧ w.grownBy w' (some g) := by
  have hA := rdAtom B g n T s q ill ⟨1, Pl.monthN j, a⟩ w h hl hs hk hn rfl
  dsimp only at hA
  have HM := (show Hid (MTab w) from hM)
  have HW := (show Hid _ from fun (w : World) => rdWant g w)
  have hgl := h.glt
  clear h hn hM
  go_enter Tryz.func28, Tryz.ntmps28
  go_wp2_with fail
  refine hA.mono ?_
  rintro e w1 ⟨rfl, r1, g1⟩
  have M1 : MTab w1 := fun i hi => by
    have e := HM.out i hi
    have hlt := World.block_lt_of_cell? _ _ e
    simp only [World.cell?] at e ⊢
    rw [g1.block 1 (by omega) (by intro e; have := Option.some.inj e; omega)]
    exact e
  have hC := implMonthNamed j hj w1 M1
  have R1 := (show Hid _ from r1)
  have G1 := (show Hid _ from g1)
  clear r1 g1 hA HM M1
  go_wp2_with fail
  refine hC.mono ?_
  rintro e w2 ⟨rfl, hb⟩
  have R2 := (show Hid _ from R1.out.below hb)
  have G2 := (show Hid _ from grown_trans G1.out (grown_below hb))
  clear R1 G1 hb hC
  go_wp2_with fail
  refine (HW.out _).mono ?_
  rintro e w3 ⟨rfl, rfl⟩
  go_wp2_with fail
  go_ret
  exact ⟨rfl, R2.out, G2.out⟩
end Go.Proofs.YtacmhofekdjobaaGreatDoor
