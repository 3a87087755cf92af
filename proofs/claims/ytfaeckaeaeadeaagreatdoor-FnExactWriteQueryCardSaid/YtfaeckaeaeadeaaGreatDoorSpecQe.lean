
/- The specification's test of a query's node: some kinds. (By tools/gen/queryright.py.) -/
import Derived.Test.YtfaeckaeaeadeaaGreatDoorSpecQName
set_option linter.unusedVariables false
namespace Go.Proofs.YtfaeckaeaeadeaaGreatDoor
open Go.RowKit Go.Lib Go.Maps
set_option maxHeartbeats 8000000 in
set_option maxRecDepth 20000 in
theorem specQ12 (nm tx : ByteArray) (nu : Int) (u : List GRange) (kd : List Int) (a4 a5 : Option Addr) (c4 c5 lo : Nat) (w : World) (hU : GRangesL lo w.heap.size w a4 u) (hn : nm.size ≤ 1048576) (ht : tx.size ≤ 1048576) (hu : u.length ≤ 1048576) (hk : kd.length ≤ 1048576) :
    Calls Tryz.prog 41 #[.agg #[.int .i64 12, .string nm, .string tx, .int .i64 nu, .slice a4 u.length c4, .slice a5 kd.length c5]] w fun e w' => e = .returned (.bool ((nm.toList == []) && ((tx.toList == []) && ((nu == 0) && (Rg.rsOk u && ((kd.length : Int) == 0)))))) ∧ Below w.heap.size w w' := by
  obtain ⟨Z, hZ⟩ : ∃ Z, ((nm.toList == []) && ((tx.toList == []) && ((nu == 0) && (Rg.rsOk u && ((kd.length : Int) == 0))))) = Z := ⟨_, rfl⟩
  rw [hZ]
  replace hZ := mkHid hZ
  obtain ⟨W, hW⟩ : ∃ W, W = w.alloc (.cells #[.int .i64 12, .string nm, .string tx, .int .i64 nu, .slice a4 u.length c4, .slice a5 kd.length c5] 38) := ⟨_, rfl⟩
  have hbW : Below w.heap.size w W := by rw [hW]; exact (Below.refl _ _).alloc (Nat.le_refl _) _
  have hWs : w.heap.size < W.heap.size := by rw [hW]; simp
  have q0 : W.cell? ⟨w.heap.size, 0, none⟩ = some (.int .i64 12) := by rw [hW]; simp
  have q1 : W.cell? ⟨w.heap.size, 1, none⟩ = some (.string nm) := by rw [hW]; simp
  have q2 : W.cell? ⟨w.heap.size, 2, none⟩ = some (.string tx) := by rw [hW]; simp
  have q3 : W.cell? ⟨w.heap.size, 3, none⟩ = some (.int .i64 nu) := by rw [hW]; simp
  have q4 : W.cell? ⟨w.heap.size, 4, none⟩ = some (.slice a4 u.length c4) := by rw [hW]; simp
  have q5 : W.cell? ⟨w.heap.size, 5, none⟩ = some (.slice a5 kd.length c5) := by rw [hW]; simp
  have cC := mkHid (specRangesOk a4 u c4 lo W ((hU.below hbW (Nat.le_refl _)).mono (Nat.le_refl _) hbW.size) hu)
  have HbW := mkHid hbW
  have HW := mkHid hW
  clear hW hbW hU
  generalize Rg.rsOk u = B4 at *
  cases g1 : (nm.toList == [])
  · have hf : Hid (Z = false) := by rw [← hZ.out, g1]; rfl
    clear hZ
    go_enter Tryz.func41, Tryz.ntmps41
    go_wp2_with (go_at_call 46; fail)
    rw [← HW.out]
    refine cC.out.mono ?_
    rintro e wx ⟨rfl, hbx⟩
    have hbe := mkHid (HbW.out.trans (hbx.mono (Nat.le_of_lt hWs)))
    have p0 := (hbx.cell (p := ⟨w.heap.size, 0, none⟩) hWs).trans q0
    have p1 := (hbx.cell (p := ⟨w.heap.size, 1, none⟩) hWs).trans q1
    have p2 := (hbx.cell (p := ⟨w.heap.size, 2, none⟩) hWs).trans q2
    have p3 := (hbx.cell (p := ⟨w.heap.size, 3, none⟩) hWs).trans q3
    have p4 := (hbx.cell (p := ⟨w.heap.size, 4, none⟩) hWs).trans q4
    have p5 := (hbx.cell (p := ⟨w.heap.size, 5, none⟩) hWs).trans q5
    clear hbx cC HbW
    go_wp2
    go_ret
    rw [hf.out]
    exact ⟨rfl, hbe.out⟩
  · cases g2 : (tx.toList == [])
    · have hf : Hid (Z = false) := by rw [← hZ.out, g1, g2]; rfl
      clear hZ
      go_enter Tryz.func41, Tryz.ntmps41
      go_wp2_with (go_at_call 46; fail)
      rw [← HW.out]
      refine cC.out.mono ?_
      rintro e wx ⟨rfl, hbx⟩
      have hbe := mkHid (HbW.out.trans (hbx.mono (Nat.le_of_lt hWs)))
      have p0 := (hbx.cell (p := ⟨w.heap.size, 0, none⟩) hWs).trans q0
      have p1 := (hbx.cell (p := ⟨w.heap.size, 1, none⟩) hWs).trans q1
      have p2 := (hbx.cell (p := ⟨w.heap.size, 2, none⟩) hWs).trans q2
      have p3 := (hbx.cell (p := ⟨w.heap.size, 3, none⟩) hWs).trans q3
      have p4 := (hbx.cell (p := ⟨w.heap.size, 4, none⟩) hWs).trans q4
      have p5 := (hbx.cell (p := ⟨w.heap.size, 5, none⟩) hWs).trans q5
      clear hbx cC HbW
      go_wp2
      go_ret
      rw [hf.out]
      exact ⟨rfl, hbe.out⟩
    · cases g3 : (nu == 0)
      · have hf : Hid (Z = false) := by rw [← hZ.out, g1, g2, g3]; rfl
        clear hZ
        go_enter Tryz.func41, Tryz.ntmps41
        go_wp2_with (go_at_call 46; fail)
        rw [← HW.out]
        refine cC.out.mono ?_
        rintro e wx ⟨rfl, hbx⟩
        have hbe := mkHid (HbW.out.trans (hbx.mono (Nat.le_of_lt hWs)))
        have p0 := (hbx.cell (p := ⟨w.heap.size, 0, none⟩) hWs).trans q0
        have p1 := (hbx.cell (p := ⟨w.heap.size, 1, none⟩) hWs).trans q1
        have p2 := (hbx.cell (p := ⟨w.heap.size, 2, none⟩) hWs).trans q2
        have p3 := (hbx.cell (p := ⟨w.heap.size, 3, none⟩) hWs).trans q3
        have p4 := (hbx.cell (p := ⟨w.heap.size, 4, none⟩) hWs).trans q4
        have p5 := (hbx.cell (p := ⟨w.heap.size, 5, none⟩) hWs).trans q5
        clear hbx cC HbW
        go_wp2
        go_ret
        rw [hf.out]
        exact ⟨rfl, hbe.out⟩
      · cases B4
        · have hf : Hid (Z = false) := by rw [← hZ.out, g1, g2, g3]; rfl
          clear hZ
          go_enter Tryz.func41, Tryz.ntmps41
          go_wp2_with (go_at_call 46; fail)
          rw [← HW.out]
          refine cC.out.mono ?_
          rintro e wx ⟨rfl, hbx⟩
          have hbe := mkHid (HbW.out.trans (hbx.mono (Nat.le_of_lt hWs)))
          have p0 := (hbx.cell (p := ⟨w.heap.size, 0, none⟩) hWs).trans q0
          have p1 := (hbx.cell (p := ⟨w.heap.size, 1, none⟩) hWs).trans q1
          have p2 := (hbx.cell (p := ⟨w.heap.size, 2, none⟩) hWs).trans q2
          have p3 := (hbx.cell (p := ⟨w.heap.size, 3, none⟩) hWs).trans q3
          have p4 := (hbx.cell (p := ⟨w.heap.size, 4, none⟩) hWs).trans q4
          have p5 := (hbx.cell (p := ⟨w.heap.size, 5, none⟩) hWs).trans q5
          clear hbx cC HbW
          go_wp2
          go_ret
          rw [hf.out]
          exact ⟨rfl, hbe.out⟩
        · cases g5 : ((kd.length : Int) == 0)
          · have hf : Hid (Z = false) := by rw [← hZ.out, g1, g2, g3, g5]; rfl
            clear hZ
            go_enter Tryz.func41, Tryz.ntmps41
            go_wp2_with (go_at_call 46; fail)
            rw [← HW.out]
            refine cC.out.mono ?_
            rintro e wx ⟨rfl, hbx⟩
            have hbe := mkHid (HbW.out.trans (hbx.mono (Nat.le_of_lt hWs)))
            have p0 := (hbx.cell (p := ⟨w.heap.size, 0, none⟩) hWs).trans q0
            have p1 := (hbx.cell (p := ⟨w.heap.size, 1, none⟩) hWs).trans q1
            have p2 := (hbx.cell (p := ⟨w.heap.size, 2, none⟩) hWs).trans q2
            have p3 := (hbx.cell (p := ⟨w.heap.size, 3, none⟩) hWs).trans q3
            have p4 := (hbx.cell (p := ⟨w.heap.size, 4, none⟩) hWs).trans q4
            have p5 := (hbx.cell (p := ⟨w.heap.size, 5, none⟩) hWs).trans q5
            clear hbx cC HbW
            go_wp2
            go_ret
            rw [hf.out]
            exact ⟨rfl, hbe.out⟩
          · have hf : Hid (Z = true) := by rw [← hZ.out, g1, g2, g3, g5]; rfl
            clear hZ
            go_enter Tryz.func41, Tryz.ntmps41
            go_wp2_with (go_at_call 46; fail)
            rw [← HW.out]
            refine cC.out.mono ?_
            rintro e wx ⟨rfl, hbx⟩
            have hbe := mkHid (HbW.out.trans (hbx.mono (Nat.le_of_lt hWs)))
            have p0 := (hbx.cell (p := ⟨w.heap.size, 0, none⟩) hWs).trans q0
            have p1 := (hbx.cell (p := ⟨w.heap.size, 1, none⟩) hWs).trans q1
            have p2 := (hbx.cell (p := ⟨w.heap.size, 2, none⟩) hWs).trans q2
            have p3 := (hbx.cell (p := ⟨w.heap.size, 3, none⟩) hWs).trans q3
            have p4 := (hbx.cell (p := ⟨w.heap.size, 4, none⟩) hWs).trans q4
            have p5 := (hbx.cell (p := ⟨w.heap.size, 5, none⟩) hWs).trans q5
            clear hbx cC HbW
            go_wp2
            go_ret
            rw [hf.out]
            exact ⟨rfl, hbe.out⟩
set_option maxHeartbeats 8000000 in
set_option maxRecDepth 20000 in
theorem specQ14 (nm tx : ByteArray) (nu : Int) (u : List GRange) (kd : List Int) (a4 a5 : Option Addr) (c4 c5 lo : Nat) (w : World) (hU : GRangesL lo w.heap.size w a4 u) (hn : nm.size ≤ 1048576) (ht : tx.size ≤ 1048576) (hu : u.length ≤ 1048576) (hk : kd.length ≤ 1048576) :
    Calls Tryz.prog 41 #[.agg #[.int .i64 14, .string nm, .string tx, .int .i64 nu, .slice a4 u.length c4, .slice a5 kd.length c5]] w fun e w' => e = .returned (.bool ((nm.toList == []) && ((tx.toList == []) && ((nu == 0) && (((u.length : Int) == 0) && ((kd.length : Int) == 1)))))) ∧ Below w.heap.size w w' := by
  obtain ⟨Z, hZ⟩ : ∃ Z, ((nm.toList == []) && ((tx.toList == []) && ((nu == 0) && (((u.length : Int) == 0) && ((kd.length : Int) == 1))))) = Z := ⟨_, rfl⟩
  rw [hZ]
  replace hZ := mkHid hZ
  obtain ⟨W, hW⟩ : ∃ W, W = w.alloc (.cells #[.int .i64 14, .string nm, .string tx, .int .i64 nu, .slice a4 u.length c4, .slice a5 kd.length c5] 38) := ⟨_, rfl⟩
  have hbW : Below w.heap.size w W := by rw [hW]; exact (Below.refl _ _).alloc (Nat.le_refl _) _
  have hWs : w.heap.size < W.heap.size := by rw [hW]; simp
  have HbW := mkHid hbW
  have HW := mkHid hW
  clear hW hbW hU
  cases g1 : (nm.toList == [])
  · have hf : Hid (Z = false) := by rw [← hZ.out, g1]; rfl
    clear hZ
    go_enter Tryz.func41, Tryz.ntmps41
    go_wp2
    go_ret
    rw [← HW.out, hf.out]
    exact ⟨rfl, HbW.out⟩
  · cases g2 : (tx.toList == [])
    · have hf : Hid (Z = false) := by rw [← hZ.out, g1, g2]; rfl
      clear hZ
      go_enter Tryz.func41, Tryz.ntmps41
      go_wp2
      go_ret
      rw [← HW.out, hf.out]
      exact ⟨rfl, HbW.out⟩
    · cases g3 : (nu == 0)
      · have hf : Hid (Z = false) := by rw [← hZ.out, g1, g2, g3]; rfl
        clear hZ
        go_enter Tryz.func41, Tryz.ntmps41
        go_wp2
        go_ret
        rw [← HW.out, hf.out]
        exact ⟨rfl, HbW.out⟩
      · cases g4 : ((u.length : Int) == 0)
        · have hf : Hid (Z = false) := by rw [← hZ.out, g1, g2, g3, g4]; rfl
          clear hZ
          go_enter Tryz.func41, Tryz.ntmps41
          go_wp2
          go_ret
          rw [← HW.out, hf.out]
          exact ⟨rfl, HbW.out⟩
        · cases g5 : ((kd.length : Int) == 1)
          · have hf : Hid (Z = false) := by rw [← hZ.out, g1, g2, g3, g4, g5]; rfl
            clear hZ
            go_enter Tryz.func41, Tryz.ntmps41
            go_wp2
            go_ret
            rw [← HW.out, hf.out]
            exact ⟨rfl, HbW.out⟩
          · have hf : Hid (Z = true) := by rw [← hZ.out, g1, g2, g3, g4, g5]; rfl
            clear hZ
            go_enter Tryz.func41, Tryz.ntmps41
            go_wp2
            go_ret
            rw [← HW.out, hf.out]
            exact ⟨rfl, HbW.out⟩
set_option maxHeartbeats 8000000 in
set_option maxRecDepth 20000 in
theorem specQ15 (nm tx : ByteArray) (nu : Int) (u : List GRange) (kd : List Int) (a4 a5 : Option Addr) (c4 c5 lo : Nat) (w : World) (hU : GRangesL lo w.heap.size w a4 u) (hn : nm.size ≤ 1048576) (ht : tx.size ≤ 1048576) (hu : u.length ≤ 1048576) (hk : kd.length ≤ 1048576) :
    Calls Tryz.prog 41 #[.agg #[.int .i64 15, .string nm, .string tx, .int .i64 nu, .slice a4 u.length c4, .slice a5 kd.length c5]] w fun e w' => e = .returned (.bool ((nm.toList == []) && ((tx.toList == []) && ((nu == 0) && (((u.length : Int) == 0) && ((kd.length : Int) == 2)))))) ∧ Below w.heap.size w w' := by
  obtain ⟨Z, hZ⟩ : ∃ Z, ((nm.toList == []) && ((tx.toList == []) && ((nu == 0) && (((u.length : Int) == 0) && ((kd.length : Int) == 2))))) = Z := ⟨_, rfl⟩
  rw [hZ]
  replace hZ := mkHid hZ
  obtain ⟨W, hW⟩ : ∃ W, W = w.alloc (.cells #[.int .i64 15, .string nm, .string tx, .int .i64 nu, .slice a4 u.length c4, .slice a5 kd.length c5] 38) := ⟨_, rfl⟩
  have hbW : Below w.heap.size w W := by rw [hW]; exact (Below.refl _ _).alloc (Nat.le_refl _) _
  have hWs : w.heap.size < W.heap.size := by rw [hW]; simp
  have HbW := mkHid hbW
  have HW := mkHid hW
  clear hW hbW hU
  cases g1 : (nm.toList == [])
  · have hf : Hid (Z = false) := by rw [← hZ.out, g1]; rfl
    clear hZ
    go_enter Tryz.func41, Tryz.ntmps41
    go_wp2
    go_ret
    rw [← HW.out, hf.out]
    exact ⟨rfl, HbW.out⟩
  · cases g2 : (tx.toList == [])
    · have hf : Hid (Z = false) := by rw [← hZ.out, g1, g2]; rfl
      clear hZ
      go_enter Tryz.func41, Tryz.ntmps41
      go_wp2
      go_ret
      rw [← HW.out, hf.out]
      exact ⟨rfl, HbW.out⟩
    · cases g3 : (nu == 0)
      · have hf : Hid (Z = false) := by rw [← hZ.out, g1, g2, g3]; rfl
        clear hZ
        go_enter Tryz.func41, Tryz.ntmps41
        go_wp2
        go_ret
        rw [← HW.out, hf.out]
        exact ⟨rfl, HbW.out⟩
      · cases g4 : ((u.length : Int) == 0)
        · have hf : Hid (Z = false) := by rw [← hZ.out, g1, g2, g3, g4]; rfl
          clear hZ
          go_enter Tryz.func41, Tryz.ntmps41
          go_wp2
          go_ret
          rw [← HW.out, hf.out]
          exact ⟨rfl, HbW.out⟩
        · cases g5 : ((kd.length : Int) == 2)
          · have hf : Hid (Z = false) := by rw [← hZ.out, g1, g2, g3, g4, g5]; rfl
            clear hZ
            go_enter Tryz.func41, Tryz.ntmps41
            go_wp2
            go_ret
            rw [← HW.out, hf.out]
            exact ⟨rfl, HbW.out⟩
          · have hf : Hid (Z = true) := by rw [← hZ.out, g1, g2, g3, g4, g5]; rfl
            clear hZ
            go_enter Tryz.func41, Tryz.ntmps41
            go_wp2
            go_ret
            rw [← HW.out, hf.out]
            exact ⟨rfl, HbW.out⟩
set_option maxHeartbeats 8000000 in
set_option maxRecDepth 20000 in
theorem specQ16 (nm tx : ByteArray) (nu : Int) (u : List GRange) (kd : List Int) (a4 a5 : Option Addr) (c4 c5 lo : Nat) (w : World) (hU : GRangesL lo w.heap.size w a4 u) (hn : nm.size ≤ 1048576) (ht : tx.size ≤ 1048576) (hu : u.length ≤ 1048576) (hk : kd.length ≤ 1048576) :
    Calls Tryz.prog 41 #[.agg #[.int .i64 16, .string nm, .string tx, .int .i64 nu, .slice a4 u.length c4, .slice a5 kd.length c5]] w fun e w' => e = .returned (.bool ((nm.toList == []) && ((tx.toList == []) && ((nu == 0) && (((u.length : Int) == 0) && decide ((2 : Int) ≤ (kd.length : Int))))))) ∧ Below w.heap.size w w' := by
  obtain ⟨Z, hZ⟩ : ∃ Z, ((nm.toList == []) && ((tx.toList == []) && ((nu == 0) && (((u.length : Int) == 0) && decide ((2 : Int) ≤ (kd.length : Int)))))) = Z := ⟨_, rfl⟩
  rw [hZ]
  replace hZ := mkHid hZ
  obtain ⟨W, hW⟩ : ∃ W, W = w.alloc (.cells #[.int .i64 16, .string nm, .string tx, .int .i64 nu, .slice a4 u.length c4, .slice a5 kd.length c5] 38) := ⟨_, rfl⟩
  have hbW : Below w.heap.size w W := by rw [hW]; exact (Below.refl _ _).alloc (Nat.le_refl _) _
  have hWs : w.heap.size < W.heap.size := by rw [hW]; simp
  have HbW := mkHid hbW
  have HW := mkHid hW
  clear hW hbW hU
  cases g1 : (nm.toList == [])
  · have hf : Hid (Z = false) := by rw [← hZ.out, g1]; rfl
    clear hZ
    go_enter Tryz.func41, Tryz.ntmps41
    go_wp2
    go_ret
    rw [← HW.out, hf.out]
    exact ⟨rfl, HbW.out⟩
  · cases g2 : (tx.toList == [])
    · have hf : Hid (Z = false) := by rw [← hZ.out, g1, g2]; rfl
      clear hZ
      go_enter Tryz.func41, Tryz.ntmps41
      go_wp2
      go_ret
      rw [← HW.out, hf.out]
      exact ⟨rfl, HbW.out⟩
    · cases g3 : (nu == 0)
      · have hf : Hid (Z = false) := by rw [← hZ.out, g1, g2, g3]; rfl
        clear hZ
        go_enter Tryz.func41, Tryz.ntmps41
        go_wp2
        go_ret
        rw [← HW.out, hf.out]
        exact ⟨rfl, HbW.out⟩
      · cases g4 : ((u.length : Int) == 0)
        · have hf : Hid (Z = false) := by rw [← hZ.out, g1, g2, g3, g4]; rfl
          clear hZ
          go_enter Tryz.func41, Tryz.ntmps41
          go_wp2
          go_ret
          rw [← HW.out, hf.out]
          exact ⟨rfl, HbW.out⟩
        · cases g5 : decide ((2 : Int) ≤ (kd.length : Int))
          · have hf : Hid (Z = false) := by rw [← hZ.out, g1, g2, g3, g4, g5]; rfl
            clear hZ
            go_enter Tryz.func41, Tryz.ntmps41
            go_wp2
            go_ret
            rw [← HW.out, hf.out]
            exact ⟨rfl, HbW.out⟩
          · have hf : Hid (Z = true) := by rw [← hZ.out, g1, g2, g3, g4, g5]; rfl
            clear hZ
            go_enter Tryz.func41, Tryz.ntmps41
            go_wp2
            go_ret
            rw [← HW.out, hf.out]
            exact ⟨rfl, HbW.out⟩
end Go.Proofs.YtfaeckaeaeadeaaGreatDoor
