
/- The specification's test of a query's node: some kinds. (By tools/gen/queryright.py.) -/
import Derived.Test.YtfaeckaeaeadeaaGreatDoorSpecQName
set_option linter.unusedVariables false
namespace Go.Proofs.YtfaeckaeaeadeaaGreatDoor
open Go.RowKit Go.Lib Go.Maps
set_option maxHeartbeats 8000000 in
set_option maxRecDepth 20000 in
theorem specQ4 (nm tx : ByteArray) (nu : Int) (u : List GRange) (kd : List Int) (a4 a5 : Option Addr) (c4 c5 lo : Nat) (w : World) (hU : GRangesL lo w.heap.size w a4 u) (hn : nm.size ≤ 1048576) (ht : tx.size ≤ 1048576) (hu : u.length ≤ 1048576) (hk : kd.length ≤ 1048576) :
    Calls Tryz.prog 41 #[.agg #[.int .i64 4, .string nm, .string tx, .int .i64 nu, .slice a4 u.length c4, .slice a5 kd.length c5]] w fun e w' => e = .returned (.bool (Qu.name nm && (decide ((tx.size : Int) ≤ 200) && ((nu == 0) && (((u.length : Int) == 0) && ((kd.length : Int) == 0)))))) ∧ Below w.heap.size w w' := by
  obtain ⟨Z, hZ⟩ : ∃ Z, (Qu.name nm && (decide ((tx.size : Int) ≤ 200) && ((nu == 0) && (((u.length : Int) == 0) && ((kd.length : Int) == 0))))) = Z := ⟨_, rfl⟩
  rw [hZ]
  replace hZ := mkHid hZ
  obtain ⟨W, hW⟩ : ∃ W, W = w.alloc (.cells #[.int .i64 4, .string nm, .string tx, .int .i64 nu, .slice a4 u.length c4, .slice a5 kd.length c5] 38) := ⟨_, rfl⟩
  have hbW : Below w.heap.size w W := by rw [hW]; exact (Below.refl _ _).alloc (Nat.le_refl _) _
  have hWs : w.heap.size < W.heap.size := by rw [hW]; simp
  have q0 : W.cell? ⟨w.heap.size, 0, none⟩ = some (.int .i64 4) := by rw [hW]; simp
  have q1 : W.cell? ⟨w.heap.size, 1, none⟩ = some (.string nm) := by rw [hW]; simp
  have q2 : W.cell? ⟨w.heap.size, 2, none⟩ = some (.string tx) := by rw [hW]; simp
  have q3 : W.cell? ⟨w.heap.size, 3, none⟩ = some (.int .i64 nu) := by rw [hW]; simp
  have q4 : W.cell? ⟨w.heap.size, 4, none⟩ = some (.slice a4 u.length c4) := by rw [hW]; simp
  have q5 : W.cell? ⟨w.heap.size, 5, none⟩ = some (.slice a5 kd.length c5) := by rw [hW]; simp
  have cC := mkHid (specQName nm W hn)
  have HbW := mkHid hbW
  have HW := mkHid hW
  clear hW hbW hU
  generalize Qu.name nm = B1 at *
  cases B1
  · have hf : Hid (Z = false) := by rw [← hZ.out]; rfl
    clear hZ
    go_enter Tryz.func41, Tryz.ntmps41
    go_wp2_with (go_at_call 63; fail)
    rw [← HW.out]
    refine cC.out.mono ?_
    rintro e wx ⟨rfl, rfl⟩
    have hbe := HbW
    clear cC HbW
    go_wp2
    go_ret
    rw [hf.out]
    exact ⟨rfl, hbe.out⟩
  · cases g2 : decide ((tx.size : Int) ≤ 200)
    · have hf : Hid (Z = false) := by rw [← hZ.out, g2]; rfl
      clear hZ
      go_enter Tryz.func41, Tryz.ntmps41
      go_wp2_with (go_at_call 63; fail)
      rw [← HW.out]
      refine cC.out.mono ?_
      rintro e wx ⟨rfl, rfl⟩
      have hbe := HbW
      clear cC HbW
      go_wp2
      go_ret
      rw [hf.out]
      exact ⟨rfl, hbe.out⟩
    · cases g3 : (nu == 0)
      · have hf : Hid (Z = false) := by rw [← hZ.out, g2, g3]; rfl
        clear hZ
        go_enter Tryz.func41, Tryz.ntmps41
        go_wp2_with (go_at_call 63; fail)
        rw [← HW.out]
        refine cC.out.mono ?_
        rintro e wx ⟨rfl, rfl⟩
        have hbe := HbW
        clear cC HbW
        go_wp2
        go_ret
        rw [hf.out]
        exact ⟨rfl, hbe.out⟩
      · cases g4 : ((u.length : Int) == 0)
        · have hf : Hid (Z = false) := by rw [← hZ.out, g2, g3, g4]; rfl
          clear hZ
          go_enter Tryz.func41, Tryz.ntmps41
          go_wp2_with (go_at_call 63; fail)
          rw [← HW.out]
          refine cC.out.mono ?_
          rintro e wx ⟨rfl, rfl⟩
          have hbe := HbW
          clear cC HbW
          go_wp2
          go_ret
          rw [hf.out]
          exact ⟨rfl, hbe.out⟩
        · cases g5 : ((kd.length : Int) == 0)
          · have hf : Hid (Z = false) := by rw [← hZ.out, g2, g3, g4, g5]; rfl
            clear hZ
            go_enter Tryz.func41, Tryz.ntmps41
            go_wp2_with (go_at_call 63; fail)
            rw [← HW.out]
            refine cC.out.mono ?_
            rintro e wx ⟨rfl, rfl⟩
            have hbe := HbW
            clear cC HbW
            go_wp2
            go_ret
            rw [hf.out]
            exact ⟨rfl, hbe.out⟩
          · have hf : Hid (Z = true) := by rw [← hZ.out, g2, g3, g4, g5]; rfl
            clear hZ
            go_enter Tryz.func41, Tryz.ntmps41
            go_wp2_with (go_at_call 63; fail)
            rw [← HW.out]
            refine cC.out.mono ?_
            rintro e wx ⟨rfl, rfl⟩
            have hbe := HbW
            clear cC HbW
            go_wp2
            go_ret
            rw [hf.out]
            exact ⟨rfl, hbe.out⟩
set_option maxHeartbeats 8000000 in
set_option maxRecDepth 20000 in
theorem specQ5 (nm tx : ByteArray) (nu : Int) (u : List GRange) (kd : List Int) (a4 a5 : Option Addr) (c4 c5 lo : Nat) (w : World) (hU : GRangesL lo w.heap.size w a4 u) (hn : nm.size ≤ 1048576) (ht : tx.size ≤ 1048576) (hu : u.length ≤ 1048576) (hk : kd.length ≤ 1048576) :
    Calls Tryz.prog 41 #[.agg #[.int .i64 5, .string nm, .string tx, .int .i64 nu, .slice a4 u.length c4, .slice a5 kd.length c5]] w fun e w' => e = .returned (.bool ((nm.toList == []) && (decide ((tx.size : Int) ≤ 200) && ((nu == 0) && (((u.length : Int) == 0) && ((kd.length : Int) == 0)))))) ∧ Below w.heap.size w w' := by
  obtain ⟨Z, hZ⟩ : ∃ Z, ((nm.toList == []) && (decide ((tx.size : Int) ≤ 200) && ((nu == 0) && (((u.length : Int) == 0) && ((kd.length : Int) == 0))))) = Z := ⟨_, rfl⟩
  rw [hZ]
  replace hZ := mkHid hZ
  obtain ⟨W, hW⟩ : ∃ W, W = w.alloc (.cells #[.int .i64 5, .string nm, .string tx, .int .i64 nu, .slice a4 u.length c4, .slice a5 kd.length c5] 38) := ⟨_, rfl⟩
  have hbW : Below w.heap.size w W := by rw [hW]; exact (Below.refl _ _).alloc (Nat.le_refl _) _
  have hWs : w.heap.size < W.heap.size := by rw [hW]; simp
  have HbW := mkHid hbW
  have HW := mkHid hW
  clear hW hbW hU
  cases g1 : (nm.toList == [])
  · have hf : Hid (Z = false) := by rw [← hZ.out, g1]; rfl
    clear hZ
    go_enter Tryz.func41, Tryz.ntmps41
    go_wp2
    go_ret
    rw [← HW.out, hf.out]
    exact ⟨rfl, HbW.out⟩
  · cases g2 : decide ((tx.size : Int) ≤ 200)
    · have hf : Hid (Z = false) := by rw [← hZ.out, g1, g2]; rfl
      clear hZ
      go_enter Tryz.func41, Tryz.ntmps41
      go_wp2
      go_ret
      rw [← HW.out, hf.out]
      exact ⟨rfl, HbW.out⟩
    · cases g3 : (nu == 0)
      · have hf : Hid (Z = false) := by rw [← hZ.out, g1, g2, g3]; rfl
        clear hZ
        go_enter Tryz.func41, Tryz.ntmps41
        go_wp2
        go_ret
        rw [← HW.out, hf.out]
        exact ⟨rfl, HbW.out⟩
      · cases g4 : ((u.length : Int) == 0)
        · have hf : Hid (Z = false) := by rw [← hZ.out, g1, g2, g3, g4]; rfl
          clear hZ
          go_enter Tryz.func41, Tryz.ntmps41
          go_wp2
          go_ret
          rw [← HW.out, hf.out]
          exact ⟨rfl, HbW.out⟩
        · cases g5 : ((kd.length : Int) == 0)
          · have hf : Hid (Z = false) := by rw [← hZ.out, g1, g2, g3, g4, g5]; rfl
            clear hZ
            go_enter Tryz.func41, Tryz.ntmps41
            go_wp2
            go_ret
            rw [← HW.out, hf.out]
            exact ⟨rfl, HbW.out⟩
          · have hf : Hid (Z = true) := by rw [← hZ.out, g1, g2, g3, g4, g5]; rfl
            clear hZ
            go_enter Tryz.func41, Tryz.ntmps41
            go_wp2
            go_ret
            rw [← HW.out, hf.out]
            exact ⟨rfl, HbW.out⟩
set_option maxHeartbeats 8000000 in
set_option maxRecDepth 20000 in
theorem specQ6 (nm tx : ByteArray) (nu : Int) (u : List GRange) (kd : List Int) (a4 a5 : Option Addr) (c4 c5 lo : Nat) (w : World) (hU : GRangesL lo w.heap.size w a4 u) (hn : nm.size ≤ 1048576) (ht : tx.size ≤ 1048576) (hu : u.length ≤ 1048576) (hk : kd.length ≤ 1048576) :
    Calls Tryz.prog 41 #[.agg #[.int .i64 6, .string nm, .string tx, .int .i64 nu, .slice a4 u.length c4, .slice a5 kd.length c5]] w fun e w' => e = .returned (.bool ((nm.toList == []) && (decide ((tx.size : Int) ≤ 200) && ((nu == 0) && (((u.length : Int) == 0) && ((kd.length : Int) == 0)))))) ∧ Below w.heap.size w w' := by
  obtain ⟨Z, hZ⟩ : ∃ Z, ((nm.toList == []) && (decide ((tx.size : Int) ≤ 200) && ((nu == 0) && (((u.length : Int) == 0) && ((kd.length : Int) == 0))))) = Z := ⟨_, rfl⟩
  rw [hZ]
  replace hZ := mkHid hZ
  obtain ⟨W, hW⟩ : ∃ W, W = w.alloc (.cells #[.int .i64 6, .string nm, .string tx, .int .i64 nu, .slice a4 u.length c4, .slice a5 kd.length c5] 38) := ⟨_, rfl⟩
  have hbW : Below w.heap.size w W := by rw [hW]; exact (Below.refl _ _).alloc (Nat.le_refl _) _
  have hWs : w.heap.size < W.heap.size := by rw [hW]; simp
  have HbW := mkHid hbW
  have HW := mkHid hW
  clear hW hbW hU
  cases g1 : (nm.toList == [])
  · have hf : Hid (Z = false) := by rw [← hZ.out, g1]; rfl
    clear hZ
    go_enter Tryz.func41, Tryz.ntmps41
    go_wp2
    go_ret
    rw [← HW.out, hf.out]
    exact ⟨rfl, HbW.out⟩
  · cases g2 : decide ((tx.size : Int) ≤ 200)
    · have hf : Hid (Z = false) := by rw [← hZ.out, g1, g2]; rfl
      clear hZ
      go_enter Tryz.func41, Tryz.ntmps41
      go_wp2
      go_ret
      rw [← HW.out, hf.out]
      exact ⟨rfl, HbW.out⟩
    · cases g3 : (nu == 0)
      · have hf : Hid (Z = false) := by rw [← hZ.out, g1, g2, g3]; rfl
        clear hZ
        go_enter Tryz.func41, Tryz.ntmps41
        go_wp2
        go_ret
        rw [← HW.out, hf.out]
        exact ⟨rfl, HbW.out⟩
      · cases g4 : ((u.length : Int) == 0)
        · have hf : Hid (Z = false) := by rw [← hZ.out, g1, g2, g3, g4]; rfl
          clear hZ
          go_enter Tryz.func41, Tryz.ntmps41
          go_wp2
          go_ret
          rw [← HW.out, hf.out]
          exact ⟨rfl, HbW.out⟩
        · cases g5 : ((kd.length : Int) == 0)
          · have hf : Hid (Z = false) := by rw [← hZ.out, g1, g2, g3, g4, g5]; rfl
            clear hZ
            go_enter Tryz.func41, Tryz.ntmps41
            go_wp2
            go_ret
            rw [← HW.out, hf.out]
            exact ⟨rfl, HbW.out⟩
          · have hf : Hid (Z = true) := by rw [← hZ.out, g1, g2, g3, g4, g5]; rfl
            clear hZ
            go_enter Tryz.func41, Tryz.ntmps41
            go_wp2
            go_ret
            rw [← HW.out, hf.out]
            exact ⟨rfl, HbW.out⟩
end Go.Proofs.YtfaeckaeaeadeaaGreatDoor
