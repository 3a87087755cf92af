
/- The specification's test of a query's node: some kinds. (By tools/gen/queryright.py.) -/
import Derived.Test.YtfaeckaeaeadeaaGreatDoorSpecQName
set_option linter.unusedVariables false
namespace Go.Proofs.YtfaeckaeaeadeaaGreatDoor
open Go.RowKit Go.Lib Go.Maps
set_option maxHeartbeats 8000000 in
set_option maxRecDepth 20000 in
theorem specQ10 (nm tx : ByteArray) (nu : Int) (u : List GRange) (kd : List Int) (a4 a5 : Option Addr) (c4 c5 lo : Nat) (w : World) (hU : GRangesL lo w.heap.size w a4 u) (hn : nm.size ≤ 1048576) (ht : tx.size ≤ 1048576) (hu : u.length ≤ 1048576) (hk : kd.length ≤ 1048576) :
    Calls Tryz.prog 41 #[.agg #[.int .i64 10, .string nm, .string tx, .int .i64 nu, .slice a4 u.length c4, .slice a5 kd.length c5]] w fun e w' => e = .returned (.bool ((nm.toList == []) && ((tx.toList == []) && ((decide (0 ≤ nu) && decide (nu ≤ 9999999999)) && (((u.length : Int) == 0) && ((kd.length : Int) == 0)))))) ∧ Below w.heap.size w w' := by
  obtain ⟨Z, hZ⟩ : ∃ Z, ((nm.toList == []) && ((tx.toList == []) && ((decide (0 ≤ nu) && decide (nu ≤ 9999999999)) && (((u.length : Int) == 0) && ((kd.length : Int) == 0))))) = Z := ⟨_, rfl⟩
  rw [hZ]
  replace hZ := mkHid hZ
  obtain ⟨W, hW⟩ : ∃ W, W = w.alloc (.cells #[.int .i64 10, .string nm, .string tx, .int .i64 nu, .slice a4 u.length c4, .slice a5 kd.length c5] 38) := ⟨_, rfl⟩
  have hbW : Below w.heap.size w W := by rw [hW]; exact (Below.refl _ _).alloc (Nat.le_refl _) _
  have hWs : w.heap.size < W.heap.size := by rw [hW]; simp
  have HbW := mkHid hbW
  have HW := mkHid hW
  clear hW hbW hU
  cases g0 : decide (0 ≤ nu)
  · cases g1 : (nm.toList == [])
    · have hf : Hid (Z = false) := by rw [← hZ.out, g1]; rfl
      clear hZ
      go_enter Tryz.func41, Tryz.ntmps41
      go_wp2
      go_ret
      rw [← HW.out, hf.out]
      exact ⟨rfl, HbW.out⟩
    · cases g2 : (tx.toList == [])
      · have hf : Hid (Z = false) := by rw [← hZ.out, g1, g2]; rfl
        clear hZ
        go_enter Tryz.func41, Tryz.ntmps41
        go_wp2
        go_ret
        rw [← HW.out, hf.out]
        exact ⟨rfl, HbW.out⟩
      · have hf : Hid (Z = false) := by rw [← hZ.out, g1, g2, g0]; rfl
        clear hZ
        go_enter Tryz.func41, Tryz.ntmps41
        go_wp2
        go_ret
        rw [← HW.out, hf.out]
        exact ⟨rfl, HbW.out⟩
  · cases g1 : (nm.toList == [])
    · have hf : Hid (Z = false) := by rw [← hZ.out, g1]; rfl
      clear hZ
      go_enter Tryz.func41, Tryz.ntmps41
      go_wp2
      go_ret
      rw [← HW.out, hf.out]
      exact ⟨rfl, HbW.out⟩
    · cases g2 : (tx.toList == [])
      · have hf : Hid (Z = false) := by rw [← hZ.out, g1, g2]; rfl
        clear hZ
        go_enter Tryz.func41, Tryz.ntmps41
        go_wp2
        go_ret
        rw [← HW.out, hf.out]
        exact ⟨rfl, HbW.out⟩
      · cases g3b : decide (nu ≤ 9999999999)
        · have hf : Hid (Z = false) := by rw [← hZ.out, g1, g2, g0, g3b]; rfl
          clear hZ
          go_enter Tryz.func41, Tryz.ntmps41
          go_wp2
          go_ret
          rw [← HW.out, hf.out]
          exact ⟨rfl, HbW.out⟩
        · cases g4 : ((u.length : Int) == 0)
          · have hf : Hid (Z = false) := by rw [← hZ.out, g1, g2, g0, g3b, g4]; rfl
            clear hZ
            go_enter Tryz.func41, Tryz.ntmps41
            go_wp2
            go_ret
            rw [← HW.out, hf.out]
            exact ⟨rfl, HbW.out⟩
          · cases g5 : ((kd.length : Int) == 0)
            · have hf : Hid (Z = false) := by rw [← hZ.out, g1, g2, g0, g3b, g4, g5]; rfl
              clear hZ
              go_enter Tryz.func41, Tryz.ntmps41
              go_wp2
              go_ret
              rw [← HW.out, hf.out]
              exact ⟨rfl, HbW.out⟩
            · have hf : Hid (Z = true) := by rw [← hZ.out, g1, g2, g0, g3b, g4, g5]; rfl
              clear hZ
              go_enter Tryz.func41, Tryz.ntmps41
              go_wp2
              go_ret
              rw [← HW.out, hf.out]
              exact ⟨rfl, HbW.out⟩
set_option maxHeartbeats 8000000 in
set_option maxRecDepth 20000 in
theorem specQ11 (nm tx : ByteArray) (nu : Int) (u : List GRange) (kd : List Int) (a4 a5 : Option Addr) (c4 c5 lo : Nat) (w : World) (hU : GRangesL lo w.heap.size w a4 u) (hn : nm.size ≤ 1048576) (ht : tx.size ≤ 1048576) (hu : u.length ≤ 1048576) (hk : kd.length ≤ 1048576) :
    Calls Tryz.prog 41 #[.agg #[.int .i64 11, .string nm, .string tx, .int .i64 nu, .slice a4 u.length c4, .slice a5 kd.length c5]] w fun e w' => e = .returned (.bool ((nm.toList == []) && ((tx.toList == []) && ((decide (0 ≤ nu) && decide (nu ≤ 9999999999)) && (((u.length : Int) == 0) && ((kd.length : Int) == 0)))))) ∧ Below w.heap.size w w' := by
  obtain ⟨Z, hZ⟩ : ∃ Z, ((nm.toList == []) && ((tx.toList == []) && ((decide (0 ≤ nu) && decide (nu ≤ 9999999999)) && (((u.length : Int) == 0) && ((kd.length : Int) == 0))))) = Z := ⟨_, rfl⟩
  rw [hZ]
  replace hZ := mkHid hZ
  obtain ⟨W, hW⟩ : ∃ W, W = w.alloc (.cells #[.int .i64 11, .string nm, .string tx, .int .i64 nu, .slice a4 u.length c4, .slice a5 kd.length c5] 38) := ⟨_, rfl⟩
  have hbW : Below w.heap.size w W := by rw [hW]; exact (Below.refl _ _).alloc (Nat.le_refl _) _
  have hWs : w.heap.size < W.heap.size := by rw [hW]; simp
  have HbW := mkHid hbW
  have HW := mkHid hW
  clear hW hbW hU
  cases g0 : decide (0 ≤ nu)
  · cases g1 : (nm.toList == [])
    · have hf : Hid (Z = false) := by rw [← hZ.out, g1]; rfl
      clear hZ
      go_enter Tryz.func41, Tryz.ntmps41
      go_wp2
      go_ret
      rw [← HW.out, hf.out]
      exact ⟨rfl, HbW.out⟩
    · cases g2 : (tx.toList == [])
      · have hf : Hid (Z = false) := by rw [← hZ.out, g1, g2]; rfl
        clear hZ
        go_enter Tryz.func41, Tryz.ntmps41
        go_wp2
        go_ret
        rw [← HW.out, hf.out]
        exact ⟨rfl, HbW.out⟩
      · have hf : Hid (Z = false) := by rw [← hZ.out, g1, g2, g0]; rfl
        clear hZ
        go_enter Tryz.func41, Tryz.ntmps41
        go_wp2
        go_ret
        rw [← HW.out, hf.out]
        exact ⟨rfl, HbW.out⟩
  · cases g1 : (nm.toList == [])
    · have hf : Hid (Z = false) := by rw [← hZ.out, g1]; rfl
      clear hZ
      go_enter Tryz.func41, Tryz.ntmps41
      go_wp2
      go_ret
      rw [← HW.out, hf.out]
      exact ⟨rfl, HbW.out⟩
    · cases g2 : (tx.toList == [])
      · have hf : Hid (Z = false) := by rw [← hZ.out, g1, g2]; rfl
        clear hZ
        go_enter Tryz.func41, Tryz.ntmps41
        go_wp2
        go_ret
        rw [← HW.out, hf.out]
        exact ⟨rfl, HbW.out⟩
      · cases g3b : decide (nu ≤ 9999999999)
        · have hf : Hid (Z = false) := by rw [← hZ.out, g1, g2, g0, g3b]; rfl
          clear hZ
          go_enter Tryz.func41, Tryz.ntmps41
          go_wp2
          go_ret
          rw [← HW.out, hf.out]
          exact ⟨rfl, HbW.out⟩
        · cases g4 : ((u.length : Int) == 0)
          · have hf : Hid (Z = false) := by rw [← hZ.out, g1, g2, g0, g3b, g4]; rfl
            clear hZ
            go_enter Tryz.func41, Tryz.ntmps41
            go_wp2
            go_ret
            rw [← HW.out, hf.out]
            exact ⟨rfl, HbW.out⟩
          · cases g5 : ((kd.length : Int) == 0)
            · have hf : Hid (Z = false) := by rw [← hZ.out, g1, g2, g0, g3b, g4, g5]; rfl
              clear hZ
              go_enter Tryz.func41, Tryz.ntmps41
              go_wp2
              go_ret
              rw [← HW.out, hf.out]
              exact ⟨rfl, HbW.out⟩
            · have hf : Hid (Z = true) := by rw [← hZ.out, g1, g2, g0, g3b, g4, g5]; rfl
              clear hZ
              go_enter Tryz.func41, Tryz.ntmps41
              go_wp2
              go_ret
              rw [← HW.out, hf.out]
              exact ⟨rfl, HbW.out⟩
set_option maxHeartbeats 8000000 in
set_option maxRecDepth 20000 in
theorem specQ13 (nm tx : ByteArray) (nu : Int) (u : List GRange) (kd : List Int) (a4 a5 : Option Addr) (c4 c5 lo : Nat) (w : World) (hU : GRangesL lo w.heap.size w a4 u) (hn : nm.size ≤ 1048576) (ht : tx.size ≤ 1048576) (hu : u.length ≤ 1048576) (hk : kd.length ≤ 1048576) :
    Calls Tryz.prog 41 #[.agg #[.int .i64 13, .string nm, .string tx, .int .i64 nu, .slice a4 u.length c4, .slice a5 kd.length c5]] w fun e w' => e = .returned (.bool ((nm.toList == []) && ((tx.toList == []) && ((decide (0 ≤ nu) && decide (nu ≤ 9999999999)) && (((u.length : Int) == 0) && ((kd.length : Int) == 0)))))) ∧ Below w.heap.size w w' := by
  obtain ⟨Z, hZ⟩ : ∃ Z, ((nm.toList == []) && ((tx.toList == []) && ((decide (0 ≤ nu) && decide (nu ≤ 9999999999)) && (((u.length : Int) == 0) && ((kd.length : Int) == 0))))) = Z := ⟨_, rfl⟩
  rw [hZ]
  replace hZ := mkHid hZ
  obtain ⟨W, hW⟩ : ∃ W, W = w.alloc (.cells #[.int .i64 13, .string nm, .string tx, .int .i64 nu, .slice a4 u.length c4, .slice a5 kd.length c5] 38) := ⟨_, rfl⟩
  have hbW : Below w.heap.size w W := by rw [hW]; exact (Below.refl _ _).alloc (Nat.le_refl _) _
  have hWs : w.heap.size < W.heap.size := by rw [hW]; simp
  have HbW := mkHid hbW
  have HW := mkHid hW
  clear hW hbW hU
  cases g0 : decide (0 ≤ nu)
  · cases g1 : (nm.toList == [])
    · have hf : Hid (Z = false) := by rw [← hZ.out, g1]; rfl
      clear hZ
      go_enter Tryz.func41, Tryz.ntmps41
      go_wp2
      go_ret
      rw [← HW.out, hf.out]
      exact ⟨rfl, HbW.out⟩
    · cases g2 : (tx.toList == [])
      · have hf : Hid (Z = false) := by rw [← hZ.out, g1, g2]; rfl
        clear hZ
        go_enter Tryz.func41, Tryz.ntmps41
        go_wp2
        go_ret
        rw [← HW.out, hf.out]
        exact ⟨rfl, HbW.out⟩
      · have hf : Hid (Z = false) := by rw [← hZ.out, g1, g2, g0]; rfl
        clear hZ
        go_enter Tryz.func41, Tryz.ntmps41
        go_wp2
        go_ret
        rw [← HW.out, hf.out]
        exact ⟨rfl, HbW.out⟩
  · cases g1 : (nm.toList == [])
    · have hf : Hid (Z = false) := by rw [← hZ.out, g1]; rfl
      clear hZ
      go_enter Tryz.func41, Tryz.ntmps41
      go_wp2
      go_ret
      rw [← HW.out, hf.out]
      exact ⟨rfl, HbW.out⟩
    · cases g2 : (tx.toList == [])
      · have hf : Hid (Z = false) := by rw [← hZ.out, g1, g2]; rfl
        clear hZ
        go_enter Tryz.func41, Tryz.ntmps41
        go_wp2
        go_ret
        rw [← HW.out, hf.out]
        exact ⟨rfl, HbW.out⟩
      · cases g3b : decide (nu ≤ 9999999999)
        · have hf : Hid (Z = false) := by rw [← hZ.out, g1, g2, g0, g3b]; rfl
          clear hZ
          go_enter Tryz.func41, Tryz.ntmps41
          go_wp2
          go_ret
          rw [← HW.out, hf.out]
          exact ⟨rfl, HbW.out⟩
        · cases g4 : ((u.length : Int) == 0)
          · have hf : Hid (Z = false) := by rw [← hZ.out, g1, g2, g0, g3b, g4]; rfl
            clear hZ
            go_enter Tryz.func41, Tryz.ntmps41
            go_wp2
            go_ret
            rw [← HW.out, hf.out]
            exact ⟨rfl, HbW.out⟩
          · cases g5 : ((kd.length : Int) == 0)
            · have hf : Hid (Z = false) := by rw [← hZ.out, g1, g2, g0, g3b, g4, g5]; rfl
              clear hZ
              go_enter Tryz.func41, Tryz.ntmps41
              go_wp2
              go_ret
              rw [← HW.out, hf.out]
              exact ⟨rfl, HbW.out⟩
            · have hf : Hid (Z = true) := by rw [← hZ.out, g1, g2, g0, g3b, g4, g5]; rfl
              clear hZ
              go_enter Tryz.func41, Tryz.ntmps41
              go_wp2
              go_ret
              rw [← HW.out, hf.out]
              exact ⟨rfl, HbW.out⟩
end Go.Proofs.YtfaeckaeaeadeaaGreatDoor
