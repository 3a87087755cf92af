/- The walk of one group of digits. -/
import Derived.Test.YtgbhckokdjhpjaaDoorB64Bare
import Derived.Deep.RegionHeld3
import Derived.Deep.AppendLies
import Derived.Laws.BitsLemmas
namespace Go.Proofs.YtgbhckokdjhpjaaDoor
open Go.RowKit Go.Lib
/-- The table of digits lies in block 0. -/
def Tab (w : World) : Prop := ∀ (j : Nat), j < 64 → w.cell? ⟨0, j, none⟩ = some (.int .u8 ((Pb.d64 j).toNat : Int))
theorem one_cells (l : List UInt8) : ∀ u ∈ byteCells l, u.oneCell' = true := by
  intro u hu
  simp only [byteCells, List.mem_map] at hu
  obtain ⟨b, -, rfl⟩ := hu
  rfl
theorem or16 (a b : Nat) (_ha : a < 256) (hb : b < 256) : bits .or .u8 ((a : Int) * 16 % 64) ((b : Int) / 16) = ((a % 4 * 16 + b / 16 : Nat) : Int) := by
  rw [bits_join .u8 8 (by decide) wraps_u8 4 _ _ (by omega) (by omega) (by omega) (by omega) (by omega) (by omega)]
  omega
theorem or4 (a b : Nat) (_ha : a < 256) (hb : b < 256) : bits .or .u8 ((a : Int) * 4 % 64) ((b : Int) / 64) = ((a % 16 * 4 + b / 64 : Nat) : Int) := by
  rw [bits_join .u8 8 (by decide) wraps_u8 2 _ _ (by omega) (by omega) (by omega) (by omega) (by omega) (by omega)]
  omega
theorem or16r (a b : Nat) (ha : a < 256) (hb : b < 256) : bits .or .u8 (bits .and .u8 (IntKind.u8.wrap ((a : Int) * 16)) 63) ((b : Int) / 16) = ((a % 4 * 16 + b / 16 : Nat) : Int) := by
  rw [u8_and63 _ (by rw [IntKind.wrap_u8]; omega) (by rw [IntKind.wrap_u8]; omega), IntKind.wrap_u8, show ((a : Int) * 16 % 256 % 64) = (a : Int) * 16 % 64 by omega]
  exact or16 a b ha hb
theorem or4r (a b : Nat) (ha : a < 256) (hb : b < 256) : bits .or .u8 (bits .and .u8 (IntKind.u8.wrap ((a : Int) * 4)) 63) ((b : Int) / 64) = ((a % 16 * 4 + b / 64 : Nat) : Int) := by
  rw [u8_and63 _ (by rw [IntKind.wrap_u8]; omega) (by rw [IntKind.wrap_u8]; omega), IntKind.wrap_u8, show ((a : Int) * 4 % 256 % 64) = (a : Int) * 4 % 64 by omega]
  exact or4 a b ha hb
theorem and63r (c : Nat) (hc : c < 256) : bits .and .u8 (c : Int) 63 = ((c % 64 : Nat) : Int) := by
  rw [u8_and63 _ (by omega) (by omega)]; omega
set_option maxHeartbeats 1000000 in
theorem implGroup (B : Nat) (v : Value) (p : List UInt8) (a b c : UInt8) (W w : World) (hown : Own B v p w) (hT : Tab w) (hB0 : 0 < B) (hBW : B ≤ W.heap.size) (hb : Below B W w) (hl : p.length ≤ 1000000) :
    Calls Tryd.prog 24 #[v, .int .u8 (a.toNat : Int), .int .u8 (b.toNat : Int), .int .u8 (c.toNat : Int)] w fun e w' => ∃ v', e = .returned v' ∧ Own B v' (p ++ Pb.group a b c) w' ∧ Below B W w' := by
  obtain ⟨i0, hi, hz0, hz1, hz2⟩ := info_parts Tryd.info5
  have ha8 : a.toNat < 256 := UInt8.toNat_lt _
  have hb8 : b.toNat < 256 := UInt8.toNat_lt _
  have hc8 : c.toNat < 256 := UInt8.toNat_lt _
  have e1 := hT (a.toNat / 4) (by omega)
  have e2 := hT (a.toNat % 4 * 16 + b.toNat / 16) (by omega)
  have e3 := hT (b.toNat % 16 * 4 + c.toNat / 64) (by omega)
  have e4 := hT (c.toNat % 64) (by omega)
  have hg : Hid (Pb.group a b c = [Pb.d64 (a.toNat / 4), Pb.d64 (a.toNat % 4 * 16 + b.toNat / 16), Pb.d64 (b.toNat % 16 * 4 + c.toNat / 64), Pb.d64 (c.toNat % 64)]) := rfl
  have x1 : (a.toNat : Int) / 4 = ((a.toNat / 4 : Nat) : Int) := by omega
  have x2 := or16 a.toNat b.toNat ha8 hb8
  have x3 := or4 b.toNat c.toNat hb8 hc8
  have x4 : (c.toNat : Int) % 64 = ((c.toNat % 64 : Nat) : Int) := by omega
  have y2 := or16r a.toNat b.toNat ha8 hb8
  have y3 := or4r b.toNat c.toNat hb8 hc8
  have y4 := and63r c.toNat hc8
  have l1 : a.toNat / 4 < 64 := by omega
  have l2 : a.toNat % 4 * 16 + b.toNat / 16 < 64 := by omega
  have l3 : b.toNat % 16 * 4 + c.toNat / 64 < 64 := by omega
  have l4 : c.toNat % 64 < 64 := by omega
  generalize a.toNat / 4 = i1 at *
  generalize a.toNat % 4 * 16 + b.toNat / 16 = i2 at *
  generalize b.toNat % 16 * 4 + c.toNat / 64 = i3 at *
  generalize c.toNat % 64 = i4 at *
  generalize Pb.d64 i1 = d1 at *
  generalize Pb.d64 i2 = d2 at *
  generalize Pb.d64 i3 = d3 at *
  generalize Pb.d64 i4 = d4 at *
  have m1 : (i1 : Int) < 64 := by omega
  have m2 : (i2 : Int) < 64 := by omega
  have m3 : (i3 : Int) < 64 := by omega
  have m4 : (i4 : Int) < 64 := by omega
  have hbs := hb.size
  have hBw : B ≤ w.heap.size := by omega
  go_enter Tryd.func24, Tryd.ntmps24
  go_wp2
  go_region_held3 (fun w' => w'.cell? ⟨0, i1, none⟩ = some (.int .u8 (d1.toNat : Int)) ∧ w'.cell? ⟨0, i2, none⟩ = some (.int .u8 (d2.toNat : Int)) ∧ w'.cell? ⟨0, i3, none⟩ = some (.int .u8 (d3.toNat : Int)) ∧ w'.cell? ⟨0, i4, none⟩ = some (.int .u8 (d4.toNat : Int))) (first | exact ⟨k1, k2, k3, k4⟩ | go_keep) ((refine step_append_lies _ (by rfl) _ _ 27 (by rfl) B 5 i0 (.int .u8 0) 1 1 Tryd.underlying27 hi hz0 hz1 hz2 rfl (by decide) v p.length (byteCells p) (by rfl) (by exact World.ownsRow.alloc hown _) ⟨w.heap.size, 0, none⟩ 4 4 (byteCells [d1, d2, d3, d4]) (by rfl) (by rfl) (World.news_of_block (cs := #[.int .u8 (d1.toNat : Int), .int .u8 (d2.toNat : Int), .int .u8 (d3.toNat : Int), .int .u8 (d4.toNat : Int)]) (heap_alloc_new w _)) (one_cells _) (by decide) (by unfold maxLen; omega) (by omega) (by simp; omega) (w.heap.size + 1) (by simp) ?_; intro g cap w1 hown1 hgrow hat hlt1; have hbw := (((Below.refl B w).alloc hBw _).drew.grown hgrow (by simp; omega) (fun k hk => (World.ownsRow.lt hown k hk).1)); have k1 := (hbw.cell (p := ⟨0, i1, none⟩) hB0).trans e1; have k2 := (hbw.cell (p := ⟨0, i2, none⟩) hB0).trans e2; have k3 := (hbw.cell (p := ⟨0, i3, none⟩) hB0).trans e3; have k4 := (hbw.cell (p := ⟨0, i4, none⟩) hB0).trans e4))
  go_wp2
  go_ret
  refine ⟨_, rfl, ?_, hb.trans hbw⟩
  rw [hg.out]
  unfold Own
  rw [byteCells_append, List.length_append]
  exact hown1
end Go.Proofs.YtgbhckokdjhpjaaDoor
