
/- Lists of fields in memory: read, made anew, held against one another. -/
import Derived.Test.YtgabjiamabbheaaGreatDoorBlank
import Derived.Laws.MakeOwn
import Derived.Laws.OwnMore
import Derived.Deep.QuietTactic
import Derived.BigQuiet
import Derived.Deep.RegionWith
namespace Go.Proofs.YtgabjiamabbheaaGreatDoor
open Go.RowKit Go.Lib
set_option maxRecDepth 20000 in
theorem mkHid {p : Prop} (h : p) : Hid p := h
abbrev Fd := ByteArray × ByteArray
/-- The slice's elements, below a block, are these fields. -/
def Fld (B : Nat) (w : World) (o : Option Addr) (F : List Fd) : Prop :=
  ∀ i (h : i < F.length), ∃ a, o = some a ∧ a.block < B ∧ w.cell? (a.add (i * 2)) = some (.string F[i].1) ∧ w.cell? ⟨(a.add (i * 2)).block, (a.add (i * 2)).off + 1, none⟩ = some (.string F[i].2)
set_option maxRecDepth 20000 in
theorem add_block (a : Addr) (n : Nat) : (a.add n).block = a.block := by unfold Addr.add; split <;> rfl
set_option maxRecDepth 20000 in
theorem Fld.below {B : Nat} {w w' : World} {o : Option Addr} {F : List Fd} (h : Fld B w o F) (hb : Below B w w') : Fld B w' o F := by
  intro i hi
  obtain ⟨a, ho, ha, h0, h1⟩ := h i hi
  exact ⟨a, ho, ha, (hb.cell (by rw [add_block]; exact ha)).trans h0, (hb.cell (p := ⟨(a.add (i * 2)).block, (a.add (i * 2)).off + 1, none⟩) (show (a.add (i * 2)).block < B from by rw [add_block]; exact ha)).trans h1⟩
set_option maxRecDepth 20000 in
theorem Fld.mono {B B' : Nat} {w : World} {o : Option Addr} {F : List Fd} (h : Fld B w o F) (hB : B ≤ B') : Fld B' w o F := by
  intro i hi
  obtain ⟨a, ho, ha, h0, h1⟩ := h i hi
  exact ⟨a, ho, by omega, h0, h1⟩
set_option maxRecDepth 20000 in
theorem Tryz.info43 : (Tryz.prog.info? 51).map (fun i => (i.zero, i.size, i.bytes)) = some (some (.agg #[.string ⟨#[]⟩, .string ⟨#[]⟩]), 2, 32) := by kernel_rfl
end Go.Proofs.YtgabjiamabbheaaGreatDoor
