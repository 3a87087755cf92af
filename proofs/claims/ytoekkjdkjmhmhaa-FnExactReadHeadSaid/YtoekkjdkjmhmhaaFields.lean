
/- Lists of fields in memory: read, made anew, held against one another. -/
import Derived.Test.YtoekkjdkjmhmhaaBlank
import Derived.Laws.MakeOwn
import Derived.Laws.OwnMore
import Derived.Deep.QuietTactic
import Derived.BigQuiet
import Derived.Deep.RegionWith
namespace Go.Proofs.Ytoekkjdkjmhmhaa
open Go.RowKit Go.Lib
theorem mkHid {p : Prop} (h : p) : Hid p := h
abbrev Fd := ByteArray × ByteArray
/-- The slice's elements, below a block, are these fields. -/
def Fld (B : Nat) (w : World) (o : Option Addr) (F : List Fd) : Prop :=
  ∀ i (h : i < F.length), ∃ a, o = some a ∧ a.block < B ∧ w.cell? (a.add (i * 2)) = some (.string F[i].1) ∧ w.cell? ⟨(a.add (i * 2)).block, (a.add (i * 2)).off + 1, none⟩ = some (.string F[i].2)
theorem add_block (a : Addr) (n : Nat) : (a.add n).block = a.block := by unfold Addr.add; split <;> rfl
theorem Fld.below {B : Nat} {w w' : World} {o : Option Addr} {F : List Fd} (h : Fld B w o F) (hb : Below B w w') : Fld B w' o F := by
  intro i hi
  obtain ⟨a, ho, ha, h0, h1⟩ := h i hi
  exact ⟨a, ho, ha, (hb.cell (by rw [add_block]; exact ha)).trans h0, (hb.cell (p := ⟨(a.add (i * 2)).block, (a.add (i * 2)).off + 1, none⟩) (show (a.add (i * 2)).block < B from by rw [add_block]; exact ha)).trans h1⟩
theorem Fld.mono {B B' : Nat} {w : World} {o : Option Addr} {F : List Fd} (h : Fld B w o F) (hB : B ≤ B') : Fld B' w o F := by
  intro i hi
  obtain ⟨a, ho, ha, h0, h1⟩ := h i hi
  exact ⟨a, ho, by omega, h0, h1⟩
theorem Try.info43 : (Try.prog.info? 34).map (fun i => (i.zero, i.size, i.bytes)) = some (some (.agg #[.string ⟨#[]⟩, .string ⟨#[]⟩]), 2, 32) := by kernel_rfl
set_option maxHeartbeats 400000 in
theorem lawEqField (n v : ByteArray) (w : World) :
    Calls Try.prog 26 #[.agg #[.string n, .string v], .agg #[.string n, .string v]] w fun e w' => e = .returned (.bool true) ∧ Below w.heap.size w w' := by
  go_enter Try.func26, Try.ntmps26
  go_wp2
  go_ret
  exact ⟨rfl, ((Below.refl _ _).alloc (Nat.le_refl _) _).alloc (by simp) _⟩
set_option maxHeartbeats 1000000 in
theorem lawEqFieldS (a b : Addr) (F : List Fd) (cap cap' : Nat) (w : World) (hF : Fld w.heap.size w (some a) F) (hG : Fld w.heap.size w (some b) F) (hlen : F.length ≤ 1048576) :
    Calls Try.prog 18 #[.slice (some a) F.length cap, .slice (some b) F.length cap'] w fun e w' => e = .returned (.bool true) ∧ Below w.heap.size w w' := by
  have HF : Hid (Fld w.heap.size w (some a) F) := hF
  have HG : Hid (Fld w.heap.size w (some b) F) := hG
  clear hF hG
  go_enter Try.func18, Try.ntmps18
  go_wp2
  go_loopw [5] (fun i wr => ∃ k : Nat, k ≤ F.length ∧ i = .int .i64 k ∧ Below w.heap.size w wr) (fun i _ => F.length - (Lib.intOf i).toNat)
  case atStart => exact ⟨0, Nat.zero_le _, rfl, Below.refl _ _⟩
  case round =>
    obtain ⟨k, hk, rfl, hb⟩ := hrel
    by_cases hlt : k < F.length
    · obtain ⟨a', ea, ha, hc0, hc1⟩ := (HF.out.below hb) k hlt
      obtain ⟨b', eb, hb', hd0, hd1⟩ := (HG.out.below hb) k hlt
      cases ea
      cases eb
      generalize hf : F[k] = f at hc0 hc1 hd0 hd1
      clear hf
      have hq : Hid (∀ w, Calls Try.prog 26 #[.agg #[.string f.1, .string f.2], .agg #[.string f.1, .string f.2]] w fun e w' => e = .returned (.bool true) ∧ Below w.heap.size w w') := lawEqField f.1 f.2
      go_wp2_with fail
      go_region_with (go_at_call 26; (refine (hq.out _).mono ?_; rintro e w2 ⟨rfl, hb2⟩))
      all_goals
        have hbw := mkHid (hb.drew.trans (hb2.mono hb.size))
        go_wp2
        go_roundw
        case rel => exact ⟨k + 1, by omega, by go_num, hbw.out⟩
        case measure => simp [Lib.intOf]; omega
    · go_wp2
      go_ret
      exact ⟨rfl, hb⟩
end Go.Proofs.Ytoekkjdkjmhmhaa
