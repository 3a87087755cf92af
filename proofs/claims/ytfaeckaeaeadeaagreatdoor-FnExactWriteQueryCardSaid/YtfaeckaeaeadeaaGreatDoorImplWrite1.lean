
/- The table of a query's keys, as it lies in memory; the program's keyOf. (By tools/gen/qwtable.py.) -/
import Derived.Test.YtfaeckaeaeadeaaGreatDoorSpecWrite6
import Derived.Laws.Rows
namespace Go.Proofs.YtfaeckaeaeadeaaGreatDoor
open Go.RowKit Go.Lib Go.Maps
def qarr : Array Value := #[.string ⟨#[65, 76, 76]⟩, .int .i64 1, .string ⟨#[]⟩, .string ⟨#[83, 69, 69, 78]⟩, .int .i64 2, .string ⟨#[92, 83, 101, 101, 110]⟩, .string ⟨#[85, 78, 83, 69, 69, 78]⟩, .int .i64 3, .string ⟨#[92, 83, 101, 101, 110]⟩, .string ⟨#[70, 76, 65, 71, 71, 69, 68]⟩, .int .i64 2, .string ⟨#[92, 70, 108, 97, 103, 103, 101, 100]⟩, .string ⟨#[85, 78, 70, 76, 65, 71, 71, 69, 68]⟩, .int .i64 3, .string ⟨#[92, 70, 108, 97, 103, 103, 101, 100]⟩, .string ⟨#[68, 69, 76, 69, 84, 69, 68]⟩, .int .i64 2, .string ⟨#[92, 68, 101, 108, 101, 116, 101, 100]⟩, .string ⟨#[85, 78, 68, 69, 76, 69, 84, 69, 68]⟩, .int .i64 3, .string ⟨#[92, 68, 101, 108, 101, 116, 101, 100]⟩, .string ⟨#[65, 78, 83, 87, 69, 82, 69, 68]⟩, .int .i64 2, .string ⟨#[92, 65, 110, 115, 119, 101, 114, 101, 100]⟩, .string ⟨#[85, 78, 65, 78, 83, 87, 69, 82, 69, 68]⟩, .int .i64 3, .string ⟨#[92, 65, 110, 115, 119, 101, 114, 101, 100]⟩, .string ⟨#[75, 69, 89, 87, 79, 82, 68]⟩, .int .i64 2, .string ⟨#[]⟩, .string ⟨#[85, 78, 75, 69, 89, 87, 79, 82, 68]⟩, .int .i64 3, .string ⟨#[]⟩, .string ⟨#[70, 82, 79, 77]⟩, .int .i64 4, .string ⟨#[70, 114, 111, 109]⟩, .string ⟨#[84, 79]⟩, .int .i64 4, .string ⟨#[84, 111]⟩, .string ⟨#[67, 67]⟩, .int .i64 4, .string ⟨#[67, 99]⟩, .string ⟨#[83, 85, 66, 74, 69, 67, 84]⟩, .int .i64 4, .string ⟨#[83, 117, 98, 106, 101, 99, 116]⟩, .string ⟨#[72, 69, 65, 68, 69, 82]⟩, .int .i64 4, .string ⟨#[]⟩, .string ⟨#[66, 79, 68, 89]⟩, .int .i64 5, .string ⟨#[]⟩, .string ⟨#[84, 69, 88, 84]⟩, .int .i64 6, .string ⟨#[]⟩, .string ⟨#[83, 73, 78, 67, 69]⟩, .int .i64 7, .string ⟨#[]⟩, .string ⟨#[66, 69, 70, 79, 82, 69]⟩, .int .i64 8, .string ⟨#[]⟩, .string ⟨#[79, 78]⟩, .int .i64 9, .string ⟨#[]⟩, .string ⟨#[76, 65, 82, 71, 69, 82]⟩, .int .i64 10, .string ⟨#[]⟩, .string ⟨#[83, 77, 65, 76, 76, 69, 82]⟩, .int .i64 11, .string ⟨#[]⟩, .string ⟨#[77, 79, 68, 83, 69, 81]⟩, .int .i64 13, .string ⟨#[]⟩, .string ⟨#[85, 73, 68]⟩, .int .i64 12, .string ⟨#[]⟩, .string ⟨#[78, 79, 84]⟩, .int .i64 14, .string ⟨#[]⟩, .string ⟨#[79, 82]⟩, .int .i64 15, .string ⟨#[]⟩]
def Qw.rw_ (k : Nat) : List UInt8 × Int × List UInt8 := Qw.tb[k]?.getD ([], 0, [])
def QTab (w : World) : Prop := ∃ t fr, w.heap[1]? = some (.cells qarr t fr)
theorem QTab.on {w w' : World} (h : QTab w) (hb : Below w.heap.size w w') : QTab w' := by
  obtain ⟨t, fr, hh⟩ := h
  have hl : 1 < w.heap.size := by
    by_cases hg : 1 < w.heap.size
    · exact hg
    · rw [Array.getElem?_eq_none (by omega)] at hh; cases hh
  exact ⟨t, fr, by rw [hb.block _ hl]; exact hh⟩
theorem idxQ0 (w : World) : (Instr.index 97 (.agg qarr) (.int .i64 0)).run Tryz.prog w = .ok (.agg #[.string ⟨#[65, 76, 76]⟩, .int .i64 1, .string ⟨#[]⟩]) w := by kernel_rfl
theorem idxQ1 (w : World) : (Instr.index 97 (.agg qarr) (.int .i64 1)).run Tryz.prog w = .ok (.agg #[.string ⟨#[83, 69, 69, 78]⟩, .int .i64 2, .string ⟨#[92, 83, 101, 101, 110]⟩]) w := by kernel_rfl
theorem idxQ2 (w : World) : (Instr.index 97 (.agg qarr) (.int .i64 2)).run Tryz.prog w = .ok (.agg #[.string ⟨#[85, 78, 83, 69, 69, 78]⟩, .int .i64 3, .string ⟨#[92, 83, 101, 101, 110]⟩]) w := by kernel_rfl
theorem idxQ3 (w : World) : (Instr.index 97 (.agg qarr) (.int .i64 3)).run Tryz.prog w = .ok (.agg #[.string ⟨#[70, 76, 65, 71, 71, 69, 68]⟩, .int .i64 2, .string ⟨#[92, 70, 108, 97, 103, 103, 101, 100]⟩]) w := by kernel_rfl
theorem idxQ4 (w : World) : (Instr.index 97 (.agg qarr) (.int .i64 4)).run Tryz.prog w = .ok (.agg #[.string ⟨#[85, 78, 70, 76, 65, 71, 71, 69, 68]⟩, .int .i64 3, .string ⟨#[92, 70, 108, 97, 103, 103, 101, 100]⟩]) w := by kernel_rfl
theorem idxQ5 (w : World) : (Instr.index 97 (.agg qarr) (.int .i64 5)).run Tryz.prog w = .ok (.agg #[.string ⟨#[68, 69, 76, 69, 84, 69, 68]⟩, .int .i64 2, .string ⟨#[92, 68, 101, 108, 101, 116, 101, 100]⟩]) w := by kernel_rfl
theorem idxQ6 (w : World) : (Instr.index 97 (.agg qarr) (.int .i64 6)).run Tryz.prog w = .ok (.agg #[.string ⟨#[85, 78, 68, 69, 76, 69, 84, 69, 68]⟩, .int .i64 3, .string ⟨#[92, 68, 101, 108, 101, 116, 101, 100]⟩]) w := by kernel_rfl
theorem idxQ7 (w : World) : (Instr.index 97 (.agg qarr) (.int .i64 7)).run Tryz.prog w = .ok (.agg #[.string ⟨#[65, 78, 83, 87, 69, 82, 69, 68]⟩, .int .i64 2, .string ⟨#[92, 65, 110, 115, 119, 101, 114, 101, 100]⟩]) w := by kernel_rfl
theorem idxQ8 (w : World) : (Instr.index 97 (.agg qarr) (.int .i64 8)).run Tryz.prog w = .ok (.agg #[.string ⟨#[85, 78, 65, 78, 83, 87, 69, 82, 69, 68]⟩, .int .i64 3, .string ⟨#[92, 65, 110, 115, 119, 101, 114, 101, 100]⟩]) w := by kernel_rfl
theorem idxQ9 (w : World) : (Instr.index 97 (.agg qarr) (.int .i64 9)).run Tryz.prog w = .ok (.agg #[.string ⟨#[75, 69, 89, 87, 79, 82, 68]⟩, .int .i64 2, .string ⟨#[]⟩]) w := by kernel_rfl
theorem idxQ10 (w : World) : (Instr.index 97 (.agg qarr) (.int .i64 10)).run Tryz.prog w = .ok (.agg #[.string ⟨#[85, 78, 75, 69, 89, 87, 79, 82, 68]⟩, .int .i64 3, .string ⟨#[]⟩]) w := by kernel_rfl
theorem idxQ11 (w : World) : (Instr.index 97 (.agg qarr) (.int .i64 11)).run Tryz.prog w = .ok (.agg #[.string ⟨#[70, 82, 79, 77]⟩, .int .i64 4, .string ⟨#[70, 114, 111, 109]⟩]) w := by kernel_rfl
theorem idxQ12 (w : World) : (Instr.index 97 (.agg qarr) (.int .i64 12)).run Tryz.prog w = .ok (.agg #[.string ⟨#[84, 79]⟩, .int .i64 4, .string ⟨#[84, 111]⟩]) w := by kernel_rfl
theorem idxQ13 (w : World) : (Instr.index 97 (.agg qarr) (.int .i64 13)).run Tryz.prog w = .ok (.agg #[.string ⟨#[67, 67]⟩, .int .i64 4, .string ⟨#[67, 99]⟩]) w := by kernel_rfl
theorem idxQ14 (w : World) : (Instr.index 97 (.agg qarr) (.int .i64 14)).run Tryz.prog w = .ok (.agg #[.string ⟨#[83, 85, 66, 74, 69, 67, 84]⟩, .int .i64 4, .string ⟨#[83, 117, 98, 106, 101, 99, 116]⟩]) w := by kernel_rfl
theorem idxQ15 (w : World) : (Instr.index 97 (.agg qarr) (.int .i64 15)).run Tryz.prog w = .ok (.agg #[.string ⟨#[72, 69, 65, 68, 69, 82]⟩, .int .i64 4, .string ⟨#[]⟩]) w := by kernel_rfl
theorem idxQ16 (w : World) : (Instr.index 97 (.agg qarr) (.int .i64 16)).run Tryz.prog w = .ok (.agg #[.string ⟨#[66, 79, 68, 89]⟩, .int .i64 5, .string ⟨#[]⟩]) w := by kernel_rfl
theorem idxQ17 (w : World) : (Instr.index 97 (.agg qarr) (.int .i64 17)).run Tryz.prog w = .ok (.agg #[.string ⟨#[84, 69, 88, 84]⟩, .int .i64 6, .string ⟨#[]⟩]) w := by kernel_rfl
theorem idxQ18 (w : World) : (Instr.index 97 (.agg qarr) (.int .i64 18)).run Tryz.prog w = .ok (.agg #[.string ⟨#[83, 73, 78, 67, 69]⟩, .int .i64 7, .string ⟨#[]⟩]) w := by kernel_rfl
theorem idxQ19 (w : World) : (Instr.index 97 (.agg qarr) (.int .i64 19)).run Tryz.prog w = .ok (.agg #[.string ⟨#[66, 69, 70, 79, 82, 69]⟩, .int .i64 8, .string ⟨#[]⟩]) w := by kernel_rfl
theorem idxQ20 (w : World) : (Instr.index 97 (.agg qarr) (.int .i64 20)).run Tryz.prog w = .ok (.agg #[.string ⟨#[79, 78]⟩, .int .i64 9, .string ⟨#[]⟩]) w := by kernel_rfl
theorem idxQ21 (w : World) : (Instr.index 97 (.agg qarr) (.int .i64 21)).run Tryz.prog w = .ok (.agg #[.string ⟨#[76, 65, 82, 71, 69, 82]⟩, .int .i64 10, .string ⟨#[]⟩]) w := by kernel_rfl
theorem idxQ22 (w : World) : (Instr.index 97 (.agg qarr) (.int .i64 22)).run Tryz.prog w = .ok (.agg #[.string ⟨#[83, 77, 65, 76, 76, 69, 82]⟩, .int .i64 11, .string ⟨#[]⟩]) w := by kernel_rfl
theorem idxQ23 (w : World) : (Instr.index 97 (.agg qarr) (.int .i64 23)).run Tryz.prog w = .ok (.agg #[.string ⟨#[77, 79, 68, 83, 69, 81]⟩, .int .i64 13, .string ⟨#[]⟩]) w := by kernel_rfl
theorem idxQ24 (w : World) : (Instr.index 97 (.agg qarr) (.int .i64 24)).run Tryz.prog w = .ok (.agg #[.string ⟨#[85, 73, 68]⟩, .int .i64 12, .string ⟨#[]⟩]) w := by kernel_rfl
theorem idxQ25 (w : World) : (Instr.index 97 (.agg qarr) (.int .i64 25)).run Tryz.prog w = .ok (.agg #[.string ⟨#[78, 79, 84]⟩, .int .i64 14, .string ⟨#[]⟩]) w := by kernel_rfl
theorem idxQ26 (w : World) : (Instr.index 97 (.agg qarr) (.int .i64 26)).run Tryz.prog w = .ok (.agg #[.string ⟨#[79, 82]⟩, .int .i64 15, .string ⟨#[]⟩]) w := by kernel_rfl
theorem idxQ (k : Nat) (hk : k < 27) (w : World) : (Instr.index 97 (.agg qarr) (.int .i64 k)).run Tryz.prog w = .ok (.agg #[.string (txB (Qw.rw_ k).1), .int .i64 (Qw.rw_ k).2.1, .string (txB (Qw.rw_ k).2.2)]) w := by
  match k, hk with
  | 0, _ => exact idxQ0 w
  | 1, _ => exact idxQ1 w
  | 2, _ => exact idxQ2 w
  | 3, _ => exact idxQ3 w
  | 4, _ => exact idxQ4 w
  | 5, _ => exact idxQ5 w
  | 6, _ => exact idxQ6 w
  | 7, _ => exact idxQ7 w
  | 8, _ => exact idxQ8 w
  | 9, _ => exact idxQ9 w
  | 10, _ => exact idxQ10 w
  | 11, _ => exact idxQ11 w
  | 12, _ => exact idxQ12 w
  | 13, _ => exact idxQ13 w
  | 14, _ => exact idxQ14 w
  | 15, _ => exact idxQ15 w
  | 16, _ => exact idxQ16 w
  | 17, _ => exact idxQ17 w
  | 18, _ => exact idxQ18 w
  | 19, _ => exact idxQ19 w
  | 20, _ => exact idxQ20 w
  | 21, _ => exact idxQ21 w
  | 22, _ => exact idxQ22 w
  | 23, _ => exact idxQ23 w
  | 24, _ => exact idxQ24 w
  | 25, _ => exact idxQ25 w
  | 26, _ => exact idxQ26 w
  | n + 27, h => exact absurd h (by omega)
def Qw.lookFrom (k : Nat) (kd : Int) (nm : List UInt8) : List UInt8 := (((Qw.tb.drop k).find? fun r => (r.2.1 == kd) && (r.2.2 == nm)).map (·.1)).getD []
theorem Qw.lookFrom_step (k : Nat) (hk : k < 27) (kd : Int) (nm : List UInt8) : Qw.lookFrom k kd nm = if ((Qw.rw_ k).2.1 == kd) && ((Qw.rw_ k).2.2 == nm) then (Qw.rw_ k).1 else Qw.lookFrom (k + 1) kd nm := by
  have hl : k < Qw.tb.length := hk
  unfold Qw.lookFrom
  rw [List.drop_eq_getElem_cons hl, List.find?_cons]
  have e : Qw.rw_ k = Qw.tb[k] := by unfold Qw.rw_; rw [List.getElem?_eq_getElem hl]; rfl
  rw [e]
  cases (Qw.tb[k].2.1 == kd) && (Qw.tb[k].2.2 == nm) <;> rfl
theorem Qw.lookFrom_end (kd : Int) (nm : List UInt8) : Qw.lookFrom 27 kd nm = [] := rfl
set_option maxHeartbeats 4000000 in
set_option maxRecDepth 20000 in
theorem implKeyOf (kd : Int) (x : ByteArray) (w : World) (hQ : QTab w) :
    Calls Tryz.prog 55 #[.int .i64 kd, .string x] w fun e w' => e = .returned (.string (txB (Qw.look kd x.data.toList))) ∧ Below w.heap.size w w' := by
  obtain ⟨t, fr, h0⟩ := hQ
  obtain ⟨R, hR⟩ : ∃ R, Qw.look kd x.data.toList = R := ⟨_, rfl⟩
  rw [hR]
  replace hR : Hid (Qw.lookFrom 0 kd x.data.toList = R) := hR
  go_enter Tryz.func55, Tryz.ntmps55
  go_wp2_with (refine wpList_load_row rfl 97 _ rfl 1 rfl t qarr fr _ h0 Tryz.underlying97 rfl (by kernel_rfl) ?_)
  clear h0
  go_loopw [8] (fun i wr => ∃ k : Nat, k ≤ 27 ∧ i = .int .i64 k ∧ Hid (Qw.lookFrom k kd x.data.toList = R) ∧ Below w.heap.size w wr) (fun i _ => 27 - (Lib.intOf i).toNat)
  case atStart => exact ⟨0, Nat.zero_le _, rfl, hR, Below.refl _ _⟩
  case round =>
    clear hR
    obtain ⟨k, hk, rfl, hp, hb⟩ := hrel
    have hbs := hb.size
    by_cases hlt : k < 27
    · have hidx := idxQ k hlt wr
      have hst := Qw.lookFrom_step k hlt kd x.data.toList
      have hltI : decide ((k : Int) < 27) = true := by simp; omega
      obtain ⟨b2, hb2⟩ : ∃ b, ((txB (Qw.rw_ k).2.2).toList == x.toList) = b := ⟨_, rfl⟩
      have hb2' : ((Qw.rw_ k).2.2 == x.data.toList) = b2 := by rw [← hb2, ByteArray.toList_eq, ByteArray.toList_eq, txB_list]
      obtain ⟨b1, hb1⟩ : ∃ b, ((Qw.rw_ k).2.1 == kd) = b := ⟨_, rfl⟩
      rw [hb1, hb2', hp.out] at hst
      replace hst := mkHid hst
      clear hp hb2'
      generalize (Qw.rw_ k).1 = x1 at *
      generalize (Qw.rw_ k).2.1 = x2 at *
      generalize (Qw.rw_ k).2.2 = x3 at *
      have hBe := hb.alloc hbs (.cells #[.string (txB x1), .int .i64 x2, .string (txB x3)] 96)
      generalize txB x3 = t3 at *
      obtain ⟨t1, ht1⟩ : ∃ t1, txB x1 = t1 := ⟨_, rfl⟩
      rw [ht1] at hidx hBe
      replace ht1 := mkHid ht1
      cases b1
      · have hr : Hid (Qw.lookFrom (k + 1) kd x.data.toList = R) := show _ = _ from by rw [hst.out]; rfl
        go_wp2
        go_roundw
        case rel => exact ⟨k + 1, by omega, by go_num, hr, hBe⟩
        case measure => simp [Lib.intOf]; omega
      · cases b2
        · have hr : Hid (Qw.lookFrom (k + 1) kd x.data.toList = R) := show _ = _ from by rw [hst.out]; rfl
          go_wp2
          go_roundw
          case rel => exact ⟨k + 1, by omega, by go_num, hr, hBe⟩
          case measure => simp [Lib.intOf]; omega
        · have hr : Hid (txB R = t1) := show _ = _ from by rw [← ht1.out, hst.out]; rfl
          go_wp2
          go_ret
          rw [hr.out]
          exact ⟨rfl, hBe⟩
    · obtain rfl : k = 27 := by omega
      have hr : Hid (txB R = ⟨#[]⟩) := show _ = _ from by rw [← hp.out]; rfl
      clear hp
      go_wp2
      go_ret
      rw [hr.out]
      exact ⟨rfl, hb⟩
end Go.Proofs.YtfaeckaeaeadeaaGreatDoor
