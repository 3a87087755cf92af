/- The marks on a list of texts that was answered: plain, and the walks. -/
import Derived.Test.YteelfejhedghfaaBase
import Derived.Test.YteelfejhedghfaaLinesStrs
import Derived.Deep.QuietTactic
import Derived.BigQuiet
import Derived.Deep.RegionWith
namespace Go.Proofs.Yteelfejhedghfaa
namespace Pl

def dg : Nat → Nat → List UInt8 → List UInt8
  | 0, _, out => out
  | f + 1, n, out => if n = 0 then out else dg f (n / 10) (UInt8.ofNat (48 + n % 10) :: out)

/-- What marks place n. -/
def mark (n : Nat) : List UInt8 := 109 :: dg n n []

theorem dg_zero (f : Nat) (out : List UInt8) : dg f 0 out = out := by
  cases f <;> simp [dg]
theorem dg_step (f n : Nat) (out : List UInt8) (h : 0 < n) (hf : n ≤ f) : dg f n out = dg (f - 1) (n / 10) (UInt8.ofNat (48 + n % 10) :: out) := by
  obtain ⟨g, rfl⟩ : ∃ g, f = g + 1 := ⟨f - 1, by omega⟩
  rw [dg, if_neg (by omega)]
  rfl
theorem cat_mk (a b : List UInt8) : (⟨a.toArray⟩ : ByteArray) ++ ⟨b.toArray⟩ = ⟨(a ++ b).toArray⟩ := by
  apply ByteArray.ext
  simp
end Pl
end Go.Proofs.Yteelfejhedghfaa
namespace Go.Proofs.Yteelfejhedghfaa
namespace Pl
/-- The first i marks. -/
def marks (i : Nat) : List (List UInt8) := (List.range i).map fun j => mark (j + 1)
theorem marks_len (i : Nat) : (marks i).length = i := by simp [marks]
theorem marks_get (i j : Nat) (h : j < (marks i).length) : (marks i)[j] = mark (j + 1) := by simp [marks]
theorem marks_set (ls : List (List UInt8)) (i : Nat) (h : i < ls.length) : (marks i ++ ls.drop i).set i (mark (i + 1)) = marks (i + 1) ++ ls.drop (i + 1) := by
  rw [List.drop_eq_getElem_cons h]
  have e : marks (i + 1) = marks i ++ [mark (i + 1)] := by simp [marks, List.range_succ]
  rw [e, List.set_append, if_neg (by rw [marks_len]; omega), marks_len, Nat.sub_self, List.set_cons_zero, List.append_assoc]
  rfl
end Pl
end Go.Proofs.Yteelfejhedghfaa
namespace Go.Proofs.Yteelfejhedghfaa
open Go.RowKit Go.Lib
set_option maxHeartbeats 400000 in
theorem markText (n : Nat) (w : World) (h0 : 0 < n) (hn : n ≤ 1000000) :
    Calls Try.prog 15 #[.int .i64 n] w fun e w' => e = .returned (.string ⟨(Pl.mark n).toArray⟩) ∧ Below w.heap.size w w' := by
  have ht : decide ((n : Int) ≤ 0) = false := by simp; omega
  go_enter Try.func15, Try.ntmps15
  go_wp2
  go_loopw [0, 3] (fun t v wr => ∃ (f k : Nat) (out : List UInt8), t = .int .i64 k ∧ v = .string ⟨out.toArray⟩ ∧ k ≤ n ∧ out.length + k ≤ n ∧ k ≤ f ∧ Hid (Pl.dg f k out = Pl.dg n n []) ∧ Below w.heap.size w wr) (fun t _ _ => (RowKit.intOf t).toNat)
  case atStart => exact ⟨n, n, [], rfl, rfl, Nat.le_refl _, by simp, Nat.le_refl _, rfl, Below.refl _ _⟩
  case round =>
    obtain ⟨f, k, out, rfl, rfl, hk, hl, hf, hd, hb⟩ := hrel
    by_cases hk0 : 0 < k
    · have hst := Pl.dg_step f k out hk0 hf
      have hu : ((UInt8.ofNat (48 + k % 10)).toNat : Int) = 48 + (k : Int) % 10 := by
        rw [UInt8.toNat_ofNat_of_lt' (by simp [UInt8.size]; omega)]
        omega
      generalize UInt8.ofNat (48 + k % 10) = d at hst hu
      have Hst := mkHidL hst
      have hcv : (convert 39 9 (.slice (some ⟨wr.heap.size, 0, none⟩) 1 1)).run Try.prog (wr.alloc (.cells #[.int .u8 (48 + (k : Int) % 10)] 5)) = .ok (.string ⟨#[d]⟩) (wr.alloc (.cells #[.int .u8 (48 + (k : Int) % 10)] 5)) := by
        refine run_convert_bytes_back (P := Try.prog) _ 39 9 5 ⟨wr.heap.size, 0, none⟩ 1 [d] Try.underlying39 Try.underlying5 Try.underlying9 ?_
        intro j hj
        match j, hj with
        | 0, hj => rw [add_off]; simp only [List.getElem_cons_zero, hu]; simp
      have hbs := hb.size
      clear hu hst
      go_wp2
      go_roundw
      case rel => exact ⟨f - 1, k / 10, d :: out, by go_num, congrArg Value.string (Pl.cat_mk [d] out), by omega, by simp; omega, by omega, (Hst.out.symm.trans hd.out), hb.alloc hbs _⟩
      case measure => simp [RowKit.intOf]; omega
    · have hk0' : k = 0 := by omega
      subst hk0'
      have hd' : Hid (out = Pl.dg n n []) := by have := hd.out; rw [Pl.dg_zero] at this; exact this
      clear hd
      go_wp2
      go_ret
      refine ⟨?_, hb⟩
      rw [Pl.mark, ← hd'.out]
      exact congrArg (fun x => Ending.returned (Value.string x)) (Pl.cat_mk [109] out)
theorem OwnS.row {B : Nat} {v : Value} {ps : List (List UInt8)} {w : World} (h : OwnS B v ps w) : ∃ ao cap, v = .slice ao ps.length cap ∧ ∀ (j : Nat) (hj : j < ps.length), ∃ g, g < w.heap.size ∧ ao = some ⟨g, 0, none⟩ ∧ w.cell? ⟨g, j, none⟩ = some (txtL ps[j]) := by
  rcases h.form with ⟨hv, h0⟩ | ⟨g, cap, hv, hB, hg, -⟩
  · subst h0
    exact ⟨none, 0, hv, fun j hj => by simp at hj⟩
  · subst hv
    exact ⟨_, cap, rfl, fun j hj => ⟨g, hg, rfl, h.cell j hj⟩⟩
def RowS (ao : Option Addr) (ls : List (List UInt8)) (w : World) : Prop := ∀ (j : Nat) (hj : j < ls.length), ∃ g, g < w.heap.size ∧ ao = some ⟨g, 0, none⟩ ∧ w.cell? ⟨g, j, none⟩ = some (txtL ls[j])
set_option maxHeartbeats 400000 in
theorem eqStrs (a1 a2 : Option Addr) (c1 c2 : Nat) (ls : List (List UInt8)) (w : World) (hl : ls.length ≤ 1000000) (h1 : RowS a1 ls w) (h2 : RowS a2 ls w) :
    Calls Try.prog 6 #[.slice a1 ls.length c1, .slice a2 ls.length c2] w fun e w' => e = .returned (.bool true) ∧ Below w.heap.size w w' := by
  go_enter Try.func6, Try.ntmps6
  go_wp2
  go_loopw [5] (fun i wr => ∃ k : Nat, k ≤ ls.length ∧ i = .int .i64 k ∧ Below w.heap.size w wr) (fun i _ => ls.length - (RowKit.intOf i).toNat)
  case atStart => exact ⟨0, Nat.zero_le _, rfl, Below.refl _ _⟩
  case round =>
    obtain ⟨k, hk, rfl, hb⟩ := hrel
    by_cases hlt : k < ls.length
    · obtain ⟨g1, hg1, e1, hc1⟩ := h1 k hlt
      obtain ⟨g2, hg2, e2, hc2⟩ := h2 k hlt
      have hr1 := (hb.cell (p := ⟨g1, k, none⟩) hg1).trans hc1
      have hr2 := (hb.cell (p := ⟨g2, k, none⟩) hg2).trans hc2
      unfold txtL at hr1 hr2
      generalize ls[k] = x at hr1 hr2
      clear h1 h2 hc1 hc2
      subst e1 e2
      go_wp2
      go_quiet (fail)
      go_wp2
      go_roundw
      case rel => exact ⟨k + 1, by omega, by go_num, below_drewN hb _⟩
      case measure => simp [RowKit.intOf]; omega
    · go_wp2
      go_ret
      exact ⟨rfl, hb⟩
theorem OwnS.stored {B g cap : Nat} {ls : List (List UInt8)} {w : World} (h : OwnS B (.slice (some ⟨g, 0, none⟩) ls.length cap) ls w) (j : Nat) (x : List UInt8) :
    OwnS B (.slice (some ⟨g, 0, none⟩) ls.length cap) (ls.set j x) (w.setCell ⟨g, j, none⟩ (txtL x)) := by
  have := (World.ownsRow.stored h j (txtL x)).1
  unfold OwnS
  rw [List.length_set, List.map_set]
  exact this
set_option maxHeartbeats 400000 in
theorem markStrs (ao : Option Addr) (cap B : Nat) (ls : List (List UInt8)) (w : World) (hl : ls.length ≤ 900000) (h : OwnS B (.slice ao ls.length cap) ls w) (hB : B ≤ w.heap.size) :
    Calls Try.prog 7 #[.slice ao ls.length cap, .int .i64 1] w fun e w' => e = .returned (.int .i64 (1 + ls.length)) ∧ OwnS B (.slice ao ls.length cap) (Pl.marks ls.length) w' ∧ Below B w w' := by
  go_enter Try.func7, Try.ntmps7
  go_wp2
  go_loopw [1, 5] (fun m i wr => ∃ k : Nat, k ≤ ls.length ∧ i = .int .i64 k ∧ m = .int .i64 (1 + k) ∧ OwnS B (.slice ao ls.length cap) (Pl.marks k ++ ls.drop k) wr ∧ Below B w wr) (fun _ i _ => ls.length - (RowKit.intOf i).toNat)
  case atStart => exact ⟨0, Nat.zero_le _, rfl, rfl, h, Below.refl _ _⟩
  case round =>
    obtain ⟨k, hk, rfl, rfl, hown, hb⟩ := hrel
    have hbs := hb.size
    by_cases hlt : k < ls.length
    · have hlen : (Pl.marks k ++ ls.drop k).length = ls.length := by simp [Pl.marks_len]; omega
      rcases hown.form with ⟨-, h0⟩ | ⟨g, cap', hv, hg, hgs, -⟩
      · rw [h0] at hlen; simp at hlen; omega
      · obtain ⟨rfl, rfl⟩ : ao = some ⟨g, 0, none⟩ ∧ cap' = cap := by
          simp only [Value.slice.injEq] at hv
          exact ⟨hv.1, hv.2.2.symm⟩
        clear hv h
        have hset := mkHidL (Pl.marks_set ls k hlt)
        generalize Pl.marks k ++ ls.drop k = cur at *
        rw [← hlen] at hown
        go_wp2_with fail
        rw [show (1 + (k : Int)) = ((k + 1 : Nat) : Int) by omega]
        refine (markText (k + 1) _ (by omega) (by omega)).mono ?_
        rintro e w2 ⟨rfl, hb2⟩
        have hown2 := hown.keep (Nat.le_refl _) hb2
        have hc2 := hown2.cell k (by omega)
        have hf2 := World.ownsRow.frozenAt hown2 k
        have hst := hown2.stored k (Pl.mark (k + 1))
        have hbw := (hb.trans (hb2.mono (by omega))).setCell (p := ⟨g, k, none⟩) hg (txtL (Pl.mark (k + 1)))
        rw [hset.out, hlen] at hst
        unfold txtL at hbw hst hc2
        have Hst := mkHidL hst
        have Hbw := mkHidL hbw
        clear hst hbw hown hown2 hset
        go_wp2
        go_roundw
        case rel => exact ⟨k + 1, by omega, by go_num, by go_num, Hst.out, Hbw.out⟩
        case measure => simp [RowKit.intOf]; omega
    · have hk' : k = ls.length := by omega
      subst hk'
      rw [List.drop_length, List.append_nil] at hown
      go_wp2
      go_ret
      exact ⟨rfl, hown, hb⟩
end Go.Proofs.Yteelfejhedghfaa
namespace Go.Proofs.Yteelfejhedghfaa
open Go.RowKit Go.Lib
set_option maxHeartbeats 1000000 in
theorem heldStrs (ao : Option Addr) (n cap : Nat) (w : World) (hl : n ≤ 900000) (h : RowS ao (Pl.marks n) w) :
    Calls Try.prog 8 #[.slice ao n cap, .int .i64 1] w fun e w' => e = .returned (.int .i64 (1 + n)) ∧ Below w.heap.size w w' := by
  go_enter Try.func8, Try.ntmps8
  go_wp2
  go_loopw [1, 5] (fun m i wr => ∃ k : Nat, k ≤ n ∧ i = .int .i64 k ∧ m = .int .i64 (1 + k) ∧ Below w.heap.size w wr) (fun _ i _ => n - (RowKit.intOf i).toNat)
  case atStart => exact ⟨0, Nat.zero_le _, rfl, rfl, Below.refl _ _⟩
  case round =>
    obtain ⟨k, hk, rfl, rfl, hb⟩ := hrel
    by_cases hlt : k < n
    · obtain ⟨g, hg, e1, hc1⟩ := h k (by rw [Pl.marks_len]; exact hlt)
      rw [Pl.marks_get] at hc1
      have hr1 := (hb.cell (p := ⟨g, k, none⟩) hg).trans hc1
      have hc := fun (w2 : World) (hb2 : Below wr.heap.size wr w2) => (hb2.cell (p := ⟨g, k, none⟩) (Nat.lt_of_lt_of_le hg hb.size)).trans hr1
      unfold txtL at hr1 hc
      have Hc := mkHidL hc
      have hmk := mkHidL (fun W => markText (k + 1) W (by omega) (by omega))
      rw [show (((k + 1 : Nat)) : Int) = 1 + (k : Int) by omega] at hmk
      generalize Pl.mark (k + 1) = x at *
      clear h hc1 hc
      subst e1
      go_wp2
      go_region_with (go_at_call 15; (refine (hmk.out _).mono ?_; rintro e w2 ⟨rfl, hb2⟩; have hr2 := Hc.out w2 (((Below.refl wr.heap.size wr).drew).trans hb2)))
      all_goals
        have hbw := mkHidL (hb.drew.trans (hb2.mono hb.size))
        go_wp2
        go_roundw
        case rel => exact ⟨k + 1, by omega, by go_num, by go_num, hbw.out⟩
        case measure => simp [RowKit.intOf]; omega
    · have hk' : k = n := by omega
      subst hk'
      go_wp2
      go_ret
      exact ⟨rfl, hb⟩
end Go.Proofs.Yteelfejhedghfaa
