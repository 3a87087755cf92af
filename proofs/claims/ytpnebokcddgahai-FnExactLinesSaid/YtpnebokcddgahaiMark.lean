/- The walks of the marks on texts. -/
import Derived.Test.YtpnebokcddgahaiStuff
import Derived.Test.YtpnebokcddgahaiMarkPlain
import Derived.Deep.QuietTactic
import Derived.BigQuiet
namespace Go.Proofs.Ytpnebokcddgahai
open Go.RowKit Go.Lib
set_option maxHeartbeats 400000 in
theorem markText (n : Nat) (w : World) (h0 : 0 < n) (hn : n ≤ 1000000) :
    Calls Try.prog 22 #[.int .i64 n] w fun e w' => e = .returned (.string ⟨(Pl.mark n).toArray⟩) ∧ Below w.heap.size w w' := by
  have ht : decide ((n : Int) ≤ 0) = false := by simp; omega
  go_enter Try.func22, Try.ntmps22
  go_wp2
  go_loopw [0, 3] (fun t v wr => ∃ (f k : Nat) (out : List UInt8), t = .int .i64 k ∧ v = .string ⟨out.toArray⟩ ∧ k ≤ n ∧ out.length + k ≤ n ∧ k ≤ f ∧ Hid (Pl.dg f k out = Pl.dg n n []) ∧ Below w.heap.size w wr) (fun t _ _ => (RowKit.intOf t).toNat)
  case atStart => exact ⟨n, n, [], rfl, rfl, Nat.le_refl _, by simp, Nat.le_refl _, rfl, Below.refl _ _⟩
  case round =>
    obtain ⟨f, k, out, rfl, rfl, hk, hl, hf, hd, hb⟩ := hrel
    by_cases hk0 : 0 < k
    · have hst := Pl.dg_step f k out hk0 hf
      have hu : ((UInt8.ofNat (48 + k % 10)).toNat : Int) = 48 + (k : Int) % 10 := by
        rw [UInt8.toNat_ofNat_of_lt' (by simp [UInt8.size]; omega)]
        omega
      generalize UInt8.ofNat (48 + k % 10) = d at hst hu
      have Hst := mkHid hst
      have hcv : (convert 35 9 (.slice (some ⟨wr.heap.size, 0, none⟩) 1 1)).run Try.prog (wr.alloc (.cells #[.int .u8 (48 + (k : Int) % 10)] 5)) = .ok (.string ⟨#[d]⟩) (wr.alloc (.cells #[.int .u8 (48 + (k : Int) % 10)] 5)) := by
        refine run_convert_bytes_back (P := Try.prog) _ 35 9 5 ⟨wr.heap.size, 0, none⟩ 1 [d] Try.underlying35 Try.underlying5 Try.underlying9 ?_
        intro j hj
        match j, hj with
        | 0, hj => rw [add_off]; simp only [List.getElem_cons_zero, hu]; simp
      have hbs := hb.size
      clear hu hst
      go_wp2
      go_roundw
      case rel => exact ⟨f - 1, k / 10, d :: out, by go_num, congrArg Value.string (Pl.cat_mk [d] out), by omega, by simp; omega, by omega, (Hst.out.symm.trans hd.out), hb.alloc hbs _⟩
      case measure => simp [RowKit.intOf]; omega
    · have hk0' : k = 0 := by omega
      subst hk0'
      have hd' : Hid (out = Pl.dg n n []) := by have := hd.out; rw [Pl.dg_zero] at this; exact this
      clear hd
      go_wp2
      go_ret
      refine ⟨?_, hb⟩
      rw [Pl.mark, ← hd'.out]
      exact congrArg (fun x => Ending.returned (Value.string x)) (Pl.cat_mk [109] out)
def RowS (ao : Option Addr) (ls : List (List UInt8)) (w : World) : Prop := ∀ (j : Nat) (hj : j < ls.length), ∃ g, g < w.heap.size ∧ ao = some ⟨g, 0, none⟩ ∧ w.cell? ⟨g, j, none⟩ = some (txt ls[j])
set_option maxHeartbeats 400000 in
theorem eqStrs (a1 a2 : Option Addr) (c1 c2 : Nat) (ls : List (List UInt8)) (w : World) (hl : ls.length ≤ 1000000) (h1 : RowS a1 ls w) (h2 : RowS a2 ls w) :
    Calls Try.prog 9 #[.slice a1 ls.length c1, .slice a2 ls.length c2] w fun e w' => e = .returned (.bool true) ∧ Below w.heap.size w w' := by
  go_enter Try.func9, Try.ntmps9
  go_wp2
  go_loopw [5] (fun i wr => ∃ k : Nat, k ≤ ls.length ∧ i = .int .i64 k ∧ Below w.heap.size w wr) (fun i _ => ls.length - (RowKit.intOf i).toNat)
  case atStart => exact ⟨0, Nat.zero_le _, rfl, Below.refl _ _⟩
  case round =>
    obtain ⟨k, hk, rfl, hb⟩ := hrel
    by_cases hlt : k < ls.length
    · obtain ⟨g1, hg1, e1, hc1⟩ := h1 k hlt
      obtain ⟨g2, hg2, e2, hc2⟩ := h2 k hlt
      have hr1 := (hb.cell (p := ⟨g1, k, none⟩) hg1).trans hc1
      have hr2 := (hb.cell (p := ⟨g2, k, none⟩) hg2).trans hc2
      unfold txt at hr1 hr2
      generalize ls[k] = x at hr1 hr2
      clear h1 h2 hc1 hc2
      subst e1 e2
      go_wp2
      go_quiet (fail)
      go_wp2
      go_roundw
      case rel => exact ⟨k + 1, by omega, by go_num, below_drewN hb _⟩
      case measure => simp [RowKit.intOf]; omega
    · go_wp2
      go_ret
      exact ⟨rfl, hb⟩
theorem OwnS.stored {B g cap : Nat} {ls : List (List UInt8)} {w : World} (h : OwnS B (.slice (some ⟨g, 0, none⟩) ls.length cap) ls w) (j : Nat) (x : List UInt8) :
    OwnS B (.slice (some ⟨g, 0, none⟩) ls.length cap) (ls.set j x) (w.setCell ⟨g, j, none⟩ (txt x)) := by
  have := (World.ownsRow.stored h j (txt x)).1
  unfold OwnS
  rw [List.length_set, List.map_set]
  exact this
set_option maxHeartbeats 400000 in
theorem markStrs (ao : Option Addr) (cap B : Nat) (ls : List (List UInt8)) (w : World) (hl : ls.length ≤ 900000) (h : OwnS B (.slice ao ls.length cap) ls w) (hB : B ≤ w.heap.size) :
    Calls Try.prog 10 #[.slice ao ls.length cap, .int .i64 1] w fun e w' => e = .returned (.int .i64 (1 + ls.length)) ∧ OwnS B (.slice ao ls.length cap) (Pl.marks ls.length) w' ∧ Below B w w' := by
  go_enter Try.func10, Try.ntmps10
  go_wp2
  go_loopw [1, 5] (fun m i wr => ∃ k : Nat, k ≤ ls.length ∧ i = .int .i64 k ∧ m = .int .i64 (1 + k) ∧ OwnS B (.slice ao ls.length cap) (Pl.marks k ++ ls.drop k) wr ∧ Below B w wr) (fun _ i _ => ls.length - (RowKit.intOf i).toNat)
  case atStart => exact ⟨0, Nat.zero_le _, rfl, rfl, h, Below.refl _ _⟩
  case round =>
    obtain ⟨k, hk, rfl, rfl, hown, hb⟩ := hrel
    have hbs := hb.size
    by_cases hlt : k < ls.length
    · have hlen : (Pl.marks k ++ ls.drop k).length = ls.length := by simp [Pl.marks_len]; omega
      rcases hown.form with ⟨-, h0⟩ | ⟨g, cap', hv, hg, hgs, -⟩
      · rw [h0] at hlen; simp at hlen; omega
      · obtain ⟨rfl, rfl⟩ : ao = some ⟨g, 0, none⟩ ∧ cap' = cap := by
          simp only [Value.slice.injEq] at hv
          exact ⟨hv.1, hv.2.2.symm⟩
        clear hv h
        have hset := mkHid (Pl.marks_set ls k hlt)
        generalize Pl.marks k ++ ls.drop k = cur at *
        rw [← hlen] at hown
        go_wp2_with fail
        rw [show (1 + (k : Int)) = ((k + 1 : Nat) : Int) by omega]
        refine (markText (k + 1) _ (by omega) (by omega)).mono ?_
        rintro e w2 ⟨rfl, hb2⟩
        have hown2 := hown.keep (Nat.le_refl _) hb2
        have hc2 := hown2.cell k (by omega)
        have hf2 := World.ownsRow.frozenAt hown2 k
        have hst := hown2.stored k (Pl.mark (k + 1))
        have hbw := (hb.trans (hb2.mono (by omega))).setCell (p := ⟨g, k, none⟩) hg (txt (Pl.mark (k + 1)))
        rw [hset.out, hlen] at hst
        unfold txt at hbw hst hc2
        have Hst := mkHid hst
        have Hbw := mkHid hbw
        clear hst hbw hown hown2 hset
        go_wp2
        go_roundw
        case rel => exact ⟨k + 1, by omega, by go_num, by go_num, Hst.out, Hbw.out⟩
        case measure => simp [RowKit.intOf]; omega
    · have hk' : k = ls.length := by omega
      subst hk'
      rw [List.drop_length, List.append_nil] at hown
      go_wp2
      go_ret
      exact ⟨rfl, hown, hb⟩
end Go.Proofs.Ytpnebokcddgahai
