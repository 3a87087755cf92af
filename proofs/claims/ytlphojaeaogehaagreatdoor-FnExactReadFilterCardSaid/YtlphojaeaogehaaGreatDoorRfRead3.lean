
/- The specification's reader of a script: may, want, take. -/

/- The specification's reader of a script: words of commands and tests, numbers, matches. (By tools/gen/rfread3.py.) -/
import Derived.Test.YtlphojaeaogehaaGreatDoorRfRead1
namespace Go.Proofs.YtlphojaeaogehaaGreatDoor
open Go.RowKit Go.Lib Go.Maps
set_option maxRecDepth 20000 in
theorem Ef.of_below {g : Nat} {r : Option Nat} {w w' : World} (h : Below w.heap.size w w') : Ef g r w w' := ⟨h.os, h.tape, h.output, h.size, fun k hk _ _ => h.block k hk⟩
set_option maxRecDepth 20000 in
theorem Ef.then_below {g : Nat} {r : Option Nat} {w w1 w2 : World} (h : Ef g r w w1) (hb : Below w1.heap.size w1 w2) : Ef g r w w2 :=
  ⟨hb.os.trans h.os, hb.tape.trans h.tape, hb.output.trans h.output, Nat.le_trans h.size hb.size, fun k hk hg hr => (hb.block k (Nat.lt_of_lt_of_le hk h.size)).trans (h.keep k hk hg hr)⟩
set_option maxRecDepth 20000 in
set_option maxHeartbeats 4000000 in
theorem specMayY (g : Nat) (tv : Value) (TE : List TkE) (i : Nat) (many : Bool) (v : Value) (E : List NdE) (w : World) (k : Nat) (t : ByteArray) (h : Rs g tv TE i false many v E w) (hi : i < TE.length) (hl : TE.length ≤ 100000) (hy : isE TE i k t = true) :
    Calls Tryz.prog 25 #[.pointer (some ⟨g, 0, none⟩), .int .u8 (k : Int), .string t] w fun e w' => e = .returned (.bool true) ∧ Rs g tv TE (i + 1) false many v E w' ∧ Ef g none w w' := by
  have cI := mkHid (specIs g tv TE i false many v E w k t h hi)
  have H := mkHid h
  clear h
  go_enter Tryz.func25, Tryz.ntmps25
  go_wp2_with (go_at_call 46; fail)
  refine cI.out.mono ?_
  rintro e w1 ⟨rfl, hb1⟩
  rw [hy]
  have h1 := H.out.below hb1
  obtain ⟨c0, c1, c2, c3, c4⟩ := five h1.blk
  have z1 : w1.frozen? ⟨g, 1, none⟩ = false := by simp [World.frozen?, h1.blk]
  have H2 := mkHid (h1.set 1 (.int .i64 ((i + 1 : Nat) : Int)) (i + 1) false many rfl)
  have E2 : Hid (Ef g none w (w1.setCell ⟨g, 1, none⟩ (.int .i64 ((i + 1 : Nat) : Int)))) := Ef.ahead hb1 (Ef.set g none w1 1 _)
  clear h1 hb1
  go_wp2
  go_ret
  rw [show (i : Int) + 1 = ((i + 1 : Nat) : Int) from by omega]
  exact ⟨rfl, H2.out, E2.out⟩
set_option maxRecDepth 20000 in
set_option maxHeartbeats 4000000 in
theorem specMayN (g : Nat) (tv : Value) (TE : List TkE) (i : Nat) (bad many : Bool) (v : Value) (E : List NdE) (w : World) (k : Nat) (t : ByteArray) (h : Rs g tv TE i bad many v E w) (hi : i < TE.length) (hy : (!bad && isE TE i k t) = false) :
    Calls Tryz.prog 25 #[.pointer (some ⟨g, 0, none⟩), .int .u8 (k : Int), .string t] w fun e w' => e = .returned (.bool false) ∧ Below w.heap.size w w' := by
  have cI := mkHid (specIs g tv TE i bad many v E w k t h hi)
  clear h
  go_enter Tryz.func25, Tryz.ntmps25
  go_wp2_with (go_at_call 46; fail)
  refine cI.out.mono ?_
  rintro e w1 ⟨rfl, hb1⟩
  rw [hy]
  replace hb1 := mkHid hb1
  go_wp2
  go_ret
  exact ⟨rfl, hb1.out⟩
set_option maxRecDepth 20000 in
set_option maxHeartbeats 4000000 in
theorem specWantY (g : Nat) (tv : Value) (TE : List TkE) (i : Nat) (many : Bool) (v : Value) (E : List NdE) (w : World) (k : Nat) (t : ByteArray) (h : Rs g tv TE i false many v E w) (hi : i < TE.length) (hl : TE.length ≤ 100000) (hy : isE TE i k t = true) :
    Calls Tryz.prog 31 #[.pointer (some ⟨g, 0, none⟩), .int .u8 (k : Int), .string t] w fun e w' => e = .returned (.tuple #[]) ∧ Rs g tv TE (i + 1) false many v E w' ∧ Ef g none w w' := by
  have cI := mkHid (specMayY g tv TE i many v E w k t h hi hl hy)
  clear h
  go_enter Tryz.func31, Tryz.ntmps31
  go_wp2_with (go_at_call 25; fail)
  refine cI.out.mono ?_
  rintro e w1 ⟨rfl, h1, e1⟩
  replace h1 := mkHid h1
  replace e1 := mkHid e1
  go_wp2
  exact bodyPost_end (v := .tuple #[]) (results_none Tryz.results31 _ _ _) rfl ⟨rfl, h1.out, e1.out⟩
set_option maxRecDepth 20000 in
set_option maxHeartbeats 4000000 in
theorem specWantN (g : Nat) (tv : Value) (TE : List TkE) (i : Nat) (bad many : Bool) (v : Value) (E : List NdE) (w : World) (k : Nat) (t : ByteArray) (h : Rs g tv TE i bad many v E w) (hi : i < TE.length) (hy : (!bad && isE TE i k t) = false) :
    Calls Tryz.prog 31 #[.pointer (some ⟨g, 0, none⟩), .int .u8 (k : Int), .string t] w fun e w' => e = .returned (.tuple #[]) ∧ Rs g tv TE i true many v E w' ∧ Ef g none w w' := by
  have cI := mkHid (specMayN g tv TE i bad many v E w k t h hi hy)
  have H := mkHid h
  clear h
  go_enter Tryz.func31, Tryz.ntmps31
  go_wp2_with (go_at_call 25; fail)
  refine cI.out.mono ?_
  rintro e w1 ⟨rfl, hb1⟩
  have h1 := H.out.below hb1
  obtain ⟨c0, c1, c2, c3, c4⟩ := five h1.blk
  have z1 : w1.frozen? ⟨g, 2, none⟩ = false := by simp [World.frozen?, h1.blk]
  have H2 := mkHid (h1.set 2 (.bool true) i true many rfl)
  have E2 : Hid (Ef g none w (w1.setCell ⟨g, 2, none⟩ (.bool true))) := Ef.ahead hb1 (Ef.set g none w1 2 _)
  clear h1 hb1
  go_wp2
  exact bodyPost_end (v := .tuple #[]) (results_none Tryz.results31 _ _ _) rfl ⟨rfl, H2.out, E2.out⟩
set_option maxRecDepth 20000 in
set_option maxHeartbeats 4000000 in
theorem specTakeN (g : Nat) (tv : Value) (TE : List TkE) (i : Nat) (bad many : Bool) (v : Value) (E : List NdE) (w : World) (k : Nat) (h : Rs g tv TE i bad many v E w) (hi : i < TE.length) (hy : bad = true ∨ TE[i].1 ≠ k) :
    Calls Tryz.prog 30 #[.pointer (some ⟨g, 0, none⟩), .int .u8 (k : Int)] w fun e w' => e = .returned (.string ⟨#[]⟩) ∧ Rs g tv TE i true many v E w' ∧ Ef g none w w' := by
  obtain ⟨c0, c1, c2, c3, c4⟩ := five h.blk
  obtain ⟨o, cap, rfl⟩ := h.tks.shape
  obtain ⟨q, rfl, -, -, e0, e1, e2⟩ := h.tks.at i hi
  have hii : (i : Int) < (TE.length : Int) := by omega
  have key : ∀ W, Below w.heap.size w W → Hid (W.frozen? ⟨g, 2, none⟩ = false ∧ W.cell? ⟨g, 2, none⟩ = some (.bool bad) ∧ Rs g (.slice (some ⟨q, 0, none⟩) TE.length cap) TE i true many v E (W.setCell ⟨g, 2, none⟩ (.bool true)) ∧ Ef g none w (W.setCell ⟨g, 2, none⟩ (.bool true))) := fun W hb => by
    have h1 := h.below hb
    exact ⟨by simp [World.frozen?, h1.blk], (five h1.blk).2.2.1, h1.set 2 (.bool true) i true many rfl, Ef.ahead hb (Ef.set g none W 2 _)⟩
  generalize TE[i].1 = k1 at *
  clear h
  cases bad
  · have hk : ((k1 : Int) != (k : Int)) = true := by
      rw [bne_iff_ne]
      intro e
      rcases hy with hy | hy
      · cases hy
      · exact hy (by omega)
    clear hy
    go_enter Tryz.func30, Tryz.ntmps30
    go_wp2
    go_quiet (fail)
    obtain ⟨z1, z0, K2⟩ := key (w.drewN nq) (below_drewN (Below.refl _ _) _)
    replace K2 := mkHid K2
    go_wp2
    go_ret
    exact ⟨rfl, K2.out.1, K2.out.2⟩
  · clear hy
    go_enter Tryz.func30, Tryz.ntmps30
    go_wp2
    go_quiet (fail)
    obtain ⟨z1, z0, K2⟩ := key (w.drewN nq) (below_drewN (Below.refl _ _) _)
    replace K2 := mkHid K2
    go_wp2
    go_ret
    exact ⟨rfl, K2.out.1, K2.out.2⟩
set_option maxRecDepth 20000 in
set_option maxHeartbeats 4000000 in
theorem specTakeY (g : Nat) (tv : Value) (TE : List TkE) (i : Nat) (many : Bool) (v : Value) (E : List NdE) (w : World) (k : Nat) (h : Rs g tv TE i false many v E w) (hi : i < TE.length) (hl : TE.length ≤ 100000) (hy : TE[i].1 = k) :
    Calls Tryz.prog 30 #[.pointer (some ⟨g, 0, none⟩), .int .u8 (k : Int)] w fun e w' => e = .returned (.string TE[i].2.1) ∧ Rs g tv TE (i + 1) false many v E w' ∧ Ef g none w w' := by
  obtain ⟨c0, c1, c2, c3, c4⟩ := five h.blk
  obtain ⟨o, cap, rfl⟩ := h.tks.shape
  obtain ⟨q, rfl, -, -, e0, e1, e2⟩ := h.tks.at i hi
  have hii : (i : Int) < (TE.length : Int) := by omega
  have key : ∀ W, Below w.heap.size w W → Hid (W.frozen? ⟨g, 1, none⟩ = false ∧ W.cell? ⟨g, 1, none⟩ = some (.int .i64 (i : Int)) ∧ W.cell? ⟨g, 0, none⟩ = some (.slice (some ⟨q, 0, none⟩) TE.length cap) ∧ Rs g (.slice (some ⟨q, 0, none⟩) TE.length cap) TE (i + 1) false many v E (W.setCell ⟨g, 1, none⟩ (.int .i64 ((i + 1 : Nat) : Int))) ∧ Ef g none w (W.setCell ⟨g, 1, none⟩ (.int .i64 ((i + 1 : Nat) : Int)))) := fun W hb => by
    have h1 := h.below hb
    exact ⟨by simp [World.frozen?, h1.blk], (five h1.blk).2.1, (five h1.blk).1, h1.set 1 (.int .i64 ((i + 1 : Nat) : Int)) (i + 1) false many rfl, Ef.ahead hb (Ef.set g none W 1 _)⟩
  have key2 : ∀ W j bad2, Rs g (.slice (some ⟨q, 0, none⟩) TE.length cap) TE j bad2 many v E W → Hid (W.cell? ⟨g, 0, none⟩ = some (.slice (some ⟨q, 0, none⟩) TE.length cap) ∧ W.cell? ⟨g, 1, none⟩ = some (.int .i64 (j : Int)) ∧ W.cell? ⟨q, i * 3 + 1, none⟩ = some (.string TE[i].2.1)) := fun W j bad2 h1 => by
    obtain ⟨q', hq', -, -, -, e1', -⟩ := h1.tks.at i hi
    cases hq'
    exact ⟨(five h1.blk).1, (five h1.blk).2.1, e1'⟩
  have hk : ((TE[i].1 : Int) != (k : Int)) = false := by
    rw [bne_eq_false_iff_eq, hy]
  generalize TE[i].1 = k1 at *
  generalize TE[i].2.1 = t1 at *
  clear h hy
  go_enter Tryz.func30, Tryz.ntmps30
  go_wp2
  go_quiet (fail)
  obtain ⟨z1, z0, z2, K2⟩ := key (w.drewN nq) (below_drewN (Below.refl _ _) _)
  obtain ⟨K3, K4⟩ := K2
  replace K3 := mkHid K3
  replace K4 := mkHid K4
  go_wp2
  rw [show (i : Int) + 1 = ((i + 1 : Nat) : Int) from by omega]
  generalize hW3 : (w.drewN nq).setCell ⟨g, 1, none⟩ (.int .i64 ((i + 1 : Nat) : Int)) = W3 at *
  obtain ⟨y0, y1, y2⟩ := key2 _ _ _ K3.out
  have hwi : IntKind.i64.wrap (i : Int) = (i : Int) := by unfold IntKind.wrap; simp [IntKind.bits, IntKind.signed]; omega
  go_wp2
  refine wp_region_quiet_lit (by kernel_rfl) (by kernel_rfl) ?_
  repeat (go_big_quiet_step (fail))
  refine wpQuiet_nil ?_
  rintro _ ⟨nq2, rfl⟩
  go_wp2
  go_ret
  exact ⟨rfl, K3.out.below (below_drewN (Below.refl _ _) _), K4.out.then_below (below_drewN (Below.refl _ _) _)⟩
end Go.Proofs.YtlphojaeaogehaaGreatDoor
namespace Go.Proofs.YtlphojaeaogehaaGreatDoor
open Go.RowKit Go.Lib Go.Maps
set_option maxRecDepth 20000 in
set_option maxHeartbeats 4000000 in
theorem specCmdW (t : ByteArray) (w : World) : Calls Tryz.prog 32 #[.string t] w fun e w' => e = .returned (.int .i64 (Rf.cmdK t.toList)) ∧ w = w' := by
  unfold Rf.cmdK
  cases h0 : (t.toList == [107, 101, 101, 112])
  case true =>
    rw [if_pos rfl]
    go_enter Tryz.func32, Tryz.ntmps32
    go_wp2
    go_ret
    exact ⟨rfl, rfl⟩
  cases h1 : (t.toList == [100, 105, 115, 99, 97, 114, 100])
  case true =>
    rw [if_neg (by decide), if_pos rfl]
    go_enter Tryz.func32, Tryz.ntmps32
    go_wp2
    go_ret
    exact ⟨rfl, rfl⟩
  cases h2 : (t.toList == [115, 116, 111, 112])
  case true =>
    rw [if_neg (by decide), if_neg (by decide), if_pos rfl]
    go_enter Tryz.func32, Tryz.ntmps32
    go_wp2
    go_ret
    exact ⟨rfl, rfl⟩
  cases h3 : (t.toList == [102, 105, 108, 101, 105, 110, 116, 111])
  case true =>
    rw [if_neg (by decide), if_neg (by decide), if_neg (by decide), if_pos rfl]
    go_enter Tryz.func32, Tryz.ntmps32
    go_wp2
    go_ret
    exact ⟨rfl, rfl⟩
  cases h4 : (t.toList == [114, 101, 100, 105, 114, 101, 99, 116])
  case true =>
    rw [if_neg (by decide), if_neg (by decide), if_neg (by decide), if_neg (by decide), if_pos rfl]
    go_enter Tryz.func32, Tryz.ntmps32
    go_wp2
    go_ret
    exact ⟨rfl, rfl⟩
  cases h5 : (t.toList == [114, 101, 106, 101, 99, 116])
  case true =>
    rw [if_neg (by decide), if_neg (by decide), if_neg (by decide), if_neg (by decide), if_neg (by decide), if_pos rfl]
    go_enter Tryz.func32, Tryz.ntmps32
    go_wp2
    go_ret
    exact ⟨rfl, rfl⟩
  cases h6 : (t.toList == [97, 100, 100, 102, 108, 97, 103])
  case true =>
    rw [if_neg (by decide), if_neg (by decide), if_neg (by decide), if_neg (by decide), if_neg (by decide), if_neg (by decide), if_pos rfl]
    go_enter Tryz.func32, Tryz.ntmps32
    go_wp2
    go_ret
    exact ⟨rfl, rfl⟩
  rw [if_neg (by decide), if_neg (by decide), if_neg (by decide), if_neg (by decide), if_neg (by decide), if_neg (by decide), if_neg (by decide)]
  go_enter Tryz.func32, Tryz.ntmps32
  go_wp2
  go_ret
  exact ⟨rfl, rfl⟩
set_option maxRecDepth 20000 in
set_option maxHeartbeats 4000000 in
theorem specTstW (t : ByteArray) (w : World) : Calls Tryz.prog 66 #[.string t] w fun e w' => e = .returned (.int .i64 (Rf.tstK t.toList)) ∧ w = w' := by
  unfold Rf.tstK
  cases h0 : (t.toList == [116, 114, 117, 101])
  case true =>
    rw [if_pos rfl]
    go_enter Tryz.func66, Tryz.ntmps66
    go_wp2
    go_ret
    exact ⟨rfl, rfl⟩
  cases h1 : (t.toList == [102, 97, 108, 115, 101])
  case true =>
    rw [if_neg (by decide), if_pos rfl]
    go_enter Tryz.func66, Tryz.ntmps66
    go_wp2
    go_ret
    exact ⟨rfl, rfl⟩
  cases h2 : (t.toList == [110, 111, 116])
  case true =>
    rw [if_neg (by decide), if_neg (by decide), if_pos rfl]
    go_enter Tryz.func66, Tryz.ntmps66
    go_wp2
    go_ret
    exact ⟨rfl, rfl⟩
  cases h3 : (t.toList == [97, 108, 108, 111, 102])
  case true =>
    rw [if_neg (by decide), if_neg (by decide), if_neg (by decide), if_pos rfl]
    go_enter Tryz.func66, Tryz.ntmps66
    go_wp2
    go_ret
    exact ⟨rfl, rfl⟩
  cases h4 : (t.toList == [97, 110, 121, 111, 102])
  case true =>
    rw [if_neg (by decide), if_neg (by decide), if_neg (by decide), if_neg (by decide), if_pos rfl]
    go_enter Tryz.func66, Tryz.ntmps66
    go_wp2
    go_ret
    exact ⟨rfl, rfl⟩
  cases h5 : (t.toList == [104, 101, 97, 100, 101, 114])
  case true =>
    rw [if_neg (by decide), if_neg (by decide), if_neg (by decide), if_neg (by decide), if_neg (by decide), if_pos rfl]
    go_enter Tryz.func66, Tryz.ntmps66
    go_wp2
    go_ret
    exact ⟨rfl, rfl⟩
  cases h6 : (t.toList == [97, 100, 100, 114, 101, 115, 115])
  case true =>
    rw [if_neg (by decide), if_neg (by decide), if_neg (by decide), if_neg (by decide), if_neg (by decide), if_neg (by decide), if_pos rfl]
    go_enter Tryz.func66, Tryz.ntmps66
    go_wp2
    go_ret
    exact ⟨rfl, rfl⟩
  cases h7 : (t.toList == [101, 110, 118, 101, 108, 111, 112, 101])
  case true =>
    rw [if_neg (by decide), if_neg (by decide), if_neg (by decide), if_neg (by decide), if_neg (by decide), if_neg (by decide), if_neg (by decide), if_pos rfl]
    go_enter Tryz.func66, Tryz.ntmps66
    go_wp2
    go_ret
    exact ⟨rfl, rfl⟩
  cases h8 : (t.toList == [101, 120, 105, 115, 116, 115])
  case true =>
    rw [if_neg (by decide), if_neg (by decide), if_neg (by decide), if_neg (by decide), if_neg (by decide), if_neg (by decide), if_neg (by decide), if_neg (by decide), if_pos rfl]
    go_enter Tryz.func66, Tryz.ntmps66
    go_wp2
    go_ret
    exact ⟨rfl, rfl⟩
  cases h9 : (t.toList == [115, 105, 122, 101])
  case true =>
    rw [if_neg (by decide), if_neg (by decide), if_neg (by decide), if_neg (by decide), if_neg (by decide), if_neg (by decide), if_neg (by decide), if_neg (by decide), if_neg (by decide), if_pos rfl]
    go_enter Tryz.func66, Tryz.ntmps66
    go_wp2
    go_ret
    exact ⟨rfl, rfl⟩
  cases h10 : (t.toList == [115, 116, 114, 105, 110, 103])
  case true =>
    rw [if_neg (by decide), if_neg (by decide), if_neg (by decide), if_neg (by decide), if_neg (by decide), if_neg (by decide), if_neg (by decide), if_neg (by decide), if_neg (by decide), if_neg (by decide), if_pos rfl]
    go_enter Tryz.func66, Tryz.ntmps66
    go_wp2
    go_ret
    exact ⟨rfl, rfl⟩
  rw [if_neg (by decide), if_neg (by decide), if_neg (by decide), if_neg (by decide), if_neg (by decide), if_neg (by decide), if_neg (by decide), if_neg (by decide), if_neg (by decide), if_neg (by decide), if_neg (by decide)]
  go_enter Tryz.func66, Tryz.ntmps66
  go_wp2
  go_ret
  exact ⟨rfl, rfl⟩
def Rf.numF (n : Nat) (l : List UInt8) : Nat := l.foldl (fun n c => 10 * n + (c.toNat - 48)) n
set_option maxRecDepth 20000 in
theorem Rf.numF_lt : ∀ (l : List UInt8) (n : Nat), l.all Rf.digK = true → Rf.numF n l < (n + 1) * 10 ^ l.length
  | [], n, _ => by simp [Rf.numF]
  | c :: r, n, h => by
    rw [List.all_cons, Bool.and_eq_true] at h
    have h1 := Rf.numF_lt r (10 * n + (c.toNat - 48)) h.2
    have h2 : c.toNat - 48 ≤ 9 := by
      have := h.1
      unfold Rf.digK at this
      simp only [Bool.and_eq_true, decide_eq_true_eq] at this
      omega
    have h3 : (10 * n + (c.toNat - 48) + 1) * 10 ^ r.length ≤ ((n + 1) * 10) * 10 ^ r.length := Nat.mul_le_mul_right _ (by omega)
    rw [List.length_cons, Nat.pow_succ, Nat.mul_comm (10 ^ r.length) 10, ← Nat.mul_assoc]
    exact Nat.lt_of_lt_of_le h1 h3
set_option maxRecDepth 20000 in
theorem Rf.num_lt (l : List UInt8) (h : l.all Rf.digK = true) (h9 : l.length ≤ 9) : Rf.num l < 1000000000 := by
  have h1 := Rf.numF_lt l 0 h
  have h2 : 10 ^ l.length ≤ 10 ^ 9 := Nat.pow_le_pow_right (by decide) h9
  have h3 : (10 : Nat) ^ 9 = 1000000000 := rfl
  show Rf.numF 0 l < _
  omega
set_option maxRecDepth 20000 in
set_option maxHeartbeats 4000000 in
theorem specNum9 (t : ByteArray) (w : World) (h1 : 1 ≤ t.size) (h9 : t.size ≤ 9) (hd : t.toList.all Rf.digK = true) : Calls Tryz.prog 48 #[.string t, .int .i64 9] w fun e w' => e = .returned (.int .i64 (Rf.num t.toList : Nat)) ∧ w = w' := by
  have htl : t.toList = t.data.toList := ByteArray.toList_eq t
  have hll : t.data.toList.length = t.size := by simp
  have he : (t.toList == []) = false := by
    rw [htl, beq_eq_false_iff_ne]; intro e; rw [e] at hll; simp at hll; omega
  rw [htl] at hd
  obtain ⟨Z, hZ⟩ : ∃ Z, Rf.num t.toList = Z := ⟨_, rfl⟩
  rw [hZ]
  have x1 : decide ((9 : Int) < (t.size : Int)) = false := decide_eq_false (by omega)
  have HZ : Hid (Rf.numF 0 (t.data.toList.drop 0) = Z) := by rw [htl] at hZ; exact hZ
  have Hll := mkHid hll
  have Hd : Hid (∀ (i : Nat) (h : i < t.size), 48 ≤ t[i].toNat ∧ t[i].toNat ≤ 57) := by
    show ∀ _ _, _
    intro i h
    have := List.all_eq_true.1 hd (t.data.toList[i]'(by rw [hll]; exact h)) (List.getElem_mem _)
    unfold Rf.digK at this
    simp only [Bool.and_eq_true, decide_eq_true_eq] at this
    exact this
  clear hZ htl hll hd
  go_enter Tryz.func48, Tryz.ntmps48
  go_wp2
  go_loopw [5, 6] (fun nv iv wr => ∃ i n : Nat, i ≤ t.size ∧ iv = .int .i64 i ∧ nv = .int .i64 (n : Int) ∧ Hid (n < 10 ^ i) ∧ n ≤ 1000000000 ∧ Hid (Rf.numF n (t.data.toList.drop i) = Z) ∧ wr = w) (fun _ iv _ => t.size - (Lib.intOf iv).toNat)
  case atStart => exact ⟨0, 0, Nat.zero_le _, rfl, rfl, by show (0 : Nat) < 10 ^ 0; decide, Nat.zero_le _, HZ, rfl⟩
  case round =>
    clear HZ
    obtain ⟨i, n, hi, rfl, rfl, hpw, hnb, hz, rfl⟩ := hrel
    by_cases hlt : i < t.size
    · have hli : i < t.data.toList.length := by rw [Hll.out]; exact hlt
      have hst := hz.out
      rw [List.drop_eq_getElem_cons hli, show t.data.toList[i]'hli = t[i] from rfl] at hst
      obtain ⟨y0, y1⟩ := Hd.out i hlt
      have hn9 : n ≤ 99999999 := by
        have h1' := hpw.out
        have h2' : 10 ^ i ≤ 10 ^ 8 := Nat.pow_le_pow_right (by decide) (by omega)
        have h3' : (10 : Nat) ^ 8 = 100000000 := rfl
        omega
      clear hz
      have u0 : decide ((t[i].toNat : Int) < 48) = false := decide_eq_false (by omega)
      have u1 : decide ((57 : Int) < (t[i].toNat : Int)) = false := decide_eq_false (by omega)
      obtain ⟨m, hm⟩ : ∃ m, m = 10 * n + (t[i].toNat - 48) := ⟨_, rfl⟩
      replace hst : Rf.numF m (t.data.toList.drop (i + 1)) = Z := by rw [hm]; exact hst
      have hpw2 : Hid (m < 10 ^ (i + 1)) := by
        show m < 10 ^ (i + 1)
        rw [Nat.pow_succ]
        have := hpw.out
        omega
      have hmb : m ≤ 1000000000 := by omega
      have hmI : (n : Int) * 10 + ((t[i].toNat : Int) - 48) = (m : Int) := by omega
      replace hst := mkHid hst
      replace hm := mkHid hm
      go_wp2
      go_roundw
      case rel => exact ⟨i + 1, m, by omega, by go_num, by first | (rw [← hmI]; go_num) | go_num, hpw2, hmb, hst, trivial⟩
      case measure => simp [Lib.intOf]; omega
    · have hr : Hid (Z = n) := by
        rw [← hz.out, List.drop_eq_nil_of_le (by rw [Hll.out]; omega)]
        rfl
      clear hz
      go_wp2
      go_ret
      rw [hr.out]
      exact ⟨rfl, rfl⟩
/-- Texts of numbers are digits, at most nine. -/
def GoodN (TE : List TkE) : Prop := ∀ e ∈ TE, e.1 = 110 → 1 ≤ e.2.1.size ∧ e.2.1.size ≤ 9 ∧ e.2.1.toList.all Rf.digK = true
set_option maxRecDepth 20000 in
set_option maxHeartbeats 4000000 in
theorem specNumberY (g : Nat) (tv : Value) (TE : List TkE) (i : Nat) (many : Bool) (v : Value) (E : List NdE) (w : World) (m : Nat) (h : Rs g tv TE i false many v E w) (hi : i < TE.length) (hl : TE.length ≤ 100000) (hg : GoodN TE) (hy : TE[i].1 = 110) (hm : Rf.num TE[i].2.1.toList ≤ m) :
    Calls Tryz.prog 27 #[.pointer (some ⟨g, 0, none⟩), .int .i64 (m : Int)] w fun e w' => e = .returned (.int .i64 (Rf.num TE[i].2.1.toList : Nat)) ∧ Rs g tv TE (i + 1) false many v E w' ∧ Ef g none w w' := by
  obtain ⟨n1, n2, n3⟩ := hg TE[i] (List.getElem_mem _) hy
  have hC : ∀ W : World, Calls Tryz.prog 48 #[.string TE[i].2.1, .int .i64 9] W fun e w' => e = .returned (.int .i64 (Rf.num TE[i].2.1.toList : Nat)) ∧ w' = W := fun W => (specNum9 TE[i].2.1 W n1 n2 n3).mono fun _ _ h => ⟨h.1, h.2.symm⟩
  have hlt := Rf.num_lt TE[i].2.1.toList n3 (by rw [ByteArray.toList_eq]; simpa using n2)
  have cT : ∀ W : World, Below w.heap.size w W → _ := fun W hb => specTakeY g tv TE i many v E W 110 (h.below hb) hi hl hy
  obtain ⟨c0, c1, c2, c3, c4⟩ := five h.blk
  obtain ⟨o, cap, rfl⟩ := h.tks.shape
  obtain ⟨q, rfl, -, -, e0, e1, e2⟩ := h.tks.at i hi
  have hii : (i : Int) < (TE.length : Int) := by omega
  have hk : ((TE[i].1 : Int) != 110) = false := by
    rw [bne_eq_false_iff_eq, hy]; rfl
  generalize TE[i].1 = k1 at *
  generalize TE[i].2.1 = t1 at *
  generalize Rf.num t1.toList = z at *
  have hd : decide ((m : Int) < (z : Int)) = false := decide_eq_false (by omega)
  replace hC := mkHid hC
  replace cT := mkHid cT
  clear h hg n1 n2 n3
  go_enter Tryz.func27, Tryz.ntmps27
  go_wp2
  go_quiet (exact Calls.quiet_of_same (hC.out _))
  go_wp2_with (go_at_call 30; fail)
  refine (cT.out _ (below_drewN (Below.refl _ _) _)).mono ?_
  rintro e w1 ⟨rfl, h1, e1⟩
  replace h1 := mkHid h1
  replace e1 := mkHid (Ef.ahead (below_drewN (Below.refl _ _) _) e1)
  go_wp2_with (go_at_call 48; fail)
  refine (hC.out _).mono ?_
  rintro e w2 ⟨rfl, rfl⟩
  go_wp2
  go_ret
  exact ⟨rfl, h1.out, e1.out⟩
set_option maxRecDepth 20000 in
set_option maxHeartbeats 4000000 in
theorem specNumberN (g : Nat) (tv : Value) (TE : List TkE) (i : Nat) (bad many : Bool) (v : Value) (E : List NdE) (w : World) (m : Nat) (h : Rs g tv TE i bad many v E w) (hi : i < TE.length) (hg : GoodN TE) (hy : bad = true ∨ TE[i].1 ≠ 110 ∨ m < Rf.num TE[i].2.1.toList) :
    Calls Tryz.prog 27 #[.pointer (some ⟨g, 0, none⟩), .int .i64 (m : Int)] w fun e w' => e = .returned (.int .i64 0) ∧ Rs g tv TE i true many v E w' ∧ Ef g none w w' := by
  have hC : ∀ W : World, TE[i].1 = 110 → Calls Tryz.prog 48 #[.string TE[i].2.1, .int .i64 9] W fun e w' => e = .returned (.int .i64 (Rf.num TE[i].2.1.toList : Nat)) ∧ w' = W := fun W hk => by
    obtain ⟨n1, n2, n3⟩ := hg TE[i] (List.getElem_mem _) hk
    exact (specNum9 TE[i].2.1 W n1 n2 n3).mono fun _ _ h => ⟨h.1, h.2.symm⟩
  obtain ⟨c0, c1, c2, c3, c4⟩ := five h.blk
  obtain ⟨o, cap, rfl⟩ := h.tks.shape
  obtain ⟨q, rfl, -, -, e0, e1, e2⟩ := h.tks.at i hi
  have hii : (i : Int) < (TE.length : Int) := by omega
  have key : ∀ W, Below w.heap.size w W → Hid (W.frozen? ⟨g, 2, none⟩ = false ∧ W.cell? ⟨g, 2, none⟩ = some (.bool bad) ∧ Rs g (.slice (some ⟨q, 0, none⟩) TE.length cap) TE i true many v E (W.setCell ⟨g, 2, none⟩ (.bool true)) ∧ Ef g none w (W.setCell ⟨g, 2, none⟩ (.bool true))) := fun W hb => by
    have h1 := h.below hb
    exact ⟨by simp [World.frozen?, h1.blk], (five h1.blk).2.2.1, h1.set 2 (.bool true) i true many rfl, Ef.ahead hb (Ef.set g none W 2 _)⟩
  generalize TE[i].1 = k1 at *
  generalize TE[i].2.1 = t1 at *
  generalize Rf.num t1.toList = z at *
  clear h hg
  cases bad
  · by_cases hk : k1 = 110
    · have hk1 : ((k1 : Int) != 110) = false := by rw [bne_eq_false_iff_eq, hk]; rfl
      have hmz : m < z := by rcases hy with hy | hy | hy; cases hy; exact absurd hk hy; exact hy
      have hd : decide ((m : Int) < (z : Int)) = true := decide_eq_true (by omega)
      replace hC := mkHid (fun W => hC W hk)
      clear hy hk
      go_enter Tryz.func27, Tryz.ntmps27
      go_wp2
      go_quiet (exact Calls.quiet_of_same (hC.out _))
      obtain ⟨z1, z0, K2⟩ := key (w.drewN nq) (below_drewN (Below.refl _ _) _)
      replace K2 := mkHid K2
      go_wp2
      go_ret
      exact ⟨rfl, K2.out.1, K2.out.2⟩
    · have hk1 : ((k1 : Int) != 110) = true := by rw [bne_iff_ne]; intro e; exact hk (by omega)
      clear hy hk hC
      go_enter Tryz.func27, Tryz.ntmps27
      go_wp2
      go_quiet (fail)
      obtain ⟨z1, z0, K2⟩ := key (w.drewN nq) (below_drewN (Below.refl _ _) _)
      replace K2 := mkHid K2
      go_wp2
      go_ret
      exact ⟨rfl, K2.out.1, K2.out.2⟩
  · clear hy hC
    go_enter Tryz.func27, Tryz.ntmps27
    go_wp2
    go_quiet (fail)
    obtain ⟨z1, z0, K2⟩ := key (w.drewN nq) (below_drewN (Below.refl _ _) _)
    replace K2 := mkHid K2
    go_wp2
    go_ret
    exact ⟨rfl, K2.out.1, K2.out.2⟩
set_option maxRecDepth 20000 in
set_option maxHeartbeats 4000000 in
theorem specMatch0 (g : Nat) (tv : Value) (TE : List TkE) (i : Nat) (many : Bool) (v : Value) (E : List NdE) (w : World) (h : Rs g tv TE i false many v E w) (hi : i < TE.length) (hl : TE.length ≤ 100000)  (hy : isE TE i 58 ⟨#[58, 105, 115]⟩ = true) :
    Calls Tryz.prog 68 #[.pointer (some ⟨g, 0, none⟩)] w fun e w' => e = .returned (.int .i64 0) ∧ Rs g tv TE (i + 1) false many v E w' ∧ Ef g none w w' := by
  have H := mkHid h
  clear h
  go_enter Tryz.func68, Tryz.ntmps68
  go_wp2_with (go_at_call 25; fail)
  refine (specMayY g tv TE i many v E _ 58 ⟨#[58, 105, 115]⟩ (H.out.below (Below.refl _ _)) hi hl hy).mono ?_
  rintro e w9 ⟨rfl, h9, e9⟩
  replace h9 := mkHid h9
  replace e9 := mkHid (Ef.ahead (Below.refl _ _) e9)
  go_wp2
  go_ret
  exact ⟨rfl, h9.out, e9.out⟩
set_option maxRecDepth 20000 in
set_option maxHeartbeats 4000000 in
theorem specMatch1 (g : Nat) (tv : Value) (TE : List TkE) (i : Nat) (many : Bool) (v : Value) (E : List NdE) (w : World) (h : Rs g tv TE i false many v E w) (hi : i < TE.length) (hl : TE.length ≤ 100000) (n0 : isE TE i 58 ⟨#[58, 105, 115]⟩ = false) (hy : isE TE i 58 ⟨#[58, 99, 111, 110, 116, 97, 105, 110, 115]⟩ = true) :
    Calls Tryz.prog 68 #[.pointer (some ⟨g, 0, none⟩)] w fun e w' => e = .returned (.int .i64 1) ∧ Rs g tv TE (i + 1) false many v E w' ∧ Ef g none w w' := by
  have H := mkHid h
  clear h
  go_enter Tryz.func68, Tryz.ntmps68
  go_wp2_with (go_at_call 25; fail)
  refine (specMayN g tv TE i false many v E _ 58 ⟨#[58, 105, 115]⟩ (H.out.below (Below.refl _ _)) hi (by rw [n0]; rfl)).mono ?_
  rintro e w0 ⟨rfl, hb0⟩
  replace hb0 := mkHid (hb0)
  go_wp2_with (go_at_call 25; fail)
  refine (specMayY g tv TE i many v E _ 58 ⟨#[58, 99, 111, 110, 116, 97, 105, 110, 115]⟩ (H.out.below hb0.out) hi hl hy).mono ?_
  rintro e w9 ⟨rfl, h9, e9⟩
  replace h9 := mkHid h9
  replace e9 := mkHid (Ef.ahead hb0.out e9)
  go_wp2
  go_ret
  exact ⟨rfl, h9.out, e9.out⟩
set_option maxRecDepth 20000 in
set_option maxHeartbeats 4000000 in
theorem specMatch2 (g : Nat) (tv : Value) (TE : List TkE) (i : Nat) (many : Bool) (v : Value) (E : List NdE) (w : World) (h : Rs g tv TE i false many v E w) (hi : i < TE.length) (hl : TE.length ≤ 100000) (n0 : isE TE i 58 ⟨#[58, 105, 115]⟩ = false) (n1 : isE TE i 58 ⟨#[58, 99, 111, 110, 116, 97, 105, 110, 115]⟩ = false) (hy : isE TE i 58 ⟨#[58, 109, 97, 116, 99, 104, 101, 115]⟩ = true) :
    Calls Tryz.prog 68 #[.pointer (some ⟨g, 0, none⟩)] w fun e w' => e = .returned (.int .i64 2) ∧ Rs g tv TE (i + 1) false many v E w' ∧ Ef g none w w' := by
  have H := mkHid h
  clear h
  go_enter Tryz.func68, Tryz.ntmps68
  go_wp2_with (go_at_call 25; fail)
  refine (specMayN g tv TE i false many v E _ 58 ⟨#[58, 105, 115]⟩ (H.out.below (Below.refl _ _)) hi (by rw [n0]; rfl)).mono ?_
  rintro e w0 ⟨rfl, hb0⟩
  replace hb0 := mkHid (hb0)
  go_wp2_with (go_at_call 25; fail)
  refine (specMayN g tv TE i false many v E _ 58 ⟨#[58, 99, 111, 110, 116, 97, 105, 110, 115]⟩ (H.out.below hb0.out) hi (by rw [n1]; rfl)).mono ?_
  rintro e w1 ⟨rfl, hb1⟩
  replace hb1 := mkHid (hb0.out.trans (hb1.mono hb0.out.size))
  go_wp2_with (go_at_call 25; fail)
  refine (specMayY g tv TE i many v E _ 58 ⟨#[58, 109, 97, 116, 99, 104, 101, 115]⟩ (H.out.below hb1.out) hi hl hy).mono ?_
  rintro e w9 ⟨rfl, h9, e9⟩
  replace h9 := mkHid h9
  replace e9 := mkHid (Ef.ahead hb1.out e9)
  go_wp2
  go_ret
  exact ⟨rfl, h9.out, e9.out⟩
set_option maxRecDepth 20000 in
set_option maxHeartbeats 4000000 in
theorem specMatchN (g : Nat) (tv : Value) (TE : List TkE) (i : Nat) (bad : Bool) (many : Bool) (v : Value) (E : List NdE) (w : World) (h : Rs g tv TE i bad many v E w) (hi : i < TE.length) (n0 : (!bad && isE TE i 58 ⟨#[58, 105, 115]⟩) = false) (n1 : (!bad && isE TE i 58 ⟨#[58, 99, 111, 110, 116, 97, 105, 110, 115]⟩) = false) (n2 : (!bad && isE TE i 58 ⟨#[58, 109, 97, 116, 99, 104, 101, 115]⟩) = false) :
    Calls Tryz.prog 68 #[.pointer (some ⟨g, 0, none⟩)] w fun e w' => e = .returned (.int .i64 0) ∧ Rs g tv TE i true many v E w' ∧ Ef g none w w' := by
  have H := mkHid h
  clear h
  go_enter Tryz.func68, Tryz.ntmps68
  go_wp2_with (go_at_call 25; fail)
  refine (specMayN g tv TE i bad many v E _ 58 ⟨#[58, 105, 115]⟩ (H.out.below (Below.refl _ _)) hi n0).mono ?_
  rintro e w0 ⟨rfl, hb0⟩
  replace hb0 := mkHid (hb0)
  go_wp2_with (go_at_call 25; fail)
  refine (specMayN g tv TE i bad many v E _ 58 ⟨#[58, 99, 111, 110, 116, 97, 105, 110, 115]⟩ (H.out.below hb0.out) hi n1).mono ?_
  rintro e w1 ⟨rfl, hb1⟩
  replace hb1 := mkHid (hb0.out.trans (hb1.mono hb0.out.size))
  go_wp2_with (go_at_call 25; fail)
  refine (specMayN g tv TE i bad many v E _ 58 ⟨#[58, 109, 97, 116, 99, 104, 101, 115]⟩ (H.out.below hb1.out) hi n2).mono ?_
  rintro e w2 ⟨rfl, hb2⟩
  replace hb2 := mkHid (hb1.out.trans (hb2.mono hb1.out.size))
  have h1 := H.out.below hb2.out
  have c2 := (five h1.blk).2.2.1
  have z1 : w2.frozen? ⟨g, 2, none⟩ = false := by simp [World.frozen?, h1.blk]
  have H2 := mkHid (h1.set 2 (.bool true) i true many rfl)
  have E2 : Hid (Ef g none w (w2.setCell ⟨g, 2, none⟩ (.bool true))) := Ef.ahead hb2.out (Ef.set g none w2 2 _)
  clear h1
  go_wp2
  go_ret
  exact ⟨rfl, H2.out, E2.out⟩
end Go.Proofs.YtlphojaeaogehaaGreatDoor
