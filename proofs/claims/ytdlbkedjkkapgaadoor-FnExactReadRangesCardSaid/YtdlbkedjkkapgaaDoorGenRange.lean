
/- Range: as the law has it and as the program has it; handed in, made anew, held against one another. (By tools/gen/structs.py.) -/
import Derived.Test.YtdlbkedjkkapgaaDoorGenBase
namespace Go.Proofs.YtdlbkedjkkapgaaDoor
open Go.RowKit Go.Lib Go.Maps
structure GRange where
  fromF : Int
  toF : Int
def GRangeV (n : GRange) : Value := .agg #[.int .i64 n.fromF, .int .i64 n.toF]
def GRange.fits (n : GRange) (m : Nat) : Prop := 0 ≤ m ∧ n = n
structure GRangeAt (w : World) (A : Addr) (n : GRange) : Prop where
  c0 : w.cell? A = some (.int .i64 n.fromF)
  c1 : w.cell? ⟨A.block, A.off + 1, none⟩ = some (.int .i64 n.toF)
theorem GRangeAt.same {lo hi : Nat} {w w' : World} {A : Addr} {n : GRange} (h : GRangeAt w A n) (hs : Same lo hi w w') (h1 : lo ≤ A.block) (h2 : A.block < hi) : GRangeAt w' A n :=
  ⟨(hs.cell h1 h2).trans h.c0, (hs.cell (p := ⟨A.block, A.off + 1, none⟩) h1 h2).trans h.c1⟩
def GRangesL (lo hi : Nat) (w : World) (o : Option Addr) (F : List GRange) : Prop := ∀ i (h : i < F.length), ∃ a, o = some a ∧ lo ≤ a.block ∧ a.block < hi ∧ GRangeAt w (a.add (i * 2)) F[i]
theorem GRangesL.same {lo hi : Nat} {w w' : World} {o : Option Addr} {F : List GRange} (h : GRangesL lo hi w o F) (hs : Same lo hi w w') : GRangesL lo hi w' o F := by
  intro i hi
  obtain ⟨a, ho, h1, h2, h3⟩ := h i hi
  exact ⟨a, ho, h1, h2, h3.same hs (by rw [add_blockG]; exact h1) (by rw [add_blockG]; exact h2)⟩
theorem GRangesL.mono {lo lo' hi hi' : Nat} {w : World} {o : Option Addr} {F : List GRange} (h : GRangesL lo hi w o F) (hl : lo' ≤ lo) (hh : hi ≤ hi') : GRangesL lo' hi' w o F := by
  intro i hi
  obtain ⟨a, ho, h1, h2, h3⟩ := h i hi
  exact ⟨a, ho, Nat.le_trans hl h1, Nat.lt_of_lt_of_le h2 hh, h3⟩
theorem GRangesL.below {lo hi B : Nat} {w w' : World} {o : Option Addr} {F : List GRange} (h : GRangesL lo hi w o F) (hb : Below B w w') (hB : hi ≤ B) : GRangesL lo hi w' o F := h.same (Same.of_below hb hB)
structure GRangeL (f : Nat → Value) (j : Nat) (n : GRange) : Prop where
  c0 : f (j * 2) = .int .i64 n.fromF
  c1 : f (j * 2 + 1) = .int .i64 n.toF
def GRangeSet (w : World) (g k : Nat) (n : GRange) : World := ((w.setCell ⟨g, k * 2, none⟩ (.int .i64 n.fromF)).setCell ⟨g, k * 2 + 1, none⟩ (.int .i64 n.toF))
theorem GRangeRow {w : World} {g t N : Nat} {f : Nat → Value} (h : w.rowIs g t N f) (k : Nat) (n : GRange) :
    ∃ f', (GRangeSet w g k n).rowIs g t N f' ∧ GRangeL f' k n ∧ ∀ (j : Nat) (m : GRange), j ≠ k → GRangeL f j m → GRangeL f' j m := by
  refine ⟨_, ((h.set _ _).set _ _), ?_, ?_⟩
  · constructor <;> simp
  · intro j m hj hl
    obtain ⟨c0, c1⟩ := hl
    constructor <;> rw [if_neg (by omega), if_neg (by omega)] <;> assumption
theorem GRangeGr (w : World) (g k : Nat) (n : GRange) : w.grownBy (GRangeSet w g k n) (some g) := grG_trans (grG_set _ _ _ _) (grG_set _ _ _ _)
theorem Tryd.infoGRange : (Tryd.prog.info? 31).map (fun i => (i.zero, i.size, i.bytes)) = some (some (.agg #[.int .i64 0, .int .i64 0]), 2, 16) := by kernel_rfl
set_option maxHeartbeats 1000000 in
theorem lawEqRange (n : GRange) (lo lo' : Nat) (w : World) :
    Calls Tryd.prog 15 #[GRangeV n, GRangeV n] w fun e w' => e = .returned (.bool true) ∧ Below w.heap.size w w' := by
  have _hlo := lo + lo'
  unfold GRangeV
  go_enter Tryd.func15, Tryd.ntmps15
  go_wp2
  go_ret
  exact ⟨rfl, ((Below.refl _ _).alloc (Nat.le_refl _) _).alloc (by simp) _⟩
set_option maxHeartbeats 2000000 in
set_option maxRecDepth 10000 in
theorem lawEqSRange (a b : Option Addr) (F : List GRange) (cap cap' lo lo' : Nat) (w : World) (hF : GRangesL lo w.heap.size w a F) (hG : GRangesL lo' w.heap.size w b F) (hlen : F.length ≤ 1048576) (hfit : ∀ f ∈ F, f.fits 1048576) :
    Calls Tryd.prog 6 #[.slice a F.length cap, .slice b F.length cap'] w fun e w' => e = .returned (.bool true) ∧ Below w.heap.size w w' := by
  have HF := mkHid hF
  have HG := mkHid hG
  have Hfit := mkHid hfit
  clear hF hG hfit
  go_enter Tryd.func6, Tryd.ntmps6
  go_wp2
  go_loopw [5] (fun i wr => ∃ k : Nat, k ≤ F.length ∧ i = .int .i64 k ∧ Below w.heap.size w wr) (fun i _ => F.length - (Lib.intOf i).toNat)
  case atStart => exact ⟨0, Nat.zero_le _, rfl, Below.refl _ _⟩
  case round =>
    obtain ⟨k, hk, rfl, hb0⟩ := hrel
    by_cases hlt : k < F.length
    · obtain ⟨a', rfl, ha, ha', hA⟩ := (HF.out.below hb0 (Nat.le_refl _)) k hlt
      obtain ⟨b', rfl, hb, hb', hB⟩ := (HG.out.below hb0 (Nat.le_refl _)) k hlt
      have hE := mkHid fun (w' : World) (_ : Below wr.heap.size wr w') => lawEqRange F[k] lo lo' w'
      have c0 := hA.c0
      have c1 := hA.c1
      have d0 := hB.c0
      have d1 := hB.c1
      clear hA hB
      generalize F[k] = n at *
      have cE : Hid (∀ d os, Calls Tryd.prog 15 #[GRangeV n, GRangeV n] (Go.Sort.grow (redrawn wr d) os) fun e w'' => e = .returned (.bool true) ∧ ∃ p : Regrown, w'' = Go.Sort.grow (redrawn wr p.d) p.os) := fun d os => Calls.regrown_of (hE.out _ (below_regrown wr d os))
      unfold GRangeV at cE
      go_wp2
      have k0 := cell_regrown c0
      have l0 := cell_regrown d0
      have k1 := cell_regrown c1
      have l1 := cell_regrown d1
      clear hE c0 c1 d0 d1
      refine wp_region_quiet_below (by kernel_rfl) (by kernel_rfl) ?_
      repeat (go_big_quiet_step (exact cE.out _ _))
      refine wpQuiet_nil ?_
      intro _ hw'
      obtain ⟨⟨dq, osq⟩, hw''⟩ := hw'
      subst hw''
      have hbq := mkHid (hb0.trans ((below_regrown wr dq osq).mono hb0.size))
      generalize Go.Sort.grow (redrawn wr dq) osq = wq at *
      clear k0 k1 l0 l1 cE hb0
      go_wp2
      go_roundw
      case rel => exact ⟨k + 1, by omega, by go_num, hbq.out⟩
      case measure => simp [Lib.intOf]; omega
    · go_wp2
      go_ret
      exact ⟨rfl, hb0⟩
end Go.Proofs.YtdlbkedjkkapgaaDoor
