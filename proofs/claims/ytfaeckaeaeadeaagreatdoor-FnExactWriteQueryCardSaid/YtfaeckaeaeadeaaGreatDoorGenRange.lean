
/- Range: as the law has it and as the program has it; handed in, made anew, held against one another. (By tools/gen/structs.py.) -/
import Derived.Test.YtfaeckaeaeadeaaGreatDoorGenBase
namespace Go.Proofs.YtfaeckaeaeadeaaGreatDoor
open Go.RowKit Go.Lib Go.Maps
structure GRange where
  fromF : Int
  toF : Int
def GRangeV (n : GRange) : Value := .agg #[.int .i64 n.fromF, .int .i64 n.toF]
def GRange.fits (n : GRange) (m : Nat) : Prop := 0 ≤ m ∧ n = n
structure GRangeAt (w : World) (A : Addr) (n : GRange) : Prop where
  c0 : w.cell? A = some (.int .i64 n.fromF)
  c1 : w.cell? ⟨A.block, A.off + 1, none⟩ = some (.int .i64 n.toF)
set_option maxRecDepth 20000 in
theorem GRangeAt.same {lo hi : Nat} {w w' : World} {A : Addr} {n : GRange} (h : GRangeAt w A n) (hs : Same lo hi w w') (h1 : lo ≤ A.block) (h2 : A.block < hi) : GRangeAt w' A n :=
  ⟨(hs.cell h1 h2).trans h.c0, (hs.cell (p := ⟨A.block, A.off + 1, none⟩) h1 h2).trans h.c1⟩
def GRangesL (lo hi : Nat) (w : World) (o : Option Addr) (F : List GRange) : Prop := ∀ i (h : i < F.length), ∃ a, o = some a ∧ lo ≤ a.block ∧ a.block < hi ∧ GRangeAt w (a.add (i * 2)) F[i]
set_option maxRecDepth 20000 in
theorem GRangesL.same {lo hi : Nat} {w w' : World} {o : Option Addr} {F : List GRange} (h : GRangesL lo hi w o F) (hs : Same lo hi w w') : GRangesL lo hi w' o F := by
  intro i hi
  obtain ⟨a, ho, h1, h2, h3⟩ := h i hi
  exact ⟨a, ho, h1, h2, h3.same hs (by rw [add_blockG]; exact h1) (by rw [add_blockG]; exact h2)⟩
set_option maxRecDepth 20000 in
theorem GRangesL.mono {lo lo' hi hi' : Nat} {w : World} {o : Option Addr} {F : List GRange} (h : GRangesL lo hi w o F) (hl : lo' ≤ lo) (hh : hi ≤ hi') : GRangesL lo' hi' w o F := by
  intro i hi
  obtain ⟨a, ho, h1, h2, h3⟩ := h i hi
  exact ⟨a, ho, Nat.le_trans hl h1, Nat.lt_of_lt_of_le h2 hh, h3⟩
set_option maxRecDepth 20000 in
theorem GRangesL.below {lo hi B : Nat} {w w' : World} {o : Option Addr} {F : List GRange} (h : GRangesL lo hi w o F) (hb : Below B w w') (hB : hi ≤ B) : GRangesL lo hi w' o F := h.same (Same.of_below hb hB)
set_option maxRecDepth 20000 in
set_option maxHeartbeats 1000000 in
theorem lawSzSRange (o : Option Addr) (F : List GRange) (cap left lo : Nat) (w : World) (_hF : GRangesL lo w.heap.size w o F) (hlen : F.length ≤ maxLen) (_hsz : ∀ f ∈ F, f.fits maxLen) (hl : left ≤ 1048576) :
    Calls Tryz.prog 18 #[.slice o F.length cap, .int .i64 left] w fun e w' => ∃ r : Int, e = .returned (.int .i64 r) ∧ Hid (r = -1 ∨ ∃ m : Nat, r = m ∧ m ≤ left ∧ F.length ≤ 1048576 ∧ ∀ f ∈ F, f.fits 1048576) ∧ Below w.heap.size w w' := by
  unfold maxLen at hlen
  by_cases hn : left < F.length
  · clear _hF _hsz
    go_enter Tryz.func18, Tryz.ntmps18
    go_wp2
    go_ret
    exact ⟨-1, rfl, Or.inl rfl, Below.refl _ _⟩
  · obtain ⟨l0, hl0⟩ : ∃ l : Nat, left - F.length = l := ⟨_, rfl⟩
    have hl1 : (left : Int) - (F.length : Int) = (l0 : Int) := by omega
    have hl2 : l0 ≤ left := by omega
    have hl3 : F.length ≤ 1048576 := by omega
    have Hsz : Hid (∀ f ∈ F, f.fits 1048576) := fun f _ => ⟨Nat.zero_le _, rfl⟩
    clear _hF _hsz hl0
    go_enter Tryz.func18, Tryz.ntmps18
    go_wp2
    go_ret
    exact ⟨_, rfl, Or.inr ⟨l0, rfl, hl2, hl3, Hsz.out⟩, Below.refl _ _⟩
set_option maxHeartbeats 4000000 in
set_option maxRecDepth 20000 in
theorem lawToXRange (n : GRange) (lo : Nat) (w : World) :
    Calls Tryz.prog 48 #[GRangeV n] w fun e w' => e = .returned (GRangeV n) ∧ Below w.heap.size w w' ∧ Hid (Soft w.heap.size w') := by
  have _hlo := lo
  unfold GRangeV
  go_enter Tryz.func48, Tryz.ntmps48
  go_wp2
  refine bodyPost_ret (v := .agg #[.int .i64 n.fromF, .int .i64 n.toF]) (by simp [results, Tryz.results48, go_sem]) rfl ⟨rfl, ?_⟩
  exact ⟨(((Below.refl _ _).alloc (Nat.le_refl _) _).alloc (by simp) _).alloc (by simp; omega) _, (((Soft.refl _).alloc _ _).alloc _ _).alloc _ _⟩
set_option maxRecDepth 20000 in
theorem lawToRange (n : GRange) (lo : Nat) (w : World) :
    Calls Tryz.prog 48 #[GRangeV n] w fun e w' => e = .returned (GRangeV n) ∧ Below w.heap.size w w' :=
  (lawToXRange n lo w).mono fun _ _ ⟨h1, h2, _⟩ => ⟨h1, h2⟩
structure GRangeL (f : Nat → Value) (j : Nat) (n : GRange) : Prop where
  c0 : f (j * 2) = .int .i64 n.fromF
  c1 : f (j * 2 + 1) = .int .i64 n.toF
def GRangeSet (w : World) (g k : Nat) (n : GRange) : World := ((w.setCell ⟨g, k * 2, none⟩ (.int .i64 n.fromF)).setCell ⟨g, k * 2 + 1, none⟩ (.int .i64 n.toF))
set_option maxRecDepth 20000 in
theorem GRangeRow {w : World} {g t N : Nat} {f : Nat → Value} (h : w.rowIs g t N f) (k : Nat) (n : GRange) :
    ∃ f', (GRangeSet w g k n).rowIs g t N f' ∧ GRangeL f' k n ∧ ∀ (j : Nat) (m : GRange), j ≠ k → GRangeL f j m → GRangeL f' j m := by
  refine ⟨_, ((h.set _ _).set _ _), ?_, ?_⟩
  · constructor <;> simp
  · intro j m hj hl
    obtain ⟨c0, c1⟩ := hl
    constructor <;> rw [if_neg (by omega), if_neg (by omega)] <;> assumption
set_option maxRecDepth 20000 in
theorem GRangeGr (w : World) (g k : Nat) (n : GRange) : w.grownBy (GRangeSet w g k n) (some g) := grG_trans (grG_set _ _ _ _) (grG_set _ _ _ _)
set_option maxRecDepth 20000 in
theorem Tryz.infoGRange : (Tryz.prog.info? 75).map (fun i => (i.zero, i.size, i.bytes)) = some (some (.agg #[.int .i64 0, .int .i64 0]), 2, 16) := by kernel_rfl
set_option maxHeartbeats 4000000 in
set_option maxRecDepth 20000 in
theorem lawToSXRange (o : Option Addr) (F : List GRange) (cap lo : Nat) (w : World) (hF : GRangesL lo w.heap.size w o F) (hlen : F.length ≤ 1048576) (hfit : ∀ f ∈ F, f.fits 1048576) :
    Calls Tryz.prog 27 #[.slice o F.length cap] w fun e w' => e = .returned (.slice (some ⟨w.heap.size, 0, none⟩) F.length F.length) ∧ Hid (GRangesL w.heap.size w'.heap.size w' (some ⟨w.heap.size, 0, none⟩) F) ∧ Below w.heap.size w w' ∧ Hid (Soft w.heap.size w') := by
  obtain ⟨i0, hi, hy0, hy1, hy2⟩ := info_parts Tryz.infoGRange
  have hmk := run_make (P := Tryz.prog) w 36 75 i0 _ Tryz.underlying36 hi hy0 .i64 .i64 F.length F.length (by omega) (Int.le_refl _) (by rw [hy2]; omega) (by omega)
  simp only [Int.toNat_natCast, hy1] at hmk
  have HF := mkHid hF
  have Hfit := mkHid hfit
  clear hF hfit
  obtain ⟨c0, hc0⟩ : ∃ c0, c0 = madeCells (Value.cells (.agg #[.int .i64 0, .int .i64 0])) (F.length * 2) := ⟨_, rfl⟩
  have hcs : c0.size = F.length * 2 := by rw [hc0]; exact size_madeCells _ _
  rw [← hc0] at hmk
  have Hrow0 : Hid (∃ f, (w.alloc (.cells c0 75)).rowIs w.heap.size 75 (F.length * 2) f) := by
    refine ⟨fun j => c0[j]!, ?_⟩
    have := World.rowIs_alloc w c0 75 (fun j => c0[j]!) (fun i hi => by simp [hi])
    rw [hcs] at this
    exact this
  clear hc0 hcs
  go_enter Tryz.func27, Tryz.ntmps27
  go_wp2
  clear hmk
  generalize hG : w.heap.size = G at *
  go_loopw [4] (fun i wr => ∃ (k : Nat) (f : Nat → Value), k ≤ F.length ∧ i = .int .i64 k ∧ wr.rowIs G 75 (F.length * 2) f ∧ Hid (∀ j (h : j < F.length), j < k → GRangeL f j F[j]) ∧ Below G w wr ∧ Hid (Soft G wr)) (fun i _ => F.length - (Lib.intOf i).toNat)
  case atStart =>
    obtain ⟨f, hx⟩ := Hrow0.out
    exact ⟨0, f, Nat.zero_le _, rfl, hx, fun j h h0 => absurd h0 (Nat.not_lt_zero _), (Below.refl _ _).alloc (by omega) _, by rw [← hG]; exact (Soft.refl _).alloc _ _⟩
  case round =>
    clear Hrow0
    obtain ⟨k, f, hk, rfl, hrow, hall, hb, hSf⟩ := hrel
    by_cases hlt : k < F.length
    · obtain ⟨a, rfl, ha1, ha2, hA⟩ := (HF.out.below hb (Nat.le_refl _)) k hlt
      have hGl := hrow.lt
      have hT := mkHid (lawToXRange F[k] lo wr)
      have c0 := hA.c0
      have c1 := hA.c1
      clear hA
      generalize hf : F[k] = n at *
      have Hf := mkHid hf
      clear hf
      unfold GRangeV at hT
      go_wp2_with fail
      refine hT.out.mono ?_
      rintro e w1 ⟨rfl, hb1, hsf1⟩
      have hrow1 : w1.rowIs G 75 (F.length * 2) f := hrow.of_block (hb1.block G hGl)
      have hgr := GRangeGr w1 G k n
      obtain ⟨f', hrow2, hL, hLo⟩ := GRangeRow hrow1 k n
      have hb1s := hb1.size
      have hS2 : Hid (Soft G (GRangeSet w1 G k n)) := (((hSf.out.call hb1 hsf1.out).set _ _ _).set _ _ _)
      have hb2 : Below G w (GRangeSet w1 G k n) := (hb.trans (hb1.mono (by omega))).grown hgr (by omega) (fun j hj => by cases hj; exact Nat.le_refl _)
      have Hall : Hid (∀ j (h : j < F.length), j < k + 1 → GRangeL f' j F[j]) := by
        intro j h hj
        by_cases hjk : j = k
        · subst hjk
          rw [Hf.out]
          exact hL
        · exact hLo j _ hjk (hall.out j h (by omega))
      have hd := fun (j : Nat) (hj : j < 2) => hrow1.cell (i := k * 2 + j) (by omega)
      have d0 := hd 0 (by omega)
      have d1 := hd 1 (by omega)
      have z0 := hrow1.frozen (k * 2)
      have z1 := hrow1.frozen (k * 2 + 1)
      rw [Nat.add_zero] at d0
      have hadd := add_off G (k * 2)
      replace hrow2 := mkHid hrow2
      replace hb2 := mkHid hb2
      clear hd hrow hrow1 hL hLo hgr hall hb hb1 hb1s hT c0 c1
      unfold GRangeSet at hrow2 hb2 hS2
      go_wp2
      go_roundw
      case rel => exact ⟨k + 1, f', by omega, by go_num, hrow2.out, Hall.out, hb2.out, hS2⟩
      case measure => simp [Lib.intOf]; omega
    · go_wp2
      go_ret
      refine ⟨by rw [hG]; rfl, ?_, by rw [hG]; exact hb, by rw [hG]; exact hSf⟩
      intro i hi
      have hl := hall.out i hi (by omega)
      refine ⟨⟨w.heap.size, 0, none⟩, rfl, Nat.le_refl _, by rw [hG]; exact hrow.lt, ?_⟩
      rw [add_off, hG]
      have hd := fun (j : Nat) (hj : j < 2) => hrow.cell (i := i * 2 + j) (by omega)
      refine ⟨?_, ?_⟩
      · have := hd 0 (by omega); rw [Nat.add_zero, hl.c0] at this; exact this
      · have := hd 1 (by omega); rw [hl.c1] at this; exact this
set_option maxRecDepth 20000 in
theorem lawToSRange (o : Option Addr) (F : List GRange) (cap lo : Nat) (w : World) (hF : GRangesL lo w.heap.size w o F) (hlen : F.length ≤ 1048576) (hfit : ∀ f ∈ F, f.fits 1048576) :
    Calls Tryz.prog 27 #[.slice o F.length cap] w fun e w' => e = .returned (.slice (some ⟨w.heap.size, 0, none⟩) F.length F.length) ∧ Hid (GRangesL w.heap.size w'.heap.size w' (some ⟨w.heap.size, 0, none⟩) F) ∧ Below w.heap.size w w' :=
  (lawToSXRange o F cap lo w hF hlen hfit).mono fun _ _ ⟨h1, h2, h3, _⟩ => ⟨h1, h2, h3⟩
set_option maxRecDepth 20000 in
set_option maxHeartbeats 1000000 in
theorem lawEqRange (n : GRange) (lo lo' : Nat) (w : World) :
    Calls Tryz.prog 61 #[GRangeV n, GRangeV n] w fun e w' => e = .returned (.bool true) ∧ Below w.heap.size w w' := by
  have _hlo := lo + lo'
  unfold GRangeV
  go_enter Tryz.func61, Tryz.ntmps61
  go_wp2
  go_ret
  exact ⟨rfl, ((Below.refl _ _).alloc (Nat.le_refl _) _).alloc (by simp) _⟩
set_option maxHeartbeats 2000000 in
set_option maxRecDepth 10000 in
theorem lawEqSRange (a b : Option Addr) (F : List GRange) (cap cap' lo lo' : Nat) (w : World) (hF : GRangesL lo w.heap.size w a F) (hG : GRangesL lo' w.heap.size w b F) (hlen : F.length ≤ 1048576) (hfit : ∀ f ∈ F, f.fits 1048576) :
    Calls Tryz.prog 39 #[.slice a F.length cap, .slice b F.length cap'] w fun e w' => e = .returned (.bool true) ∧ Below w.heap.size w w' := by
  have HF := mkHid hF
  have HG := mkHid hG
  have Hfit := mkHid hfit
  clear hF hG hfit
  go_enter Tryz.func39, Tryz.ntmps39
  go_wp2
  go_loopw [5] (fun i wr => ∃ k : Nat, k ≤ F.length ∧ i = .int .i64 k ∧ Below w.heap.size w wr) (fun i _ => F.length - (Lib.intOf i).toNat)
  case atStart => exact ⟨0, Nat.zero_le _, rfl, Below.refl _ _⟩
  case round =>
    obtain ⟨k, hk, rfl, hb0⟩ := hrel
    by_cases hlt : k < F.length
    · obtain ⟨a', rfl, ha, ha', hA⟩ := (HF.out.below hb0 (Nat.le_refl _)) k hlt
      obtain ⟨b', rfl, hb, hb', hB⟩ := (HG.out.below hb0 (Nat.le_refl _)) k hlt
      have hE := mkHid fun (w' : World) (_ : Below wr.heap.size wr w') => lawEqRange F[k] lo lo' w'
      have c0 := hA.c0
      have c1 := hA.c1
      have d0 := hB.c0
      have d1 := hB.c1
      clear hA hB
      generalize F[k] = n at *
      have cE : Hid (∀ d os, Calls Tryz.prog 61 #[GRangeV n, GRangeV n] (Go.Sort.grow (redrawn wr d) os) fun e w'' => e = .returned (.bool true) ∧ ∃ p : Regrown, w'' = Go.Sort.grow (redrawn wr p.d) p.os) := fun d os => Calls.regrown_of (hE.out _ (below_regrown wr d os))
      unfold GRangeV at cE
      go_wp2
      have k0 := cell_regrown c0
      have l0 := cell_regrown d0
      have k1 := cell_regrown c1
      have l1 := cell_regrown d1
      clear hE c0 c1 d0 d1
      refine wp_region_quiet_below (by kernel_rfl) (by kernel_rfl) ?_
      repeat (go_big_quiet_step (exact cE.out _ _))
      refine wpQuiet_nil ?_
      intro _ hw'
      obtain ⟨⟨dq, osq⟩, hw''⟩ := hw'
      subst hw''
      have hbq := mkHid (hb0.trans ((below_regrown wr dq osq).mono hb0.size))
      generalize Go.Sort.grow (redrawn wr dq) osq = wq at *
      clear k0 k1 l0 l1 cE hb0
      go_wp2
      go_roundw
      case rel => exact ⟨k + 1, by omega, by go_num, hbq.out⟩
      case measure => simp [Lib.intOf]; omega
    · go_wp2
      go_ret
      exact ⟨rfl, hb0⟩
end Go.Proofs.YtfaeckaeaeadeaaGreatDoor
