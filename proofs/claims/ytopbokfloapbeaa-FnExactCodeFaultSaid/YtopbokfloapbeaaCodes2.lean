
/- Lists of instructions: made anew, held against one another. -/
import Derived.Test.YtopbokfloapbeaaCodes
namespace Go.Proofs.Ytopbokfloapbeaa
open Go.RowKit Go.Lib Go.Maps
/-- An instruction's cells in a row. -/
structure L9 (f : Nat → Value) (j : Nat) (c : Cd) (vn vk vd : Value) : Prop where
  c0 : f (j * 9) = .int .i64 c.op
  c1 : f (j * 9 + 1) = .int .i64 c.to
  c2 : f (j * 9 + 2) = .int .i64 c.nd.kind
  c3 : f (j * 9 + 3) = .int .i64 c.nd.num
  c4 : f (j * 9 + 4) = .int .i64 c.nd.mat
  c5 : f (j * 9 + 5) = .string c.nd.text
  c6 : f (j * 9 + 6) = vn
  c7 : f (j * 9 + 7) = vk
  c8 : f (j * 9 + 8) = vd
def set9 (w : World) (g k : Nat) (c : Cd) (vn vk vd : Value) : World :=
  ((((((((w.setCell ⟨g, k * 9, none⟩ (.int .i64 c.op)).setCell ⟨g, k * 9 + 1, none⟩ (.int .i64 c.to)).setCell ⟨g, k * 9 + 2, none⟩ (.int .i64 c.nd.kind)).setCell ⟨g, k * 9 + 3, none⟩ (.int .i64 c.nd.num)).setCell ⟨g, k * 9 + 4, none⟩ (.int .i64 c.nd.mat)).setCell ⟨g, k * 9 + 5, none⟩ (.string c.nd.text)).setCell ⟨g, k * 9 + 6, none⟩ vn).setCell ⟨g, k * 9 + 7, none⟩ vk).setCell ⟨g, k * 9 + 8, none⟩ vd
theorem row9 {w : World} {g t N : Nat} {f : Nat → Value} (h : w.rowIs g t N f) (k : Nat) (c : Cd) (vn vk vd : Value) :
    ∃ f', (set9 w g k c vn vk vd).rowIs g t N f' ∧ L9 f' k c vn vk vd ∧ ∀ j m un uk ud, j ≠ k → L9 f j m un uk ud → L9 f' j m un uk ud := by
  refine ⟨_, (((((((((h.set _ _).set _ _).set _ _).set _ _).set _ _).set _ _).set _ _).set _ _).set _ _), ?_, ?_⟩
  · constructor <;> simp
  · intro j m un uk ud hj hl
    obtain ⟨c0, c1, c2, c3, c4, c5, c6, c7, c8⟩ := hl
    constructor <;> rw [if_neg (by omega), if_neg (by omega), if_neg (by omega), if_neg (by omega), if_neg (by omega), if_neg (by omega), if_neg (by omega), if_neg (by omega), if_neg (by omega)] <;> assumption
theorem gr9 (w : World) (g k : Nat) (c : Cd) (vn vk vd : Value) : w.grownBy (set9 w g k c vn vk vd) (some g) :=
  grN_trans (grN_trans (grN_trans (grN_trans (grN_trans (grN_trans (grN_trans (grN_trans (grN_set _ _ _ _) (grN_set _ _ _ _)) (grN_set _ _ _ _)) (grN_set _ _ _ _)) (grN_set _ _ _ _)) (grN_set _ _ _ _)) (grN_set _ _ _ _)) (grN_set _ _ _ _)) (grN_set _ _ _ _)
theorem Try.infoC : (Try.prog.info? 39).map (fun i => (i.zero, i.size, i.bytes)) = some (some (.agg #[.int .i64 0, .int .i64 0, .int .i64 0, .int .i64 0, .int .i64 0, .string ⟨#[]⟩, .slice none 0 0, .slice none 0 0, .slice none 0 0]), 9, 128) := by kernel_rfl
set_option maxHeartbeats 4000000 in
set_option maxRecDepth 20000 in
theorem lawToCodes (o : Option Addr) (F : List Cd) (cap : Nat) (w : World) (hF : Cds w.heap.size w o F) (hlen : F.length ≤ 1048576) (hfit : ∀ f ∈ F, f.nd.fits 1048576) :
    Calls Try.prog 6 #[.slice o F.length cap] w fun e w' => e = .returned (.slice (some ⟨w.heap.size, 0, none⟩) F.length F.length) ∧ Hid (Cds w'.heap.size w' (some ⟨w.heap.size, 0, none⟩) F) ∧ Below w.heap.size w w' := by
  obtain ⟨i0, hi, hy0, hy1, hy2⟩ := info_parts Try.infoC
  have hmk := run_make (P := Try.prog) w 25 39 i0 _ Try.underlying25 hi hy0 .i64 .i64 F.length F.length (by omega) (Int.le_refl _) (by rw [hy2]; omega) (by omega)
  simp only [Int.toNat_natCast, hy1] at hmk
  have HF : Hid (Cds w.heap.size w o F) := hF
  have Hfit : Hid (∀ f ∈ F, f.nd.fits 1048576) := hfit
  clear hF hfit
  obtain ⟨c0, hc0⟩ : ∃ c0, c0 = madeCells (Value.cells (.agg #[.int .i64 0, .int .i64 0, .int .i64 0, .int .i64 0, .int .i64 0, .string ⟨#[]⟩, .slice none 0 0, .slice none 0 0, .slice none 0 0])) (F.length * 9) := ⟨_, rfl⟩
  have hcs : c0.size = F.length * 9 := by rw [hc0]; exact size_madeCells _ _
  rw [← hc0] at hmk
  have Hrow0 : Hid (∃ f, (w.alloc (.cells c0 39)).rowIs w.heap.size 39 (F.length * 9) f) := by
    refine ⟨fun j => c0[j]!, ?_⟩
    have := World.rowIs_alloc w c0 39 (fun j => c0[j]!) (fun i hi => by simp [hi])
    rw [hcs] at this
    exact this
  clear hc0 hcs
  go_enter Try.func6, Try.ntmps6
  go_wp2
  clear hmk
  generalize hG : w.heap.size = G at *
  go_loopw [4] (fun i wr => ∃ (k : Nat) (f : Nat → Value), k ≤ F.length ∧ i = .int .i64 k ∧ wr.rowIs G 39 (F.length * 9) f ∧
      Hid (∀ j (h : j < F.length), j < k → ∃ g1 g2 g3, L9 f j F[j] (vN F[j].nd g1) (vK F[j].nd g2) (vD F[j].nd g3) ∧ Md G wr.heap.size wr F[j].nd g1 g2 g3) ∧ Below G w wr) (fun i _ => F.length - (Lib.intOf i).toNat)
  case atStart =>
    obtain ⟨f, hx⟩ := Hrow0.out
    exact ⟨0, f, Nat.zero_le _, rfl, hx, fun j h h0 => absurd h0 (Nat.not_lt_zero _), (Below.refl _ _).alloc (by omega) _⟩
  case round =>
    clear Hrow0
    obtain ⟨k, f, hk, rfl, hrow, hall, hb⟩ := hrel
    by_cases hlt : k < F.length
    · obtain ⟨a, vn, vk, vd, rfl, ha, hA, hI⟩ := (HF.out.below hb) k hlt
      have hGl := hrow.lt
      have hT := mkHid (lawToCode F[k] vn vk vd wr (hI.mono (by omega)) (Hfit.out _ (List.getElem_mem hlt)))
      have c0 := hA.c0
      have c1 := hA.c1
      have c2 := hA.c2
      have c3 := hA.c3
      have c4 := hA.c4
      have c5 := hA.c5
      have c6 := hA.c6
      have c7 := hA.c7
      have c8 := hA.c8
      clear hA hI
      generalize hf : F[k] = n at *
      have Hf := mkHid hf
      clear hf
      go_wp2_with fail
      refine hT.out.mono ?_
      rintro e w1 ⟨g1, g2, g3, rfl, hTx, hb1⟩
      have hMd : Md G w1.heap.size w1 n.nd g1 g2 g3 := ⟨by have := hTx.out.n1; omega, by have := hTx.out.n2; omega, by have := hTx.out.n3; omega, hTx.out.t1, hTx.out.t2, hTx.out.t3⟩
      have hrow1 : w1.rowIs G 39 (F.length * 9) f := hrow.of_block (hb1.block G hGl)
      have hgr := gr9 w1 G k n (vN n.nd g1) (vK n.nd g2) (vD n.nd g3)
      obtain ⟨f', hrow2, hL, hLo⟩ := row9 hrow1 k n (vN n.nd g1) (vK n.nd g2) (vD n.nd g3)
      have hMd2 := (hMd.gr hgr).mono hgr.size
      have hgr2 := grN_trans (grN_below (r := some G) hb1) hgr
      have hb2 : Below G w (set9 w1 G k n (vN n.nd g1) (vK n.nd g2) (vD n.nd g3)) := (hb.trans (hb1.mono (by omega))).grown hgr (by have := hb1.size; omega) (fun j hj => by cases hj; exact Nat.le_refl _)
      have Hall : Hid (∀ j (h : j < F.length), j < k + 1 → ∃ h1 h2 h3, L9 f' j F[j] (vN F[j].nd h1) (vK F[j].nd h2) (vD F[j].nd h3) ∧ Md G (set9 w1 G k n (vN n.nd g1) (vK n.nd g2) (vD n.nd g3)).heap.size (set9 w1 G k n (vN n.nd g1) (vK n.nd g2) (vD n.nd g3)) F[j].nd h1 h2 h3) := by
        intro j h hj
        by_cases hjk : j = k
        · subst hjk
          rw [Hf.out]
          exact ⟨g1, g2, g3, hL, hMd2⟩
        · obtain ⟨h1, h2, h3, hl, hm⟩ := hall.out j h (by omega)
          exact ⟨h1, h2, h3, hLo j _ _ _ _ hjk hl, (hm.gr hgr2).mono hgr2.size⟩
      have hd := fun (j : Nat) (hj : j < 9) => hrow1.cell (i := k * 9 + j) (by omega)
      have d0 := hd 0 (by omega)
      have d1 := hd 1 (by omega)
      have d2 := hd 2 (by omega)
      have d3 := hd 3 (by omega)
      have d4 := hd 4 (by omega)
      have d5 := hd 5 (by omega)
      have d6 := hd 6 (by omega)
      have d7 := hd 7 (by omega)
      have d8 := hd 8 (by omega)
      have z0 := hrow1.frozen (k * 9)
      have z1 := hrow1.frozen (k * 9 + 1)
      have z2 := hrow1.frozen (k * 9 + 2)
      have z3 := hrow1.frozen (k * 9 + 3)
      have z4 := hrow1.frozen (k * 9 + 4)
      have z5 := hrow1.frozen (k * 9 + 5)
      have z6 := hrow1.frozen (k * 9 + 6)
      have z7 := hrow1.frozen (k * 9 + 7)
      have z8 := hrow1.frozen (k * 9 + 8)
      rw [Nat.add_zero] at d0
      have hadd := add_off G (k * 9)
      replace hrow2 := mkHid hrow2
      replace hb2 := mkHid hb2
      clear hd hrow hrow1 hL hLo hMd2 hMd hgr hgr2 hall hb hb1 c0 c1 c2 c3 c4 c5 c6 c7 c8 hTx hT
      unfold cdV vN vK vD
      unfold vN vK vD set9 at hrow2 hb2 Hall
      go_wp2
      go_roundw
      case rel => exact ⟨k + 1, f', by omega, by go_num, hrow2.out, Hall.out, hb2.out⟩
      case measure => simp [Lib.intOf]; omega
    · go_wp2
      go_ret
      refine ⟨by rw [hG]; rfl, ?_, by rw [hG]; exact hb⟩
      intro i hi
      obtain ⟨g1, g2, g3, hl, hm⟩ := hall.out i hi (by omega)
      refine ⟨⟨w.heap.size, 0, none⟩, vN F[i].nd g1, vK F[i].nd g2, vD F[i].nd g3, rfl, by rw [hG]; exact hrow.lt, ?_, ⟨⟨_, _, rfl, hm.t1⟩, ⟨_, _, rfl, hm.t2⟩, ⟨_, _, rfl, hm.t3⟩⟩⟩
      rw [add_off, hG]
      have hd := fun (j : Nat) (hj : j < 9) => hrow.cell (i := i * 9 + j) (by omega)
      refine ⟨?_, ?_, ?_, ?_, ?_, ?_, ?_, ?_, ?_⟩
      · have := hd 0 (by omega); rw [Nat.add_zero, hl.c0] at this; exact this
      · have := hd 1 (by omega); rw [hl.c1] at this; exact this
      · have := hd 2 (by omega); rw [hl.c2] at this; exact this
      · have := hd 3 (by omega); rw [hl.c3] at this; exact this
      · have := hd 4 (by omega); rw [hl.c4] at this; exact this
      · have := hd 5 (by omega); rw [hl.c5] at this; exact this
      · have := hd 6 (by omega); rw [hl.c6] at this; exact this
      · have := hd 7 (by omega); rw [hl.c7] at this; exact this
      · have := hd 8 (by omega); rw [hl.c8] at this; exact this
set_option maxHeartbeats 1000000 in
theorem lawEqCode (c : Cd) (vn vk vd un uk ud : Value) (w : World) (hI : NdIn w.heap.size w c.nd vn vk vd) (hJ : NdIn w.heap.size w c.nd un uk ud) (hf : c.nd.fits 1048576) :
    Calls Try.prog 15 #[cdV c vn vk vd, cdV c un uk ud] w fun e w' => e = .returned (.bool true) ∧ Below w.heap.size w w' := by
  have hbA : Below w.heap.size w ((w.alloc (.cells #[.int .i64 c.op, .int .i64 c.to, .int .i64 c.nd.kind, .int .i64 c.nd.num, .int .i64 c.nd.mat, .string c.nd.text, vn, vk, vd] 39)).alloc (.cells #[.int .i64 c.op, .int .i64 c.to, .int .i64 c.nd.kind, .int .i64 c.nd.num, .int .i64 c.nd.mat, .string c.nd.text, un, uk, ud] 39)) := ((Below.refl _ _).alloc (Nat.le_refl _) _).alloc (by simp) _
  have hE := mkHid (lawEqNode c.nd vn vk vd un uk ud _ ((hI.below hbA).mono hbA.size) ((hJ.below hbA).mono hbA.size) hf)
  obtain ⟨⟨a1, c1, rfl, -⟩, ⟨a2, c2, rfl, -⟩, ⟨a3, c3, rfl, -⟩⟩ := hI
  obtain ⟨⟨b1, d1, rfl, -⟩, ⟨b2, d2, rfl, -⟩, ⟨b3, d3, rfl, -⟩⟩ := hJ
  replace hbA := mkHid hbA
  clear hf
  unfold ndV at hE
  unfold cdV
  go_enter Try.func15, Try.ntmps15
  go_wp2_with fail
  refine hE.out.mono ?_
  rintro e w1 ⟨rfl, hb1⟩
  have hb2 := mkHid (hbA.out.trans (hb1.mono hbA.out.size))
  clear hE hb1 hbA
  go_wp2
  go_ret
  exact ⟨rfl, hb2.out⟩
set_option maxHeartbeats 1000000 in
set_option maxRecDepth 10000 in
theorem lawEqCodes (a b : Option Addr) (F : List Cd) (cap cap' : Nat) (w : World) (hF : Cds w.heap.size w a F) (hG : Cds w.heap.size w b F) (hlen : F.length ≤ 1048576) (hfit : ∀ f ∈ F, f.nd.fits 1048576) :
    Calls Try.prog 8 #[.slice a F.length cap, .slice b F.length cap'] w fun e w' => e = .returned (.bool true) ∧ Below w.heap.size w w' := by
  have HF := mkHid hF
  have HG := mkHid hG
  have Hfit := mkHid hfit
  clear hF hG hfit
  go_enter Try.func8, Try.ntmps8
  go_wp2
  go_loopw [5] (fun i wr => ∃ k : Nat, k ≤ F.length ∧ i = .int .i64 k ∧ Below w.heap.size w wr) (fun i _ => F.length - (Lib.intOf i).toNat)
  case atStart => exact ⟨0, Nat.zero_le _, rfl, Below.refl _ _⟩
  case round =>
    obtain ⟨k, hk, rfl, hb0⟩ := hrel
    by_cases hlt : k < F.length
    · obtain ⟨a', vn, vk, vd, rfl, ha, hA, hI⟩ := (HF.out.below hb0) k hlt
      obtain ⟨b', un, uk, ud, rfl, hb, hB, hJ⟩ := (HG.out.below hb0) k hlt
      have hE := mkHid fun (w' : World) (hb' : Below wr.heap.size wr w') => lawEqCode F[k] vn vk vd un uk ud w' (((hI.mono hb0.size).below hb').mono hb'.size) (((hJ.mono hb0.size).below hb').mono hb'.size) (Hfit.out _ (List.getElem_mem hlt))
      have c0 := hA.c0
      have c1 := hA.c1
      have c2 := hA.c2
      have c3 := hA.c3
      have c4 := hA.c4
      have c5 := hA.c5
      have c6 := hA.c6
      have c7 := hA.c7
      have c8 := hA.c8
      have d0 := hB.c0
      have d1 := hB.c1
      have d2 := hB.c2
      have d3 := hB.c3
      have d4 := hB.c4
      have d5 := hB.c5
      have d6 := hB.c6
      have d7 := hB.c7
      have d8 := hB.c8
      clear hA hB hI hJ
      generalize F[k] = n at *
      have cE : Hid (∀ d os, Calls Try.prog 15 #[cdV n vn vk vd, cdV n un uk ud] (Go.Sort.grow (redrawn wr d) os) fun e w'' => e = .returned (.bool true) ∧ ∃ p : Regrown, w'' = Go.Sort.grow (redrawn wr p.d) p.os) := fun d os => Calls.regrown_of (hE.out _ (below_regrown wr d os))
      unfold cdV at cE
      go_wp2
      have k0 := cell_regrown c0
      have l0 := cell_regrown d0
      have k1 := cell_regrown c1
      have l1 := cell_regrown d1
      have k2 := cell_regrown c2
      have l2 := cell_regrown d2
      have k3 := cell_regrown c3
      have l3 := cell_regrown d3
      have k4 := cell_regrown c4
      have l4 := cell_regrown d4
      have k5 := cell_regrown c5
      have l5 := cell_regrown d5
      have k6 := cell_regrown c6
      have l6 := cell_regrown d6
      have k7 := cell_regrown c7
      have l7 := cell_regrown d7
      have k8 := cell_regrown c8
      have l8 := cell_regrown d8
      clear hE c0 c1 c2 c3 c4 c5 c6 c7 c8 d0 d1 d2 d3 d4 d5 d6 d7 d8
      refine wp_region_quiet_below (by kernel_rfl) (by kernel_rfl) ?_
      iterate 8 (quiet_step (fail))
      quiet_step (exact cE.out _ _)
      repeat (quiet_step (fail))
      refine wpQuiet_nil ?_
      intro _ hw'
      obtain ⟨⟨dq, osq⟩, hw''⟩ := hw'
      subst hw''
      have hbq := mkHid (hb0.trans ((below_regrown wr dq osq).mono hb0.size))
      generalize Go.Sort.grow (redrawn wr dq) osq = wq at *
      clear k0 k1 k2 k3 k4 k5 k6 k7 k8 l0 l1 l2 l3 l4 l5 l6 l7 l8 cE hb0
      go_wp2
      go_roundw
      case rel => exact ⟨k + 1, by omega, by go_num, hbq.out⟩
      case measure => simp [Lib.intOf]; omega
    · go_wp2
      go_ret
      exact ⟨rfl, hb0⟩
end Go.Proofs.Ytopbokfloapbeaa
