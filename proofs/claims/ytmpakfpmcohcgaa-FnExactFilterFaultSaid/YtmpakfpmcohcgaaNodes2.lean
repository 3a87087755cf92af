
/- Lists of a filter's nodes: made anew, held against one another. -/
import Derived.Test.YtmpakfpmcohcgaaNodes
namespace Go.Proofs.Ytmpakfpmcohcgaa
open Go.RowKit Go.Lib Go.Maps
theorem grN_refl (w : World) (r : Option Nat) : w.grownBy w r := ⟨rfl, rfl, rfl, Nat.le_refl _, fun _ _ _ => rfl⟩
theorem grN_trans {a b c : World} {r : Option Nat} (h : a.grownBy b r) (k : b.grownBy c r) : a.grownBy c r :=
  ⟨k.os.trans h.os, k.tape.trans h.tape, k.output.trans h.output, Nat.le_trans h.size k.size, fun i hi hr => (k.block i (Nat.lt_of_lt_of_le hi h.size) hr).trans (h.block i hi hr)⟩
theorem grN_below {w w' : World} {r : Option Nat} (h : Below w.heap.size w w') : w.grownBy w' r := ⟨h.os, h.tape, h.output, h.size, fun k hk _ => h.block k hk⟩
theorem grN_set (w : World) (g j : Nat) (v : Value) : w.grownBy (w.setCell ⟨g, j, none⟩ v) (some g) :=
  ⟨rfl, rfl, rfl, by simp [World.setCell], fun k _ hr => hp_setN _ _ _ _ _ (fun e => hr (by rw [e]))⟩
theorem cell_gr {w w' : World} {G g k : Nat} {v : Value} (h : w.grownBy w' (some G)) (hne : g ≠ G) (hc : w.cell? ⟨g, k, none⟩ = some v) : w'.cell? ⟨g, k, none⟩ = some v := by
  have hlt : g < w.heap.size := World.block_lt_of_cell? _ _ hc
  rw [← hc]
  unfold World.cell?
  rw [show (⟨g, k, none⟩ : Addr).block = g from rfl, h.block g hlt (by intro e; exact hne (Option.some.inj e))]
/-- The lists of a node that was made, in blocks beside G. -/
structure Md (G B : Nat) (w : World) (n : Nd) (g1 g2 g3 : Nat) : Prop where
  n1 : G < g1
  n2 : G < g2
  n3 : G < g3
  t1 : Tx B w (some ⟨g1, 0, none⟩) n.names
  t2 : Tx B w (some ⟨g2, 0, none⟩) n.keys
  t3 : Ints B w (some ⟨g3, 0, none⟩) n.kids
theorem Md.gr {G B : Nat} {w w' : World} {n : Nd} {g1 g2 g3 : Nat} (h : Md G B w n g1 g2 g3) (hg : w.grownBy w' (some G)) : Md G B w' n g1 g2 g3 := by
  have h1 := h.n1
  have h2 := h.n2
  have h3 := h.n3
  refine ⟨h1, h2, h3, ?_, ?_, ?_⟩
  · intro k hk
    obtain ⟨a, e, ha, hc⟩ := h.t1 k hk
    cases e
    rw [add_off] at hc
    exact ⟨_, rfl, ha, by rw [add_off]; exact cell_gr hg (by omega) hc⟩
  · intro k hk
    obtain ⟨a, e, ha, hc⟩ := h.t2 k hk
    cases e
    rw [add_off] at hc
    exact ⟨_, rfl, ha, by rw [add_off]; exact cell_gr hg (by omega) hc⟩
  · intro k hk
    obtain ⟨a, e, ha, hc⟩ := h.t3 k hk
    cases e
    rw [add_off] at hc
    exact ⟨_, rfl, ha, by rw [add_off]; exact cell_gr hg (by omega) hc⟩
theorem Md.mono {G B B' : Nat} {w : World} {n : Nd} {g1 g2 g3 : Nat} (h : Md G B w n g1 g2 g3) (hB : B ≤ B') : Md G B' w n g1 g2 g3 :=
  ⟨h.n1, h.n2, h.n3, h.t1.mono hB, h.t2.mono hB, h.t3.mono hB⟩
def vN (n : Nd) (g1 : Nat) : Value := .slice (some ⟨g1, 0, none⟩) n.names.length n.names.length
def vK (n : Nd) (g2 : Nat) : Value := .slice (some ⟨g2, 0, none⟩) n.keys.length n.keys.length
def vD (n : Nd) (g3 : Nat) : Value := .slice (some ⟨g3, 0, none⟩) n.kids.length n.kids.length
/-- A node's cells in a row. -/
structure L7 (f : Nat → Value) (j : Nat) (n : Nd) (vn vk vd : Value) : Prop where
  c0 : f (j * 7) = .int .i64 n.kind
  c1 : f (j * 7 + 1) = .int .i64 n.num
  c2 : f (j * 7 + 2) = .int .i64 n.mat
  c3 : f (j * 7 + 3) = .string n.text
  c4 : f (j * 7 + 4) = vn
  c5 : f (j * 7 + 5) = vk
  c6 : f (j * 7 + 6) = vd
def set7 (w : World) (g k : Nat) (n : Nd) (vn vk vd : Value) : World :=
  ((((((w.setCell ⟨g, k * 7, none⟩ (.int .i64 n.kind)).setCell ⟨g, k * 7 + 1, none⟩ (.int .i64 n.num)).setCell ⟨g, k * 7 + 2, none⟩ (.int .i64 n.mat)).setCell ⟨g, k * 7 + 3, none⟩ (.string n.text)).setCell ⟨g, k * 7 + 4, none⟩ vn).setCell ⟨g, k * 7 + 5, none⟩ vk).setCell ⟨g, k * 7 + 6, none⟩ vd
theorem row7 {w : World} {g t N : Nat} {f : Nat → Value} (h : w.rowIs g t N f) (k : Nat) (n : Nd) (vn vk vd : Value) :
    ∃ f', (set7 w g k n vn vk vd).rowIs g t N f' ∧ L7 f' k n vn vk vd ∧ ∀ j m un uk ud, j ≠ k → L7 f j m un uk ud → L7 f' j m un uk ud := by
  refine ⟨_, ((((((h.set _ _).set _ _).set _ _).set _ _).set _ _).set _ _).set _ _, ?_, ?_⟩
  · constructor <;> simp
  · intro j m un uk ud hj hl
    obtain ⟨c0, c1, c2, c3, c4, c5, c6⟩ := hl
    constructor <;> rw [if_neg (by omega), if_neg (by omega), if_neg (by omega), if_neg (by omega), if_neg (by omega), if_neg (by omega), if_neg (by omega)] <;> assumption
theorem gr7 (w : World) (g k : Nat) (n : Nd) (vn vk vd : Value) : w.grownBy (set7 w g k n vn vk vd) (some g) :=
  grN_trans (grN_trans (grN_trans (grN_trans (grN_trans (grN_trans (grN_set _ _ _ _) (grN_set _ _ _ _)) (grN_set _ _ _ _)) (grN_set _ _ _ _)) (grN_set _ _ _ _)) (grN_set _ _ _ _)) (grN_set _ _ _ _)
theorem Try.infoN : (Try.prog.info? 34).map (fun i => (i.zero, i.size, i.bytes)) = some (some (.agg #[.int .i64 0, .int .i64 0, .int .i64 0, .string ⟨#[]⟩, .slice none 0 0, .slice none 0 0, .slice none 0 0]), 7, 112) := by kernel_rfl
set_option maxHeartbeats 4000000 in
set_option maxRecDepth 20000 in
theorem lawToNodes (o : Option Addr) (F : List Nd) (cap : Nat) (w : World) (hF : Nds w.heap.size w o F) (hlen : F.length ≤ 1048576) (hfit : ∀ f ∈ F, f.fits 1048576) :
    Calls Try.prog 6 #[.slice o F.length cap] w fun e w' => e = .returned (.slice (some ⟨w.heap.size, 0, none⟩) F.length F.length) ∧ Hid (Nds w'.heap.size w' (some ⟨w.heap.size, 0, none⟩) F) ∧ Below w.heap.size w w' := by
  obtain ⟨i0, hi, hy0, hy1, hy2⟩ := info_parts Try.infoN
  have hmk := run_make (P := Try.prog) w 25 34 i0 _ Try.underlying25 hi hy0 .i64 .i64 F.length F.length (by omega) (Int.le_refl _) (by rw [hy2]; omega) (by omega)
  simp only [Int.toNat_natCast, hy1] at hmk
  have HF : Hid (Nds w.heap.size w o F) := hF
  have Hfit : Hid (∀ f ∈ F, f.fits 1048576) := hfit
  clear hF hfit
  obtain ⟨c0, hc0⟩ : ∃ c0, c0 = madeCells (Value.cells (.agg #[.int .i64 0, .int .i64 0, .int .i64 0, .string ⟨#[]⟩, .slice none 0 0, .slice none 0 0, .slice none 0 0])) (F.length * 7) := ⟨_, rfl⟩
  have hcs : c0.size = F.length * 7 := by rw [hc0]; exact size_madeCells _ _
  rw [← hc0] at hmk
  have Hrow0 : Hid (∃ f, (w.alloc (.cells c0 34)).rowIs w.heap.size 34 (F.length * 7) f) := by
    refine ⟨fun j => c0[j]!, ?_⟩
    have := World.rowIs_alloc w c0 34 (fun j => c0[j]!) (fun i hi => by simp [hi])
    rw [hcs] at this
    exact this
  clear hc0 hcs
  go_enter Try.func6, Try.ntmps6
  go_wp2
  clear hmk
  generalize hG : w.heap.size = G at *
  go_loopw [4] (fun i wr => ∃ (k : Nat) (f : Nat → Value), k ≤ F.length ∧ i = .int .i64 k ∧ wr.rowIs G 34 (F.length * 7) f ∧
      Hid (∀ j (h : j < F.length), j < k → ∃ g1 g2 g3, L7 f j F[j] (vN F[j] g1) (vK F[j] g2) (vD F[j] g3) ∧ Md G wr.heap.size wr F[j] g1 g2 g3) ∧ Below G w wr) (fun i _ => F.length - (Lib.intOf i).toNat)
  case atStart =>
    obtain ⟨f, hx⟩ := Hrow0.out
    exact ⟨0, f, Nat.zero_le _, rfl, hx, fun j h h0 => absurd h0 (Nat.not_lt_zero _), (Below.refl _ _).alloc (by omega) _⟩
  case round =>
    clear Hrow0
    obtain ⟨k, f, hk, rfl, hrow, hall, hb⟩ := hrel
    by_cases hlt : k < F.length
    · obtain ⟨a, vn, vk, vd, rfl, ha, hA, hI⟩ := (HF.out.below hb) k hlt
      have hGl := hrow.lt
      have hT := mkHid (lawToNode F[k] vn vk vd wr (hI.mono (by omega)) (Hfit.out _ (List.getElem_mem hlt)))
      have c0 := hA.c0
      have c1 := hA.c1
      have c2 := hA.c2
      have c3 := hA.c3
      have c4 := hA.c4
      have c5 := hA.c5
      have c6 := hA.c6
      clear hA hI
      generalize hf : F[k] = n at *
      have Hf := mkHid hf
      clear hf
      go_wp2_with fail
      refine hT.out.mono ?_
      rintro e w1 ⟨g1, g2, g3, rfl, hTx, hb1⟩
      obtain ⟨⟨l1, l2, l3⟩, t1, t2, t3⟩ := hTx.out
      have hMd : Md G w1.heap.size w1 n g1 g2 g3 := ⟨by omega, by omega, by omega, t1, t2, t3⟩
      have hrow1 : w1.rowIs G 34 (F.length * 7) f := hrow.of_block (hb1.block G hGl)
      have hgr := gr7 w1 G k n (vN n g1) (vK n g2) (vD n g3)
      obtain ⟨f', hrow2, hL, hLo⟩ := row7 hrow1 k n (vN n g1) (vK n g2) (vD n g3)
      have hMd2 := (hMd.gr hgr).mono hgr.size
      have hgr2 := grN_trans (grN_below (r := some G) hb1) hgr
      have hb2 : Below G w (set7 w1 G k n (vN n g1) (vK n g2) (vD n g3)) := (hb.trans (hb1.mono (by omega))).grown hgr (by have := hb1.size; omega) (fun j hj => by cases hj; exact Nat.le_refl _)
      have Hall : Hid (∀ j (h : j < F.length), j < k + 1 → ∃ h1 h2 h3, L7 f' j F[j] (vN F[j] h1) (vK F[j] h2) (vD F[j] h3) ∧ Md G (set7 w1 G k n (vN n g1) (vK n g2) (vD n g3)).heap.size (set7 w1 G k n (vN n g1) (vK n g2) (vD n g3)) F[j] h1 h2 h3) := by
        intro j h hj
        by_cases hjk : j = k
        · subst hjk
          rw [Hf.out]
          exact ⟨g1, g2, g3, hL, hMd2⟩
        · obtain ⟨h1, h2, h3, hl, hm⟩ := hall.out j h (by omega)
          exact ⟨h1, h2, h3, hLo j _ _ _ _ hjk hl, (hm.gr hgr2).mono hgr2.size⟩
      have hd := fun (j : Nat) (hj : j < 7) => hrow1.cell (i := k * 7 + j) (by omega)
      have d0 := hd 0 (by omega)
      have d1 := hd 1 (by omega)
      have d2 := hd 2 (by omega)
      have d3 := hd 3 (by omega)
      have d4 := hd 4 (by omega)
      have d5 := hd 5 (by omega)
      have d6 := hd 6 (by omega)
      have z0 := hrow1.frozen (k * 7)
      have z1 := hrow1.frozen (k * 7 + 1)
      have z2 := hrow1.frozen (k * 7 + 2)
      have z3 := hrow1.frozen (k * 7 + 3)
      have z4 := hrow1.frozen (k * 7 + 4)
      have z5 := hrow1.frozen (k * 7 + 5)
      have z6 := hrow1.frozen (k * 7 + 6)
      rw [Nat.add_zero] at d0
      have hadd := add_off G (k * 7)
      replace hrow2 := mkHid hrow2
      replace hb2 := mkHid hb2
      clear hd hrow hrow1 hL hLo hMd2 hMd hgr hgr2 hall hb hb1 c0 c1 c2 c3 c4 c5 c6 t1 t2 t3 hTx hT
      unfold ndV
      unfold vN vK vD set7 at hrow2 hb2 Hall
      go_wp2
      go_roundw
      case rel => exact ⟨k + 1, f', by omega, by go_num, hrow2.out, Hall.out, hb2.out⟩
      case measure => simp [Lib.intOf]; omega
    · go_wp2
      go_ret
      refine ⟨by rw [hG]; rfl, ?_, by rw [hG]; exact hb⟩
      intro i hi
      obtain ⟨g1, g2, g3, hl, hm⟩ := hall.out i hi (by omega)
      refine ⟨⟨w.heap.size, 0, none⟩, vN F[i] g1, vK F[i] g2, vD F[i] g3, rfl, by rw [hG]; exact hrow.lt, ?_, ⟨⟨_, _, rfl, hm.t1⟩, ⟨_, _, rfl, hm.t2⟩, ⟨_, _, rfl, hm.t3⟩⟩⟩
      rw [add_off, hG]
      have hd := fun (j : Nat) (hj : j < 7) => hrow.cell (i := i * 7 + j) (by omega)
      refine ⟨?_, ?_, ?_, ?_, ?_, ?_, ?_⟩
      · have := hd 0 (by omega); rw [Nat.add_zero, hl.c0] at this; exact this
      · have := hd 1 (by omega); rw [hl.c1] at this; exact this
      · have := hd 2 (by omega); rw [hl.c2] at this; exact this
      · have := hd 3 (by omega); rw [hl.c3] at this; exact this
      · have := hd 4 (by omega); rw [hl.c4] at this; exact this
      · have := hd 5 (by omega); rw [hl.c5] at this; exact this
      · have := hd 6 (by omega); rw [hl.c6] at this; exact this
end Go.Proofs.Ytmpakfpmcohcgaa
