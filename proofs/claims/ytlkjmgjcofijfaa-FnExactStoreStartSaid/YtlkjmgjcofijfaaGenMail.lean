
/- Mail: as the law has it and as the program has it; handed in, made anew, held against one another. (By tools/gen/structs.py.) -/
import Derived.Test.YtlkjmgjcofijfaaGenGone
namespace Go.Proofs.Ytlkjmgjcofijfaa
open Go.RowKit Go.Lib Go.Maps
structure GMail where
  uid : Int
  modF : Int
  time : Int
  flags : List ByteArray
  message : ByteArray
def GMailV (n : GMail) (v3 : Value) : Value := .agg #[.int .i64 n.uid, .int .i64 n.modF, .int .i64 n.time, v3, .string n.message]
def GMail.fits (n : GMail) (m : Nat) : Prop := n.flags.length ≤ m ∧ (∀ t ∈ n.flags, t.size ≤ m) ∧ n.message.size ≤ m
structure GMailIn (lo hi : Nat) (w : World) (n : GMail) (v3 : Value) : Prop where
  s3 : ∃ a c, v3 = .slice a n.flags.length c ∧ TxL lo hi w a n.flags
theorem GMailIn.same {lo hi : Nat} {w w' : World} {n : GMail} {v3 : Value} (h : GMailIn lo hi w n v3) (hs : Same lo hi w w') : GMailIn lo hi w' n v3 := by
  obtain ⟨⟨a3, c3, e3, t3⟩⟩ := h
  exact ⟨⟨a3, c3, e3, t3.same hs⟩⟩
theorem GMailIn.mono {lo lo' hi hi' : Nat} {w : World} {n : GMail} {v3 : Value} (h : GMailIn lo hi w n v3) (hl : lo' ≤ lo) (hh : hi ≤ hi') : GMailIn lo' hi' w n v3 := by
  obtain ⟨⟨a3, c3, e3, t3⟩⟩ := h
  exact ⟨⟨a3, c3, e3, t3.mono hl hh⟩⟩
structure GMailAt (w : World) (A : Addr) (n : GMail) (v3 : Value) : Prop where
  c0 : w.cell? A = some (.int .i64 n.uid)
  c1 : w.cell? ⟨A.block, A.off + 1, none⟩ = some (.int .i64 n.modF)
  c2 : w.cell? ⟨A.block, A.off + 2, none⟩ = some (.int .i64 n.time)
  c3 : w.cell? ⟨A.block, A.off + 3, none⟩ = some (v3)
  c4 : w.cell? ⟨A.block, A.off + 4, none⟩ = some (.string n.message)
theorem GMailAt.same {lo hi : Nat} {w w' : World} {A : Addr} {n : GMail} {v3 : Value} (h : GMailAt w A n v3) (hs : Same lo hi w w') (h1 : lo ≤ A.block) (h2 : A.block < hi) : GMailAt w' A n v3 :=
  ⟨(hs.cell h1 h2).trans h.c0, (hs.cell (p := ⟨A.block, A.off + 1, none⟩) h1 h2).trans h.c1, (hs.cell (p := ⟨A.block, A.off + 2, none⟩) h1 h2).trans h.c2, (hs.cell (p := ⟨A.block, A.off + 3, none⟩) h1 h2).trans h.c3, (hs.cell (p := ⟨A.block, A.off + 4, none⟩) h1 h2).trans h.c4⟩
def GMailsL (lo hi : Nat) (w : World) (o : Option Addr) (F : List GMail) : Prop := ∀ i (h : i < F.length), ∃ a v3, o = some a ∧ lo ≤ a.block ∧ a.block < hi ∧ GMailAt w (a.add (i * 5)) F[i] v3 ∧ GMailIn lo hi w F[i] v3
theorem GMailsL.same {lo hi : Nat} {w w' : World} {o : Option Addr} {F : List GMail} (h : GMailsL lo hi w o F) (hs : Same lo hi w w') : GMailsL lo hi w' o F := by
  intro i hi
  obtain ⟨a, v3, ho, h1, h2, h3, h4⟩ := h i hi
  exact ⟨a, v3, ho, h1, h2, h3.same hs (by rw [add_blockG]; exact h1) (by rw [add_blockG]; exact h2), h4.same hs⟩
theorem GMailsL.mono {lo lo' hi hi' : Nat} {w : World} {o : Option Addr} {F : List GMail} (h : GMailsL lo hi w o F) (hl : lo' ≤ lo) (hh : hi ≤ hi') : GMailsL lo' hi' w o F := by
  intro i hi
  obtain ⟨a, v3, ho, h1, h2, h3, h4⟩ := h i hi
  exact ⟨a, v3, ho, Nat.le_trans hl h1, Nat.lt_of_lt_of_le h2 hh, h3, h4.mono hl hh⟩
theorem GMailsL.below {lo hi B : Nat} {w w' : World} {o : Option Addr} {F : List GMail} (h : GMailsL lo hi w o F) (hb : Below B w w') (hB : hi ≤ B) : GMailsL lo hi w' o F := h.same (Same.of_below hb hB)
structure GMailL (f : Nat → Value) (j : Nat) (n : GMail) (v3 : Value) : Prop where
  c0 : f (j * 5) = .int .i64 n.uid
  c1 : f (j * 5 + 1) = .int .i64 n.modF
  c2 : f (j * 5 + 2) = .int .i64 n.time
  c3 : f (j * 5 + 3) = v3
  c4 : f (j * 5 + 4) = .string n.message
def GMailSet (w : World) (g k : Nat) (n : GMail) (v3 : Value) : World := (((((w.setCell ⟨g, k * 5, none⟩ (.int .i64 n.uid)).setCell ⟨g, k * 5 + 1, none⟩ (.int .i64 n.modF)).setCell ⟨g, k * 5 + 2, none⟩ (.int .i64 n.time)).setCell ⟨g, k * 5 + 3, none⟩ (v3)).setCell ⟨g, k * 5 + 4, none⟩ (.string n.message))
theorem GMailRow {w : World} {g t N : Nat} {f : Nat → Value} (h : w.rowIs g t N f) (k : Nat) (n : GMail) (v3 : Value) :
    ∃ f', (GMailSet w g k n v3).rowIs g t N f' ∧ GMailL f' k n v3 ∧ ∀ (j : Nat) (m : GMail) (q3 : Value), j ≠ k → GMailL f j m q3 → GMailL f' j m q3 := by
  refine ⟨_, (((((h.set _ _).set _ _).set _ _).set _ _).set _ _), ?_, ?_⟩
  · constructor <;> simp
  · intro j m q3 hj hl
    obtain ⟨c0, c1, c2, c3, c4⟩ := hl
    constructor <;> rw [if_neg (by omega), if_neg (by omega), if_neg (by omega), if_neg (by omega), if_neg (by omega)] <;> assumption
theorem GMailGr (w : World) (g k : Nat) (n : GMail) (v3 : Value) : w.grownBy (GMailSet w g k n v3) (some g) := grG_trans (grG_trans (grG_trans (grG_trans (grG_set _ _ _ _) (grG_set _ _ _ _)) (grG_set _ _ _ _)) (grG_set _ _ _ _)) (grG_set _ _ _ _)
theorem Try.infoGMail : (Try.prog.info? 44).map (fun i => (i.zero, i.size, i.bytes)) = some (some (.agg #[.int .i64 0, .int .i64 0, .int .i64 0, .slice none 0 0, .string ⟨#[]⟩]), 5, 64) := by kernel_rfl
set_option maxHeartbeats 1000000 in
theorem lawEqMail (n : GMail) (v3 : Value) (u3 : Value) (lo lo' : Nat) (w : World) (hI : GMailIn lo w.heap.size w n v3) (hJ : GMailIn lo' w.heap.size w n u3) (hf : n.fits 1048576) :
    Calls Try.prog 22 #[GMailV n v3, GMailV n u3] w fun e w' => e = .returned (.bool true) ∧ Below w.heap.size w w' := by
  obtain ⟨⟨a3, c3, rfl, t3⟩⟩ := hI
  obtain ⟨⟨b3, d3, rfl, s3⟩⟩ := hJ
  obtain ⟨f3_0, f3_1, f4_0⟩ := hf
  have H3 := mkHid fun (w' : World) (hb : Below w.heap.size w w') => lawEqSStr a3 b3 n.flags c3 d3 lo lo' w' ((t3.below hb (Nat.le_refl _)).mono (Nat.le_refl _) hb.size) ((s3.below hb (Nat.le_refl _)).mono (Nat.le_refl _) hb.size) f3_0
  clear f3_0 f3_1 f4_0 t3 s3
  unfold GMailV
  obtain ⟨W0, hW⟩ : ∃ W, W = (w.alloc (.cells #[.int .i64 n.uid, .int .i64 n.modF, .int .i64 n.time, .slice a3 n.flags.length c3, .string n.message] 44)).alloc (.cells #[.int .i64 n.uid, .int .i64 n.modF, .int .i64 n.time, .slice b3 n.flags.length d3, .string n.message] 44) := ⟨_, rfl⟩
  obtain ⟨hb0, hs0, hA0, hB0⟩ := two_blocks hW
  have HW := mkHid hW
  clear hW
  go_enter Try.func22, Try.ntmps22
  go_wp2_with fail
  rw [← HW.out]
  refine (H3.out W0 hb0).mono ?_
  rintro e W1 ⟨rfl, hw1⟩
  have hw1s := hw1.size
  have hA1 := (hw1.block w.heap.size (by omega)).trans hA0
  have hB1 := (hw1.block (w.heap.size + 1) (by omega)).trans hB0
  have hb1 := hb0.trans (hw1.mono (by omega))
  have hs1 : w.heap.size + 2 ≤ W1.heap.size := Nat.le_trans hs0 hw1s
  have p1_4 : W1.cell? ⟨w.heap.size, 4, none⟩ = some (.string n.message) := by simp [World.cell?, hA1]
  have q1_4 : W1.cell? ⟨w.heap.size + 1, 4, none⟩ = some (.string n.message) := by simp [World.cell?, hB1]
  clear hA0 hB0 hw1 hs0 hb0 hw1s HW
  clear hA1 hB1 hs1
  go_wp2
  go_ret
  exact ⟨rfl, hb1⟩
set_option maxHeartbeats 2000000 in
set_option maxRecDepth 10000 in
theorem lawEqSMail (a b : Option Addr) (F : List GMail) (cap cap' lo lo' : Nat) (w : World) (hF : GMailsL lo w.heap.size w a F) (hG : GMailsL lo' w.heap.size w b F) (hlen : F.length ≤ 1048576) (hfit : ∀ f ∈ F, f.fits 1048576) :
    Calls Try.prog 18 #[.slice a F.length cap, .slice b F.length cap'] w fun e w' => e = .returned (.bool true) ∧ Below w.heap.size w w' := by
  have HF := mkHid hF
  have HG := mkHid hG
  have Hfit := mkHid hfit
  clear hF hG hfit
  go_enter Try.func18, Try.ntmps18
  go_wp2
  go_loopw [5] (fun i wr => ∃ k : Nat, k ≤ F.length ∧ i = .int .i64 k ∧ Below w.heap.size w wr) (fun i _ => F.length - (Lib.intOf i).toNat)
  case atStart => exact ⟨0, Nat.zero_le _, rfl, Below.refl _ _⟩
  case round =>
    obtain ⟨k, hk, rfl, hb0⟩ := hrel
    by_cases hlt : k < F.length
    · obtain ⟨a', v3, rfl, ha, ha', hA, hI⟩ := (HF.out.below hb0 (Nat.le_refl _)) k hlt
      obtain ⟨b', u3, rfl, hb, hb', hB, hJ⟩ := (HG.out.below hb0 (Nat.le_refl _)) k hlt
      have hE := mkHid fun (w' : World) (hb' : Below wr.heap.size wr w') => lawEqMail F[k] v3 u3 lo lo' w' ((hI.mono (Nat.le_refl _) hb0.size).same (Same.of_below hb' (Nat.le_refl _)) |>.mono (Nat.le_refl _) hb'.size) ((hJ.mono (Nat.le_refl _) hb0.size).same (Same.of_below hb' (Nat.le_refl _)) |>.mono (Nat.le_refl _) hb'.size) (Hfit.out _ (List.getElem_mem hlt))
      have c0 := hA.c0
      have c1 := hA.c1
      have c2 := hA.c2
      have c3 := hA.c3
      have c4 := hA.c4
      have d0 := hB.c0
      have d1 := hB.c1
      have d2 := hB.c2
      have d3 := hB.c3
      have d4 := hB.c4
      clear hA hB hI hJ
      generalize F[k] = n at *
      have cE : Hid (∀ d os, Calls Try.prog 22 #[GMailV n v3, GMailV n u3] (Go.Sort.grow (redrawn wr d) os) fun e w'' => e = .returned (.bool true) ∧ ∃ p : Regrown, w'' = Go.Sort.grow (redrawn wr p.d) p.os) := fun d os => Calls.regrown_of (hE.out _ (below_regrown wr d os))
      unfold GMailV at cE
      go_wp2
      have k0 := cell_regrown c0
      have l0 := cell_regrown d0
      have k1 := cell_regrown c1
      have l1 := cell_regrown d1
      have k2 := cell_regrown c2
      have l2 := cell_regrown d2
      have k3 := cell_regrown c3
      have l3 := cell_regrown d3
      have k4 := cell_regrown c4
      have l4 := cell_regrown d4
      clear hE c0 c1 c2 c3 c4 d0 d1 d2 d3 d4
      refine wp_region_quiet_below (by kernel_rfl) (by kernel_rfl) ?_
      repeat (go_big_quiet_step (exact cE.out _ _))
      refine wpQuiet_nil ?_
      intro _ hw'
      obtain ⟨⟨dq, osq⟩, hw''⟩ := hw'
      subst hw''
      have hbq := mkHid (hb0.trans ((below_regrown wr dq osq).mono hb0.size))
      generalize Go.Sort.grow (redrawn wr dq) osq = wq at *
      clear k0 k1 k2 k3 k4 l0 l1 l2 l3 l4 cE hb0
      go_wp2
      go_roundw
      case rel => exact ⟨k + 1, by omega, by go_num, hbq.out⟩
      case measure => simp [Lib.intOf]; omega
    · go_wp2
      go_ret
      exact ⟨rfl, hb0⟩
end Go.Proofs.Ytlkjmgjcofijfaa
