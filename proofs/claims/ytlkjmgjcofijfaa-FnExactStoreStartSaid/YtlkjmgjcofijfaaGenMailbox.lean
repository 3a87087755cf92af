
/- Mailbox: as the law has it and as the program has it; handed in, made anew, held against one another. (By tools/gen/structs.py.) -/
import Derived.Test.YtlkjmgjcofijfaaGenMail
namespace Go.Proofs.Ytlkjmgjcofijfaa
open Go.RowKit Go.Lib Go.Maps
structure GMailbox where
  name : ByteArray
  validity : Int
  nextUid : Int
  topMod : Int
  mails : List GMail
  gones : List GGone
def GMailboxV (n : GMailbox) (v4 v5 : Value) : Value := .agg #[.string n.name, .int .i64 n.validity, .int .i64 n.nextUid, .int .i64 n.topMod, v4, v5]
def GMailbox.fits (n : GMailbox) (m : Nat) : Prop := n.name.size ≤ m ∧ n.mails.length ≤ m ∧ (∀ x ∈ n.mails, x.fits m) ∧ n.gones.length ≤ m ∧ (∀ x ∈ n.gones, x.fits m)
structure GMailboxIn (lo hi : Nat) (w : World) (n : GMailbox) (v4 v5 : Value) : Prop where
  s4 : ∃ a c, v4 = .slice a n.mails.length c ∧ GMailsL lo hi w a n.mails
  s5 : ∃ a c, v5 = .slice a n.gones.length c ∧ GGonesL lo hi w a n.gones
theorem GMailboxIn.same {lo hi : Nat} {w w' : World} {n : GMailbox} {v4 v5 : Value} (h : GMailboxIn lo hi w n v4 v5) (hs : Same lo hi w w') : GMailboxIn lo hi w' n v4 v5 := by
  obtain ⟨⟨a4, c4, e4, t4⟩, ⟨a5, c5, e5, t5⟩⟩ := h
  exact ⟨⟨a4, c4, e4, t4.same hs⟩, ⟨a5, c5, e5, t5.same hs⟩⟩
theorem GMailboxIn.mono {lo lo' hi hi' : Nat} {w : World} {n : GMailbox} {v4 v5 : Value} (h : GMailboxIn lo hi w n v4 v5) (hl : lo' ≤ lo) (hh : hi ≤ hi') : GMailboxIn lo' hi' w n v4 v5 := by
  obtain ⟨⟨a4, c4, e4, t4⟩, ⟨a5, c5, e5, t5⟩⟩ := h
  exact ⟨⟨a4, c4, e4, t4.mono hl hh⟩, ⟨a5, c5, e5, t5.mono hl hh⟩⟩
structure GMailboxAt (w : World) (A : Addr) (n : GMailbox) (v4 v5 : Value) : Prop where
  c0 : w.cell? A = some (.string n.name)
  c1 : w.cell? ⟨A.block, A.off + 1, none⟩ = some (.int .i64 n.validity)
  c2 : w.cell? ⟨A.block, A.off + 2, none⟩ = some (.int .i64 n.nextUid)
  c3 : w.cell? ⟨A.block, A.off + 3, none⟩ = some (.int .i64 n.topMod)
  c4 : w.cell? ⟨A.block, A.off + 4, none⟩ = some (v4)
  c5 : w.cell? ⟨A.block, A.off + 5, none⟩ = some (v5)
theorem GMailboxAt.same {lo hi : Nat} {w w' : World} {A : Addr} {n : GMailbox} {v4 v5 : Value} (h : GMailboxAt w A n v4 v5) (hs : Same lo hi w w') (h1 : lo ≤ A.block) (h2 : A.block < hi) : GMailboxAt w' A n v4 v5 :=
  ⟨(hs.cell h1 h2).trans h.c0, (hs.cell (p := ⟨A.block, A.off + 1, none⟩) h1 h2).trans h.c1, (hs.cell (p := ⟨A.block, A.off + 2, none⟩) h1 h2).trans h.c2, (hs.cell (p := ⟨A.block, A.off + 3, none⟩) h1 h2).trans h.c3, (hs.cell (p := ⟨A.block, A.off + 4, none⟩) h1 h2).trans h.c4, (hs.cell (p := ⟨A.block, A.off + 5, none⟩) h1 h2).trans h.c5⟩
def GMailboxsL (lo hi : Nat) (w : World) (o : Option Addr) (F : List GMailbox) : Prop := ∀ i (h : i < F.length), ∃ a v4 v5, o = some a ∧ lo ≤ a.block ∧ a.block < hi ∧ GMailboxAt w (a.add (i * 6)) F[i] v4 v5 ∧ GMailboxIn lo hi w F[i] v4 v5
theorem GMailboxsL.same {lo hi : Nat} {w w' : World} {o : Option Addr} {F : List GMailbox} (h : GMailboxsL lo hi w o F) (hs : Same lo hi w w') : GMailboxsL lo hi w' o F := by
  intro i hi
  obtain ⟨a, v4, v5, ho, h1, h2, h3, h4⟩ := h i hi
  exact ⟨a, v4, v5, ho, h1, h2, h3.same hs (by rw [add_blockG]; exact h1) (by rw [add_blockG]; exact h2), h4.same hs⟩
theorem GMailboxsL.mono {lo lo' hi hi' : Nat} {w : World} {o : Option Addr} {F : List GMailbox} (h : GMailboxsL lo hi w o F) (hl : lo' ≤ lo) (hh : hi ≤ hi') : GMailboxsL lo' hi' w o F := by
  intro i hi
  obtain ⟨a, v4, v5, ho, h1, h2, h3, h4⟩ := h i hi
  exact ⟨a, v4, v5, ho, Nat.le_trans hl h1, Nat.lt_of_lt_of_le h2 hh, h3, h4.mono hl hh⟩
theorem GMailboxsL.below {lo hi B : Nat} {w w' : World} {o : Option Addr} {F : List GMailbox} (h : GMailboxsL lo hi w o F) (hb : Below B w w') (hB : hi ≤ B) : GMailboxsL lo hi w' o F := h.same (Same.of_below hb hB)
structure GMailboxL (f : Nat → Value) (j : Nat) (n : GMailbox) (v4 v5 : Value) : Prop where
  c0 : f (j * 6) = .string n.name
  c1 : f (j * 6 + 1) = .int .i64 n.validity
  c2 : f (j * 6 + 2) = .int .i64 n.nextUid
  c3 : f (j * 6 + 3) = .int .i64 n.topMod
  c4 : f (j * 6 + 4) = v4
  c5 : f (j * 6 + 5) = v5
def GMailboxSet (w : World) (g k : Nat) (n : GMailbox) (v4 v5 : Value) : World := ((((((w.setCell ⟨g, k * 6, none⟩ (.string n.name)).setCell ⟨g, k * 6 + 1, none⟩ (.int .i64 n.validity)).setCell ⟨g, k * 6 + 2, none⟩ (.int .i64 n.nextUid)).setCell ⟨g, k * 6 + 3, none⟩ (.int .i64 n.topMod)).setCell ⟨g, k * 6 + 4, none⟩ (v4)).setCell ⟨g, k * 6 + 5, none⟩ (v5))
theorem GMailboxRow {w : World} {g t N : Nat} {f : Nat → Value} (h : w.rowIs g t N f) (k : Nat) (n : GMailbox) (v4 v5 : Value) :
    ∃ f', (GMailboxSet w g k n v4 v5).rowIs g t N f' ∧ GMailboxL f' k n v4 v5 ∧ ∀ (j : Nat) (m : GMailbox) (q4 q5 : Value), j ≠ k → GMailboxL f j m q4 q5 → GMailboxL f' j m q4 q5 := by
  refine ⟨_, ((((((h.set _ _).set _ _).set _ _).set _ _).set _ _).set _ _), ?_, ?_⟩
  · constructor <;> simp
  · intro j m q4 q5 hj hl
    obtain ⟨c0, c1, c2, c3, c4, c5⟩ := hl
    constructor <;> rw [if_neg (by omega), if_neg (by omega), if_neg (by omega), if_neg (by omega), if_neg (by omega), if_neg (by omega)] <;> assumption
theorem GMailboxGr (w : World) (g k : Nat) (n : GMailbox) (v4 v5 : Value) : w.grownBy (GMailboxSet w g k n v4 v5) (some g) := grG_trans (grG_trans (grG_trans (grG_trans (grG_trans (grG_set _ _ _ _) (grG_set _ _ _ _)) (grG_set _ _ _ _)) (grG_set _ _ _ _)) (grG_set _ _ _ _)) (grG_set _ _ _ _)
theorem Try.infoGMailbox : (Try.prog.info? 32).map (fun i => (i.zero, i.size, i.bytes)) = some (some (.agg #[.string ⟨#[]⟩, .int .i64 0, .int .i64 0, .int .i64 0, .slice none 0 0, .slice none 0 0]), 6, 88) := by kernel_rfl
set_option maxHeartbeats 1000000 in
theorem lawEqMailbox (n : GMailbox) (v4 v5 : Value) (u4 u5 : Value) (lo lo' : Nat) (w : World) (hI : GMailboxIn lo w.heap.size w n v4 v5) (hJ : GMailboxIn lo' w.heap.size w n u4 u5) (hf : n.fits 1048576) :
    Calls Try.prog 12 #[GMailboxV n v4 v5, GMailboxV n u4 u5] w fun e w' => e = .returned (.bool true) ∧ Below w.heap.size w w' := by
  obtain ⟨⟨a4, c4, rfl, t4⟩, ⟨a5, c5, rfl, t5⟩⟩ := hI
  obtain ⟨⟨b4, d4, rfl, s4⟩, ⟨b5, d5, rfl, s5⟩⟩ := hJ
  obtain ⟨f0_0, f4_0, f4_1, f5_0, f5_1⟩ := hf
  have H4 := mkHid fun (w' : World) (hb : Below w.heap.size w w') => lawEqSMail a4 b4 n.mails c4 d4 lo lo' w' ((t4.below hb (Nat.le_refl _)).mono (Nat.le_refl _) hb.size) ((s4.below hb (Nat.le_refl _)).mono (Nat.le_refl _) hb.size) f4_0 f4_1
  have H5 := mkHid fun (w' : World) (hb : Below w.heap.size w w') => lawEqSGone a5 b5 n.gones c5 d5 lo lo' w' ((t5.below hb (Nat.le_refl _)).mono (Nat.le_refl _) hb.size) ((s5.below hb (Nat.le_refl _)).mono (Nat.le_refl _) hb.size) f5_0 f5_1
  clear f0_0 f4_0 f4_1 f5_0 f5_1 t4 s4 t5 s5
  unfold GMailboxV
  obtain ⟨W0, hW⟩ : ∃ W, W = (w.alloc (.cells #[.string n.name, .int .i64 n.validity, .int .i64 n.nextUid, .int .i64 n.topMod, .slice a4 n.mails.length c4, .slice a5 n.gones.length c5] 32)).alloc (.cells #[.string n.name, .int .i64 n.validity, .int .i64 n.nextUid, .int .i64 n.topMod, .slice b4 n.mails.length d4, .slice b5 n.gones.length d5] 32) := ⟨_, rfl⟩
  obtain ⟨hb0, hs0, hA0, hB0⟩ := two_blocks hW
  have HW := mkHid hW
  clear hW
  go_enter Try.func12, Try.ntmps12
  go_wp2_with fail
  rw [← HW.out]
  refine (H4.out W0 hb0).mono ?_
  rintro e W1 ⟨rfl, hw1⟩
  have hw1s := hw1.size
  have hA1 := (hw1.block w.heap.size (by omega)).trans hA0
  have hB1 := (hw1.block (w.heap.size + 1) (by omega)).trans hB0
  have hb1 := hb0.trans (hw1.mono (by omega))
  have hs1 : w.heap.size + 2 ≤ W1.heap.size := Nat.le_trans hs0 hw1s
  have p1_5 : W1.cell? ⟨w.heap.size, 5, none⟩ = some (.slice a5 n.gones.length c5) := by simp [World.cell?, hA1]
  have q1_5 : W1.cell? ⟨w.heap.size + 1, 5, none⟩ = some (.slice b5 n.gones.length d5) := by simp [World.cell?, hB1]
  clear hA0 hB0 hw1 hs0 hb0 hw1s HW
  go_wp2_with fail
  refine (H5.out W1 hb1).mono ?_
  rintro e W2 ⟨rfl, hw2⟩
  have hw2s := hw2.size
  have hA2 := (hw2.block w.heap.size (by omega)).trans hA1
  have hB2 := (hw2.block (w.heap.size + 1) (by omega)).trans hB1
  have hb2 := hb1.trans (hw2.mono (by omega))
  have hs2 : w.heap.size + 2 ≤ W2.heap.size := Nat.le_trans hs1 hw2s
  clear hA1 hB1 hw2 hs1 hb1 hw2s
  clear hA2 hB2 hs2
  clear p1_5 q1_5
  go_wp2
  go_ret
  exact ⟨rfl, hb2⟩
set_option maxHeartbeats 2000000 in
set_option maxRecDepth 10000 in
theorem lawEqSMailbox (a b : Option Addr) (F : List GMailbox) (cap cap' lo lo' : Nat) (w : World) (hF : GMailboxsL lo w.heap.size w a F) (hG : GMailboxsL lo' w.heap.size w b F) (hlen : F.length ≤ 1048576) (hfit : ∀ f ∈ F, f.fits 1048576) :
    Calls Try.prog 9 #[.slice a F.length cap, .slice b F.length cap'] w fun e w' => e = .returned (.bool true) ∧ Below w.heap.size w w' := by
  have HF := mkHid hF
  have HG := mkHid hG
  have Hfit := mkHid hfit
  clear hF hG hfit
  go_enter Try.func9, Try.ntmps9
  go_wp2
  go_loopw [5] (fun i wr => ∃ k : Nat, k ≤ F.length ∧ i = .int .i64 k ∧ Below w.heap.size w wr) (fun i _ => F.length - (Lib.intOf i).toNat)
  case atStart => exact ⟨0, Nat.zero_le _, rfl, Below.refl _ _⟩
  case round =>
    obtain ⟨k, hk, rfl, hb0⟩ := hrel
    by_cases hlt : k < F.length
    · obtain ⟨a', v4, v5, rfl, ha, ha', hA, hI⟩ := (HF.out.below hb0 (Nat.le_refl _)) k hlt
      obtain ⟨b', u4, u5, rfl, hb, hb', hB, hJ⟩ := (HG.out.below hb0 (Nat.le_refl _)) k hlt
      have hE := mkHid fun (w' : World) (hb' : Below wr.heap.size wr w') => lawEqMailbox F[k] v4 v5 u4 u5 lo lo' w' ((hI.mono (Nat.le_refl _) hb0.size).same (Same.of_below hb' (Nat.le_refl _)) |>.mono (Nat.le_refl _) hb'.size) ((hJ.mono (Nat.le_refl _) hb0.size).same (Same.of_below hb' (Nat.le_refl _)) |>.mono (Nat.le_refl _) hb'.size) (Hfit.out _ (List.getElem_mem hlt))
      have c0 := hA.c0
      have c1 := hA.c1
      have c2 := hA.c2
      have c3 := hA.c3
      have c4 := hA.c4
      have c5 := hA.c5
      have d0 := hB.c0
      have d1 := hB.c1
      have d2 := hB.c2
      have d3 := hB.c3
      have d4 := hB.c4
      have d5 := hB.c5
      clear hA hB hI hJ
      generalize F[k] = n at *
      have cE : Hid (∀ d os, Calls Try.prog 12 #[GMailboxV n v4 v5, GMailboxV n u4 u5] (Go.Sort.grow (redrawn wr d) os) fun e w'' => e = .returned (.bool true) ∧ ∃ p : Regrown, w'' = Go.Sort.grow (redrawn wr p.d) p.os) := fun d os => Calls.regrown_of (hE.out _ (below_regrown wr d os))
      unfold GMailboxV at cE
      go_wp2
      have k0 := cell_regrown c0
      have l0 := cell_regrown d0
      have k1 := cell_regrown c1
      have l1 := cell_regrown d1
      have k2 := cell_regrown c2
      have l2 := cell_regrown d2
      have k3 := cell_regrown c3
      have l3 := cell_regrown d3
      have k4 := cell_regrown c4
      have l4 := cell_regrown d4
      have k5 := cell_regrown c5
      have l5 := cell_regrown d5
      clear hE c0 c1 c2 c3 c4 c5 d0 d1 d2 d3 d4 d5
      refine wp_region_quiet_below (by kernel_rfl) (by kernel_rfl) ?_
      repeat (go_big_quiet_step (exact cE.out _ _))
      refine wpQuiet_nil ?_
      intro _ hw'
      obtain ⟨⟨dq, osq⟩, hw''⟩ := hw'
      subst hw''
      have hbq := mkHid (hb0.trans ((below_regrown wr dq osq).mono hb0.size))
      generalize Go.Sort.grow (redrawn wr dq) osq = wq at *
      clear k0 k1 k2 k3 k4 k5 l0 l1 l2 l3 l4 l5 cE hb0
      go_wp2
      go_roundw
      case rel => exact ⟨k + 1, by omega, by go_num, hbq.out⟩
      case measure => simp [Lib.intOf]; omega
    · go_wp2
      go_ret
      exact ⟨rfl, hb0⟩
end Go.Proofs.Ytlkjmgjcofijfaa
