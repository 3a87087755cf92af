
/- Reply: as the law has it and as the program has it; handed in, made anew, held against one another. (By tools/gen/structs.py.) -/
import Derived.Test.YtmclnkcpflehdaaDoorGenBase
namespace Go.Proofs.YtmclnkcpflehdaaDoor
open Go.RowKit Go.Lib Go.Maps
structure GReply where
  code : Int
  lines : List ByteArray
def GReplyV (n : GReply) (v1 : Value) : Value := .agg #[.int .i64 n.code, v1]
def GReply.fits (n : GReply) (m : Nat) : Prop := n.lines.length ≤ m ∧ (∀ t ∈ n.lines, t.size ≤ m)
structure GReplyIn (lo hi : Nat) (w : World) (n : GReply) (v1 : Value) : Prop where
  s1 : ∃ a c, v1 = .slice a n.lines.length c ∧ TxL lo hi w a n.lines
theorem GReplyIn.same {lo hi : Nat} {w w' : World} {n : GReply} {v1 : Value} (h : GReplyIn lo hi w n v1) (hs : Same lo hi w w') : GReplyIn lo hi w' n v1 := by
  obtain ⟨⟨a1, c1, e1, t1⟩⟩ := h
  exact ⟨⟨a1, c1, e1, t1.same hs⟩⟩
theorem GReplyIn.mono {lo lo' hi hi' : Nat} {w : World} {n : GReply} {v1 : Value} (h : GReplyIn lo hi w n v1) (hl : lo' ≤ lo) (hh : hi ≤ hi') : GReplyIn lo' hi' w n v1 := by
  obtain ⟨⟨a1, c1, e1, t1⟩⟩ := h
  exact ⟨⟨a1, c1, e1, t1.mono hl hh⟩⟩
structure GReplyAt (w : World) (A : Addr) (n : GReply) (v1 : Value) : Prop where
  c0 : w.cell? A = some (.int .i64 n.code)
  c1 : w.cell? ⟨A.block, A.off + 1, none⟩ = some (v1)
theorem GReplyAt.same {lo hi : Nat} {w w' : World} {A : Addr} {n : GReply} {v1 : Value} (h : GReplyAt w A n v1) (hs : Same lo hi w w') (h1 : lo ≤ A.block) (h2 : A.block < hi) : GReplyAt w' A n v1 :=
  ⟨(hs.cell h1 h2).trans h.c0, (hs.cell (p := ⟨A.block, A.off + 1, none⟩) h1 h2).trans h.c1⟩
def GReplysL (lo hi : Nat) (w : World) (o : Option Addr) (F : List GReply) : Prop := ∀ i (h : i < F.length), ∃ a v1, o = some a ∧ lo ≤ a.block ∧ a.block < hi ∧ GReplyAt w (a.add (i * 2)) F[i] v1 ∧ GReplyIn lo hi w F[i] v1
theorem GReplysL.same {lo hi : Nat} {w w' : World} {o : Option Addr} {F : List GReply} (h : GReplysL lo hi w o F) (hs : Same lo hi w w') : GReplysL lo hi w' o F := by
  intro i hi
  obtain ⟨a, v1, ho, h1, h2, h3, h4⟩ := h i hi
  exact ⟨a, v1, ho, h1, h2, h3.same hs (by rw [add_blockG]; exact h1) (by rw [add_blockG]; exact h2), h4.same hs⟩
theorem GReplysL.mono {lo lo' hi hi' : Nat} {w : World} {o : Option Addr} {F : List GReply} (h : GReplysL lo hi w o F) (hl : lo' ≤ lo) (hh : hi ≤ hi') : GReplysL lo' hi' w o F := by
  intro i hi
  obtain ⟨a, v1, ho, h1, h2, h3, h4⟩ := h i hi
  exact ⟨a, v1, ho, Nat.le_trans hl h1, Nat.lt_of_lt_of_le h2 hh, h3, h4.mono hl hh⟩
theorem GReplysL.below {lo hi B : Nat} {w w' : World} {o : Option Addr} {F : List GReply} (h : GReplysL lo hi w o F) (hb : Below B w w') (hB : hi ≤ B) : GReplysL lo hi w' o F := h.same (Same.of_below hb hB)
structure GReplyL (f : Nat → Value) (j : Nat) (n : GReply) (v1 : Value) : Prop where
  c0 : f (j * 2) = .int .i64 n.code
  c1 : f (j * 2 + 1) = v1
def GReplySet (w : World) (g k : Nat) (n : GReply) (v1 : Value) : World := ((w.setCell ⟨g, k * 2, none⟩ (.int .i64 n.code)).setCell ⟨g, k * 2 + 1, none⟩ (v1))
theorem GReplyRow {w : World} {g t N : Nat} {f : Nat → Value} (h : w.rowIs g t N f) (k : Nat) (n : GReply) (v1 : Value) :
    ∃ f', (GReplySet w g k n v1).rowIs g t N f' ∧ GReplyL f' k n v1 ∧ ∀ (j : Nat) (m : GReply) (q1 : Value), j ≠ k → GReplyL f j m q1 → GReplyL f' j m q1 := by
  refine ⟨_, ((h.set _ _).set _ _), ?_, ?_⟩
  · constructor <;> simp
  · intro j m q1 hj hl
    obtain ⟨c0, c1⟩ := hl
    constructor <;> rw [if_neg (by omega), if_neg (by omega)] <;> assumption
theorem GReplyGr (w : World) (g k : Nat) (n : GReply) (v1 : Value) : w.grownBy (GReplySet w g k n v1) (some g) := grG_trans (grG_set _ _ _ _) (grG_set _ _ _ _)
theorem Tryd.infoGReply : (Tryd.prog.info? 34).map (fun i => (i.zero, i.size, i.bytes)) = some (some (.agg #[.int .i64 0, .slice none 0 0]), 2, 32) := by kernel_rfl
set_option maxHeartbeats 1000000 in
theorem lawEqReply (n : GReply) (v1 : Value) (u1 : Value) (lo lo' : Nat) (w : World) (hI : GReplyIn lo w.heap.size w n v1) (hJ : GReplyIn lo' w.heap.size w n u1) (hf : n.fits 1048576) :
    Calls Tryd.prog 25 #[GReplyV n v1, GReplyV n u1] w fun e w' => e = .returned (.bool true) ∧ Below w.heap.size w w' := by
  obtain ⟨⟨a1, c1, rfl, t1⟩⟩ := hI
  obtain ⟨⟨b1, d1, rfl, s1⟩⟩ := hJ
  obtain ⟨f1_0, f1_1⟩ := hf
  have H1 := mkHid fun (w' : World) (hb : Below w.heap.size w w') => lawEqSStr a1 b1 n.lines c1 d1 lo lo' w' ((t1.below hb (Nat.le_refl _)).mono (Nat.le_refl _) hb.size) ((s1.below hb (Nat.le_refl _)).mono (Nat.le_refl _) hb.size) f1_0
  clear f1_0 f1_1 t1 s1
  unfold GReplyV
  obtain ⟨W0, hW⟩ : ∃ W, W = (w.alloc (.cells #[.int .i64 n.code, .slice a1 n.lines.length c1] 34)).alloc (.cells #[.int .i64 n.code, .slice b1 n.lines.length d1] 34) := ⟨_, rfl⟩
  obtain ⟨hb0, hs0, hA0, hB0⟩ := two_blocks hW
  have HW := mkHid hW
  clear hW
  go_enter Tryd.func25, Tryd.ntmps25
  go_wp2_with fail
  rw [← HW.out]
  refine (H1.out W0 hb0).mono ?_
  rintro e W1 ⟨rfl, hw1⟩
  have hw1s := hw1.size
  have hA1 := (hw1.block w.heap.size (by omega)).trans hA0
  have hB1 := (hw1.block (w.heap.size + 1) (by omega)).trans hB0
  have hb1 := hb0.trans (hw1.mono (by omega))
  have hs1 : w.heap.size + 2 ≤ W1.heap.size := Nat.le_trans hs0 hw1s
  clear hA0 hB0 hw1 hs0 hb0 hw1s HW
  clear hA1 hB1 hs1
  go_wp2
  go_ret
  exact ⟨rfl, hb1⟩
set_option maxHeartbeats 2000000 in
set_option maxRecDepth 10000 in
theorem lawEqSReply (a b : Option Addr) (F : List GReply) (cap cap' lo lo' : Nat) (w : World) (hF : GReplysL lo w.heap.size w a F) (hG : GReplysL lo' w.heap.size w b F) (hlen : F.length ≤ 1048576) (hfit : ∀ f ∈ F, f.fits 1048576) :
    Calls Tryd.prog 17 #[.slice a F.length cap, .slice b F.length cap'] w fun e w' => e = .returned (.bool true) ∧ Below w.heap.size w w' := by
  have HF := mkHid hF
  have HG := mkHid hG
  have Hfit := mkHid hfit
  clear hF hG hfit
  go_enter Tryd.func17, Tryd.ntmps17
  go_wp2
  go_loopw [5] (fun i wr => ∃ k : Nat, k ≤ F.length ∧ i = .int .i64 k ∧ Below w.heap.size w wr) (fun i _ => F.length - (Lib.intOf i).toNat)
  case atStart => exact ⟨0, Nat.zero_le _, rfl, Below.refl _ _⟩
  case round =>
    obtain ⟨k, hk, rfl, hb0⟩ := hrel
    by_cases hlt : k < F.length
    · obtain ⟨a', v1, rfl, ha, ha', hA, hI⟩ := (HF.out.below hb0 (Nat.le_refl _)) k hlt
      obtain ⟨b', u1, rfl, hb, hb', hB, hJ⟩ := (HG.out.below hb0 (Nat.le_refl _)) k hlt
      have hE := mkHid fun (w' : World) (hb' : Below wr.heap.size wr w') => lawEqReply F[k] v1 u1 lo lo' w' ((hI.mono (Nat.le_refl _) hb0.size).same (Same.of_below hb' (Nat.le_refl _)) |>.mono (Nat.le_refl _) hb'.size) ((hJ.mono (Nat.le_refl _) hb0.size).same (Same.of_below hb' (Nat.le_refl _)) |>.mono (Nat.le_refl _) hb'.size) (Hfit.out _ (List.getElem_mem hlt))
      have c0 := hA.c0
      have c1 := hA.c1
      have d0 := hB.c0
      have d1 := hB.c1
      clear hA hB hI hJ
      generalize F[k] = n at *
      have cE : Hid (∀ d os, Calls Tryd.prog 25 #[GReplyV n v1, GReplyV n u1] (Go.Sort.grow (redrawn wr d) os) fun e w'' => e = .returned (.bool true) ∧ ∃ p : Regrown, w'' = Go.Sort.grow (redrawn wr p.d) p.os) := fun d os => Calls.regrown_of (hE.out _ (below_regrown wr d os))
      unfold GReplyV at cE
      go_wp2
      have k0 := cell_regrown c0
      have l0 := cell_regrown d0
      have k1 := cell_regrown c1
      have l1 := cell_regrown d1
      clear hE c0 c1 d0 d1
      refine wp_region_quiet_below (by kernel_rfl) (by kernel_rfl) ?_
      repeat (go_big_quiet_step (exact cE.out _ _))
      refine wpQuiet_nil ?_
      intro _ hw'
      obtain ⟨⟨dq, osq⟩, hw''⟩ := hw'
      subst hw''
      have hbq := mkHid (hb0.trans ((below_regrown wr dq osq).mono hb0.size))
      generalize Go.Sort.grow (redrawn wr dq) osq = wq at *
      clear k0 k1 l0 l1 cE hb0
      go_wp2
      go_roundw
      case rel => exact ⟨k + 1, by omega, by go_num, hbq.out⟩
      case measure => simp [Lib.intOf]; omega
    · go_wp2
      go_ret
      exact ⟨rfl, hb0⟩
end Go.Proofs.YtmclnkcpflehdaaDoor
