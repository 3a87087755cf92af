
/- ReplyList: as the law has it and as the program has it; handed in, made anew, held against one another. (By tools/gen/structs.py.) -/
import Derived.Test.YtmclnkcpflehdaaDoorGenReply
namespace Go.Proofs.YtmclnkcpflehdaaDoor
open Go.RowKit Go.Lib Go.Maps
structure GReplyList where
  good : Bool
  replies : List GReply
def GReplyListV (n : GReplyList) (v1 : Value) : Value := .agg #[.bool n.good, v1]
def GReplyList.fits (n : GReplyList) (m : Nat) : Prop := n.replies.length ≤ m ∧ (∀ x ∈ n.replies, x.fits m)
structure GReplyListIn (lo hi : Nat) (w : World) (n : GReplyList) (v1 : Value) : Prop where
  s1 : ∃ a c, v1 = .slice a n.replies.length c ∧ GReplysL lo hi w a n.replies
theorem GReplyListIn.same {lo hi : Nat} {w w' : World} {n : GReplyList} {v1 : Value} (h : GReplyListIn lo hi w n v1) (hs : Same lo hi w w') : GReplyListIn lo hi w' n v1 := by
  obtain ⟨⟨a1, c1, e1, t1⟩⟩ := h
  exact ⟨⟨a1, c1, e1, t1.same hs⟩⟩
theorem GReplyListIn.mono {lo lo' hi hi' : Nat} {w : World} {n : GReplyList} {v1 : Value} (h : GReplyListIn lo hi w n v1) (hl : lo' ≤ lo) (hh : hi ≤ hi') : GReplyListIn lo' hi' w n v1 := by
  obtain ⟨⟨a1, c1, e1, t1⟩⟩ := h
  exact ⟨⟨a1, c1, e1, t1.mono hl hh⟩⟩
structure GReplyListAt (w : World) (A : Addr) (n : GReplyList) (v1 : Value) : Prop where
  c0 : w.cell? A = some (.bool n.good)
  c1 : w.cell? ⟨A.block, A.off + 1, none⟩ = some (v1)
theorem GReplyListAt.same {lo hi : Nat} {w w' : World} {A : Addr} {n : GReplyList} {v1 : Value} (h : GReplyListAt w A n v1) (hs : Same lo hi w w') (h1 : lo ≤ A.block) (h2 : A.block < hi) : GReplyListAt w' A n v1 :=
  ⟨(hs.cell h1 h2).trans h.c0, (hs.cell (p := ⟨A.block, A.off + 1, none⟩) h1 h2).trans h.c1⟩
def GReplyListsL (lo hi : Nat) (w : World) (o : Option Addr) (F : List GReplyList) : Prop := ∀ i (h : i < F.length), ∃ a v1, o = some a ∧ lo ≤ a.block ∧ a.block < hi ∧ GReplyListAt w (a.add (i * 2)) F[i] v1 ∧ GReplyListIn lo hi w F[i] v1
theorem GReplyListsL.same {lo hi : Nat} {w w' : World} {o : Option Addr} {F : List GReplyList} (h : GReplyListsL lo hi w o F) (hs : Same lo hi w w') : GReplyListsL lo hi w' o F := by
  intro i hi
  obtain ⟨a, v1, ho, h1, h2, h3, h4⟩ := h i hi
  exact ⟨a, v1, ho, h1, h2, h3.same hs (by rw [add_blockG]; exact h1) (by rw [add_blockG]; exact h2), h4.same hs⟩
theorem GReplyListsL.mono {lo lo' hi hi' : Nat} {w : World} {o : Option Addr} {F : List GReplyList} (h : GReplyListsL lo hi w o F) (hl : lo' ≤ lo) (hh : hi ≤ hi') : GReplyListsL lo' hi' w o F := by
  intro i hi
  obtain ⟨a, v1, ho, h1, h2, h3, h4⟩ := h i hi
  exact ⟨a, v1, ho, Nat.le_trans hl h1, Nat.lt_of_lt_of_le h2 hh, h3, h4.mono hl hh⟩
theorem GReplyListsL.below {lo hi B : Nat} {w w' : World} {o : Option Addr} {F : List GReplyList} (h : GReplyListsL lo hi w o F) (hb : Below B w w') (hB : hi ≤ B) : GReplyListsL lo hi w' o F := h.same (Same.of_below hb hB)
set_option maxHeartbeats 1000000 in
theorem lawEqReplyList (n : GReplyList) (v1 : Value) (u1 : Value) (lo lo' : Nat) (w : World) (hI : GReplyListIn lo w.heap.size w n v1) (hJ : GReplyListIn lo' w.heap.size w n u1) (hf : n.fits 1048576) :
    Calls Tryd.prog 6 #[GReplyListV n v1, GReplyListV n u1] w fun e w' => e = .returned (.bool true) ∧ Below w.heap.size w w' := by
  obtain ⟨⟨a1, c1, rfl, t1⟩⟩ := hI
  obtain ⟨⟨b1, d1, rfl, s1⟩⟩ := hJ
  obtain ⟨f1_0, f1_1⟩ := hf
  have H1 := mkHid fun (w' : World) (hb : Below w.heap.size w w') => lawEqSReply a1 b1 n.replies c1 d1 lo lo' w' ((t1.below hb (Nat.le_refl _)).mono (Nat.le_refl _) hb.size) ((s1.below hb (Nat.le_refl _)).mono (Nat.le_refl _) hb.size) f1_0 f1_1
  clear f1_0 f1_1 t1 s1
  unfold GReplyListV
  obtain ⟨W0, hW⟩ : ∃ W, W = (w.alloc (.cells #[.bool n.good, .slice a1 n.replies.length c1] 24)).alloc (.cells #[.bool n.good, .slice b1 n.replies.length d1] 24) := ⟨_, rfl⟩
  obtain ⟨hb0, hs0, hA0, hB0⟩ := two_blocks hW
  have HW := mkHid hW
  clear hW
  go_enter Tryd.func6, Tryd.ntmps6
  go_wp2_with fail
  rw [← HW.out]
  refine (H1.out W0 hb0).mono ?_
  rintro e W1 ⟨rfl, hw1⟩
  have hw1s := hw1.size
  have hA1 := (hw1.block w.heap.size (by omega)).trans hA0
  have hB1 := (hw1.block (w.heap.size + 1) (by omega)).trans hB0
  have hb1 := hb0.trans (hw1.mono (by omega))
  have hs1 : w.heap.size + 2 ≤ W1.heap.size := Nat.le_trans hs0 hw1s
  clear hA0 hB0 hw1 hs0 hb0 hw1s HW
  clear hA1 hB1 hs1
  go_wp2
  go_ret
  exact ⟨rfl, hb1⟩
end Go.Proofs.YtmclnkcpflehdaaDoor
