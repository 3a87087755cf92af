
/- Store: as the law has it and as the program has it; handed in, made anew, held against one another. (By tools/gen/structs.py.) -/
import Derived.Test.YtlkjmgjcofijfaaGenMailbox
namespace Go.Proofs.Ytlkjmgjcofijfaa
open Go.RowKit Go.Lib Go.Maps
structure GStore where
  nextValidity : Int
  boxes : List GMailbox
def GStoreV (n : GStore) (v1 : Value) : Value := .agg #[.int .i64 n.nextValidity, v1]
def GStore.fits (n : GStore) (m : Nat) : Prop := n.boxes.length ≤ m ∧ (∀ x ∈ n.boxes, x.fits m)
structure GStoreIn (lo hi : Nat) (w : World) (n : GStore) (v1 : Value) : Prop where
  s1 : ∃ a c, v1 = .slice a n.boxes.length c ∧ GMailboxsL lo hi w a n.boxes
theorem GStoreIn.same {lo hi : Nat} {w w' : World} {n : GStore} {v1 : Value} (h : GStoreIn lo hi w n v1) (hs : Same lo hi w w') : GStoreIn lo hi w' n v1 := by
  obtain ⟨⟨a1, c1, e1, t1⟩⟩ := h
  exact ⟨⟨a1, c1, e1, t1.same hs⟩⟩
theorem GStoreIn.mono {lo lo' hi hi' : Nat} {w : World} {n : GStore} {v1 : Value} (h : GStoreIn lo hi w n v1) (hl : lo' ≤ lo) (hh : hi ≤ hi') : GStoreIn lo' hi' w n v1 := by
  obtain ⟨⟨a1, c1, e1, t1⟩⟩ := h
  exact ⟨⟨a1, c1, e1, t1.mono hl hh⟩⟩
structure GStoreAt (w : World) (A : Addr) (n : GStore) (v1 : Value) : Prop where
  c0 : w.cell? A = some (.int .i64 n.nextValidity)
  c1 : w.cell? ⟨A.block, A.off + 1, none⟩ = some (v1)
theorem GStoreAt.same {lo hi : Nat} {w w' : World} {A : Addr} {n : GStore} {v1 : Value} (h : GStoreAt w A n v1) (hs : Same lo hi w w') (h1 : lo ≤ A.block) (h2 : A.block < hi) : GStoreAt w' A n v1 :=
  ⟨(hs.cell h1 h2).trans h.c0, (hs.cell (p := ⟨A.block, A.off + 1, none⟩) h1 h2).trans h.c1⟩
def GStoresL (lo hi : Nat) (w : World) (o : Option Addr) (F : List GStore) : Prop := ∀ i (h : i < F.length), ∃ a v1, o = some a ∧ lo ≤ a.block ∧ a.block < hi ∧ GStoreAt w (a.add (i * 2)) F[i] v1 ∧ GStoreIn lo hi w F[i] v1
theorem GStoresL.same {lo hi : Nat} {w w' : World} {o : Option Addr} {F : List GStore} (h : GStoresL lo hi w o F) (hs : Same lo hi w w') : GStoresL lo hi w' o F := by
  intro i hi
  obtain ⟨a, v1, ho, h1, h2, h3, h4⟩ := h i hi
  exact ⟨a, v1, ho, h1, h2, h3.same hs (by rw [add_blockG]; exact h1) (by rw [add_blockG]; exact h2), h4.same hs⟩
theorem GStoresL.mono {lo lo' hi hi' : Nat} {w : World} {o : Option Addr} {F : List GStore} (h : GStoresL lo hi w o F) (hl : lo' ≤ lo) (hh : hi ≤ hi') : GStoresL lo' hi' w o F := by
  intro i hi
  obtain ⟨a, v1, ho, h1, h2, h3, h4⟩ := h i hi
  exact ⟨a, v1, ho, Nat.le_trans hl h1, Nat.lt_of_lt_of_le h2 hh, h3, h4.mono hl hh⟩
theorem GStoresL.below {lo hi B : Nat} {w w' : World} {o : Option Addr} {F : List GStore} (h : GStoresL lo hi w o F) (hb : Below B w w') (hB : hi ≤ B) : GStoresL lo hi w' o F := h.same (Same.of_below hb hB)
set_option maxHeartbeats 1000000 in
theorem lawEqStore (n : GStore) (v1 : Value) (u1 : Value) (lo lo' : Nat) (w : World) (hI : GStoreIn lo w.heap.size w n v1) (hJ : GStoreIn lo' w.heap.size w n u1) (hf : n.fits 1048576) :
    Calls Try.prog 6 #[GStoreV n v1, GStoreV n u1] w fun e w' => e = .returned (.bool true) ∧ Below w.heap.size w w' := by
  obtain ⟨⟨a1, c1, rfl, t1⟩⟩ := hI
  obtain ⟨⟨b1, d1, rfl, s1⟩⟩ := hJ
  obtain ⟨f1_0, f1_1⟩ := hf
  have H1 := mkHid fun (w' : World) (hb : Below w.heap.size w w') => lawEqSMailbox a1 b1 n.boxes c1 d1 lo lo' w' ((t1.below hb (Nat.le_refl _)).mono (Nat.le_refl _) hb.size) ((s1.below hb (Nat.le_refl _)).mono (Nat.le_refl _) hb.size) f1_0 f1_1
  clear f1_0 f1_1 t1 s1
  unfold GStoreV
  obtain ⟨W0, hW⟩ : ∃ W, W = (w.alloc (.cells #[.int .i64 n.nextValidity, .slice a1 n.boxes.length c1] 24)).alloc (.cells #[.int .i64 n.nextValidity, .slice b1 n.boxes.length d1] 24) := ⟨_, rfl⟩
  obtain ⟨hb0, hs0, hA0, hB0⟩ := two_blocks hW
  have HW := mkHid hW
  clear hW
  go_enter Try.func6, Try.ntmps6
  go_wp2_with fail
  rw [← HW.out]
  refine (H1.out W0 hb0).mono ?_
  rintro e W1 ⟨rfl, hw1⟩
  have hw1s := hw1.size
  have hA1 := (hw1.block w.heap.size (by omega)).trans hA0
  have hB1 := (hw1.block (w.heap.size + 1) (by omega)).trans hB0
  have hb1 := hb0.trans (hw1.mono (by omega))
  have hs1 : w.heap.size + 2 ≤ W1.heap.size := Nat.le_trans hs0 hw1s
  clear hA0 hB0 hw1 hs0 hb0 hw1s HW
  clear hA1 hB1 hs1
  go_wp2
  go_ret
  exact ⟨rfl, hb1⟩
end Go.Proofs.Ytlkjmgjcofijfaa
