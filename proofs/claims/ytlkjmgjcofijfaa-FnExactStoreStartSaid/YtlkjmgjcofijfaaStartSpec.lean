/- StoreStart, both sides. -/
import Derived.Test.YtlkjmgjcofijfaaGenStore
import Derived.Test.YtlkjmgjcofijfaaMarkText
namespace Go.Proofs.Ytlkjmgjcofijfaa
open Go.RowKit Go.Lib Go.Maps
/-- A list of one box without mails, alone in block g. -/
def BoxRow (w : World) (g : Nat) (nm : ByteArray) (a b c : Int) : Prop := w.heap[g]? = some (.cells #[.string nm, .int .i64 a, .int .i64 b, .int .i64 c, .slice none 0 0, .slice none 0 0] 32 (0, 0))
def inboxT : ByteArray := ⟨#[73, 78, 66, 79, 88]⟩
def startG : GStore := ⟨2, [⟨inboxT, 1, 1, 0, [], []⟩]⟩
theorem BoxRow.lt {w : World} {g : Nat} {nm : ByteArray} {a b c : Int} (h : BoxRow w g nm a b c) : g < w.heap.size := by
  by_cases hg : g < w.heap.size
  · exact hg
  · unfold BoxRow at h
    rw [Array.getElem?_eq_none (by omega)] at h
    cases h
theorem BoxRow.keep {w w' : World} {g : Nat} {nm : ByteArray} {a b c : Int} (h : BoxRow w g nm a b c) (hb : Below w.heap.size w w') : BoxRow w' g nm a b c := (hb.block g h.lt).trans h
theorem nilMails (lo hi : Nat) (w : World) : GMailsL lo hi w none [] := fun i h => by simp at h
theorem nilGones (lo hi : Nat) (w : World) : GGonesL lo hi w none [] := fun i h => by simp at h
theorem BoxRow.inS {w : World} {g : Nat} (h : BoxRow w g inboxT 1 1 0) : GStoreIn 0 w.heap.size w startG (.slice (some ⟨g, 0, none⟩) 1 1) := by
  have hl := h.lt
  unfold BoxRow at h
  refine ⟨⟨_, _, rfl, ?_⟩⟩
  intro i hi
  have : i = 0 := by simp [startG] at hi; omega
  subst this
  refine ⟨⟨g, 0, none⟩, .slice none 0 0, .slice none 0 0, rfl, Nat.zero_le _, hl, ?_, ?_⟩
  · rw [show (⟨g, 0, none⟩ : Addr).add (0 * 6) = ⟨g, 0, none⟩ from rfl]
    constructor <;> simp [World.cell?, h, startG]
  · exact ⟨⟨_, _, rfl, nilMails _ _ _⟩, ⟨_, _, rfl, nilGones _ _ _⟩⟩
theorem startG_fits : startG.fits 1048576 := by
  refine ⟨by decide, ?_⟩
  intro x hx
  simp only [startG, List.mem_singleton] at hx
  subst hx
  exact ⟨by decide, by decide, by simp, by decide, by simp⟩
set_option maxHeartbeats 1000000 in
theorem specStart (w : World) : Calls Try.prog 4 #[] w fun e w' => e = .returned (GStoreV startG (.slice (some ⟨w.heap.size + 1, 0, none⟩) 1 1)) ∧ Hid (BoxRow w' (w.heap.size + 1) inboxT 1 1 0) ∧ Below w.heap.size w w' := by
  obtain ⟨V, hV⟩ : ∃ V, V = (w.alloc (.cells #[.int .i64 2, .slice (some ⟨w.heap.size + 1, 0, none⟩) 1 1] 24)).alloc (.cells #[.string ⟨#[73, 78, 66, 79, 88]⟩, .int .i64 1, .int .i64 1, .int .i64 0, .slice none 0 0, .slice none 0 0] 32) := ⟨_, rfl⟩
  obtain ⟨hb, hs, h0, h1⟩ := two_blocks hV
  have hR := mkHid (show BoxRow V (w.heap.size + 1) inboxT 1 1 0 from h1)
  replace hb := mkHid hb
  clear h1 hs
  have HV := mkHid hV
  replace h0 := mkHid h0
  clear hV
  go_enter Try.func4, Try.ntmps4
  go_wp2
  rw [← HV.out]
  refine bodyPost_ret (v := .agg #[.int .i64 2, .slice (some ⟨w.heap.size + 1, 0, none⟩) 1 1]) (results_cell_row Try.results4 _ _ w.heap.size 24 _ (0, 0) _ rfl h0.out Try.underlying24 rfl (by kernel_rfl)) rfl ?_
  exact ⟨rfl, hR, hb.out⟩
set_option maxHeartbeats 1000000 in
theorem implStart (w : World) : Calls Try.prog 5 #[] w fun e w' => e = .returned (GStoreV startG (.slice (some ⟨w.heap.size + 1, 0, none⟩) 1 1)) ∧ Hid (BoxRow w' (w.heap.size + 1) inboxT 1 1 0) ∧ Below w.heap.size w w' := by
  obtain ⟨V, hV⟩ : ∃ V, V = (w.alloc (.cells #[.int .i64 2, .slice (some ⟨w.heap.size + 1, 0, none⟩) 1 1] 24)).alloc (.cells #[.string ⟨#[73, 78, 66, 79, 88]⟩, .int .i64 1, .int .i64 1, .int .i64 0, .slice none 0 0, .slice none 0 0] 32) := ⟨_, rfl⟩
  obtain ⟨hb, hs, h0, h1⟩ := two_blocks hV
  have hR := mkHid (show BoxRow V (w.heap.size + 1) inboxT 1 1 0 from h1)
  replace hb := mkHid hb
  clear h1 hs
  have HV := mkHid hV
  replace h0 := mkHid h0
  clear hV
  go_enter Try.func5, Try.ntmps5
  go_wp2
  rw [← HV.out]
  refine bodyPost_ret (v := .agg #[.int .i64 2, .slice (some ⟨w.heap.size + 1, 0, none⟩) 1 1]) (results_cell_row Try.results5 _ _ w.heap.size 24 _ (0, 0) _ rfl h0.out Try.underlying24 rfl (by kernel_rfl)) rfl ?_
  exact ⟨rfl, hR, hb.out⟩
end Go.Proofs.Ytlkjmgjcofijfaa
