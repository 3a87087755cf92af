
/- FnExactSignerFault: a list of texts as an argument; the comparison of two signers. -/
import Derived.Test.YtgabjiamabbheaaGreatDoorSignLaw
import Derived.ChangeSlices
import Derived.SliceStrings
import Derived.ProofKit
import Derived.ChangeOld
import Derived.OpenShut
import Derived.ShutString
namespace Go.Proofs.YtgabjiamabbheaaGreatDoor
open Go.RowKit Go.Lib
set_option maxRecDepth 20000 in
set_option maxHeartbeats 400000 in
theorem lawEqKey (d s : ByteArray) (x y : Int) (w : World) :
    Calls Tryz.prog 29 #[keyV d s x y, keyV d s x y] w fun e w' => e = .returned (.bool true) ∧ Below w.heap.size w w' := by
  go_enter Tryz.func29, Tryz.ntmps29
  go_wp2
  go_ret
  exact ⟨rfl, ((Below.refl _ _).alloc (Nat.le_refl _) _).alloc (by simp) _⟩
set_option maxRecDepth 20000 in
set_option maxHeartbeats 1000000 in
theorem lawEqSigner (d s : ByteArray) (A B h b : Int) (g1 g2 : Nat) (F : List ByteArray) (c1 c2 : Nat) (w : World) (h1 : Tx w.heap.size w (some ⟨g1, 0, none⟩) F) (h2 : Tx w.heap.size w (some ⟨g2, 0, none⟩) F) (hlen : F.length ≤ 1048576) :
    Calls Tryz.prog 8 #[sgV d s A B (.slice (some ⟨g1, 0, none⟩) F.length c1) h b, sgV d s A B (.slice (some ⟨g2, 0, none⟩) F.length c2) h b] w fun e w' => e = .returned (.bool true) ∧ Below w.heap.size w w' := by
  obtain ⟨W, hW⟩ : ∃ W, W = (w.alloc (.cells #[.string d, .string s, .int .i64 A, .int .i64 B, .slice (some ⟨g1, 0, none⟩) F.length c1, .int .i64 h, .int .i64 b] 31)).alloc (.cells #[.string d, .string s, .int .i64 A, .int .i64 B, .slice (some ⟨g2, 0, none⟩) F.length c2, .int .i64 h, .int .i64 b] 31) := ⟨_, rfl⟩
  have hbW : Below w.heap.size w W := by rw [hW]; exact ((Below.refl _ _).alloc (Nat.le_refl _) _).alloc (by simp) _
  have ha0 : W.heap[w.heap.size]? = some (.cells #[.string d, .string s, .int .i64 A, .int .i64 B, .slice (some ⟨g1, 0, none⟩) F.length c1, .int .i64 h, .int .i64 b] 31 (0, 0)) := by
    rw [hW]; exact (heap_alloc_old _ _ _ (by simp)).trans (heap_alloc_at _ _)
  have hr0 : W.heap[w.heap.size + 1]? = some (.cells #[.string d, .string s, .int .i64 A, .int .i64 B, .slice (some ⟨g2, 0, none⟩) F.length c2, .int .i64 h, .int .i64 b] 31 (0, 0)) := by
    rw [hW]
    have := heap_alloc_at (w.alloc (.cells #[.string d, .string s, .int .i64 A, .int .i64 B, .slice (some ⟨g1, 0, none⟩) F.length c1, .int .i64 h, .int .i64 b] 31)) (.cells #[.string d, .string s, .int .i64 A, .int .i64 B, .slice (some ⟨g2, 0, none⟩) F.length c2, .int .i64 h, .int .i64 b] 31)
    simpa using this
  have hK := fun w => lawEqKey d s A B w
  have H1 : Hid (Tx w.heap.size w (some ⟨g1, 0, none⟩) F) := h1
  have H2 : Hid (Tx w.heap.size w (some ⟨g2, 0, none⟩) F) := h2
  have HE := (show Hid _ from fun (w : World) (h1 : Tx w.heap.size w (some ⟨g1, 0, none⟩) F) (h2 : Tx w.heap.size w (some ⟨g2, 0, none⟩) F) => lawEqTexts ⟨g1, 0, none⟩ ⟨g2, 0, none⟩ F c1 c2 w h1 h2 hlen)
  clear h1 h2
  go_enter Tryz.func8, Tryz.ntmps8
  go_wp2_with fail
  rw [← hW]
  refine (hK _).mono ?_
  rintro e w2 ⟨rfl, hb2⟩
  have ha2 := (hb2.block _ (heap_lt ha0)).trans ha0
  have hr2 := (hb2.block _ (heap_lt hr0)).trans hr0
  have hB2 := hbW.trans (hb2.mono hbW.size)
  have hE2 := HE.out w2 ((H1.out.below hB2).mono hB2.size) ((H2.out.below hB2).mono hB2.size)
  obtain ⟨a0, a1, a2, a3, a4, a5, a6⟩ := sg_cells ha2
  obtain ⟨o0, o1, o2, o3, o4, o5, o6⟩ := sg_cells hr2
  clear hb2 hbW ha0 hr0 hW hK HE H1 H2
  go_wp2_with fail
  refine hE2.mono ?_
  rintro e w3 ⟨rfl, hb3⟩
  have ha3 := (hb3.block _ (heap_lt ha2)).trans ha2
  have hr3 := (hb3.block _ (heap_lt hr2)).trans hr2
  have hB3 := hB2.trans (hb3.mono hB2.size)
  clear a0 a1 a2 a3 a4 a5 a6 o0 o1 o2 o3 o4 o5 o6 ha2 hr2 hB2 hb3 hE2
  obtain ⟨a0, a1, a2, a3, a4, a5, a6⟩ := sg_cells ha3
  obtain ⟨o0, o1, o2, o3, o4, o5, o6⟩ := sg_cells hr3
  go_wp2
  go_ret
  exact ⟨rfl, hB3⟩
set_option maxRecDepth 20000 in
/-- A list of texts within an argument: opened. -/
theorem open_texts {H : Type} {enc : TypeId × Value → H} {P : Program} {W : World} {sp : Nat → Bool} {t e : TypeId} {v : Value} {y : DataW H × List MemPlace} {fuel : Nat}
    (ht : P.underlying t = some (.slice e)) (he : P.underlying e = some .string) (ce : P.cellsOf e = 1) (hx : DataW.trod enc P W 0 sp true fuel t [v] = some y) :
    ∃ o F cap, v = .slice o F.length cap ∧ Tx W.heap.size W o F ∧ F.length ≤ maxLen ∧ ∀ f ∈ F, f.size ≤ maxLen := by
  rcases Go.ChangeShapes.open_strings ht he ce hx with ⟨hc, -⟩ | ⟨a', len', cap', zs, hc, -, hl, hm, hz, -, hcell, hsz⟩
  · simp at hc
    subst hc
    exact ⟨none, [], 0, rfl, fun i hi => absurd hi (Nat.not_lt_zero _), Nat.zero_le _, fun f hf => by cases hf⟩
  · simp at hc
    subst hc
    have hlz : len' ≤ zs.length := by rw [hz]; split <;> omega
    refine ⟨some a', zs.take len', cap', by rw [List.length_take]; simp; omega, ?_, by rw [List.length_take]; omega, fun f hf => hsz f (List.mem_of_mem_take hf)⟩
    intro i hi
    rw [List.length_take] at hi
    have hc := hcell i (by omega)
    refine ⟨a', rfl, ?_, ?_⟩
    · have hlt : (a'.add i).block < W.heap.size := World.block_lt_of_cell? _ _ hc
      have e : (a'.add i).block = a'.block := by unfold Addr.add; split <;> rfl
      rw [← e]; exact hlt
    · rw [hc, List.getElem_take, List.getD_eq_getElem?_getD, List.getElem?_eq_getElem (by omega)]
      rfl
set_option maxRecDepth 20000 in
theorem array7 {α : Type} {cs : Array α} (h : cs.size = 7) : ∃ c0 c1 c2 c3 c4 c5 c6, cs = #[c0, c1, c2, c3, c4, c5, c6] := by
  obtain ⟨l⟩ := cs
  match l, h with
  | [c0, c1, c2, c3, c4, c5, c6], _ => exact ⟨c0, c1, c2, c3, c4, c5, c6, rfl⟩
end Go.Proofs.YtgabjiamabbheaaGreatDoor
