
/- FnExactSignerFault: the law's helpers. -/

/- FnExactSignerFault: a list of texts as an argument; the comparison of two signers. -/
import Derived.Test.YtgabjiamabbheaaGreatDoorSignSpec
import Derived.ChangeSlices
import Derived.SliceStrings
import Derived.ProofKit
import Derived.ChangeOld
import Derived.OpenShut
import Derived.ShutString
namespace Go.Proofs.YtgabjiamabbheaaGreatDoor
open Go.RowKit Go.Lib
set_option maxRecDepth 20000 in
set_option maxHeartbeats 400000 in
theorem lawSzKey (d s : ByteArray) (x y : Int) (w : World) (hd : d.size ≤ maxLen) (hs : s.size ≤ maxLen) :
    Calls Tryz.prog 9 #[keyV d s x y, .int .i64 1048576] w fun e w' => ∃ r : Int, e = .returned (.int .i64 r) ∧ (r = -1 ∨ ∃ k : Nat, r = k ∧ k ≤ 1048576 ∧ d.size ≤ 1048576 ∧ s.size ≤ 1048576) ∧ Below w.heap.size w w' := by
  unfold maxLen at hd hs
  by_cases h1 : 1048576 < d.size
  · go_enter Tryz.func9, Tryz.ntmps9
    go_wp2
    go_ret
    exact ⟨-1, rfl, .inl rfl, (Below.refl _ _).alloc (Nat.le_refl _) _⟩
  · by_cases h2 : 1048576 < d.size + s.size
    · go_enter Tryz.func9, Tryz.ntmps9
      go_wp2
      go_ret
      exact ⟨-1, rfl, .inl rfl, (Below.refl _ _).alloc (Nat.le_refl _) _⟩
    · go_enter Tryz.func9, Tryz.ntmps9
      go_wp2
      go_ret
      exact ⟨_, rfl, .inr ⟨1048576 - d.size - s.size, by omega, by omega, by omega, by omega⟩, (Below.refl _ _).alloc (Nat.le_refl _) _⟩
set_option maxRecDepth 20000 in
set_option maxHeartbeats 400000 in
theorem lawToKey (d s : ByteArray) (x y : Int) (w : World) :
    Calls Tryz.prog 19 #[keyV d s x y] w fun e w' => e = .returned (keyV d s x y) ∧ Below w.heap.size w w' := by
  go_enter Tryz.func19, Tryz.ntmps19
  go_wp2
  refine bodyPost_ret (v := keyV d s x y) (by simp [results, Tryz.results19, go_sem]) rfl ⟨rfl, ?_⟩
  exact (((Below.refl _ _).alloc (Nat.le_refl _) _).alloc (by simp) _).alloc (by simp; omega) _
set_option maxRecDepth 20000 in
set_option maxHeartbeats 1000000 in
theorem lawSzSigner (d s : ByteArray) (A B h b : Int) (o : Option Addr) (F : List ByteArray) (cap : Nat) (w : World) (hd : d.size ≤ maxLen) (hs : s.size ≤ maxLen) (hF : Tx w.heap.size w o F) (hlen : F.length ≤ maxLen) (hsz : ∀ t ∈ F, t.size ≤ maxLen) :
    Calls Tryz.prog 4 #[sgV d s A B (.slice o F.length cap) h b, .int .i64 1048576] w fun e w' => ∃ r : Int, e = .returned (.int .i64 r) ∧ (r = -1 ∨ (0 ≤ r ∧ d.size ≤ 1048576 ∧ s.size ≤ 1048576 ∧ F.length ≤ 1048576 ∧ ∀ t ∈ F, t.size ≤ 1048576)) ∧ Below w.heap.size w w' := by
  obtain ⟨W, hW⟩ : ∃ W, W = w.alloc (.cells #[.string d, .string s, .int .i64 A, .int .i64 B, .slice o F.length cap, .int .i64 h, .int .i64 b] 26) := ⟨_, rfl⟩
  have hbA : Below w.heap.size w W := by rw [hW]; exact (Below.refl _ _).alloc (Nat.le_refl _) _
  have hk0 : W.heap[w.heap.size]? = some (.cells #[.string d, .string s, .int .i64 A, .int .i64 B, .slice o F.length cap, .int .i64 h, .int .i64 b] 26 (0, 0)) := by rw [hW]; exact heap_alloc_at _ _
  have hK := lawSzKey d s A B W hd hs
  have HF : Hid (Tx w.heap.size w o F) := hF
  have hT := fun (w : World) (hF : Tx w.heap.size w o F) m hm => lawSzTexts o F cap m w hF hlen hsz hm
  have HT := (show Hid _ from hT)
  clear hF hsz hT hd hs hlen
  go_enter Tryz.func4, Tryz.ntmps4
  go_wp2_with fail
  rw [← hW]
  refine hK.mono ?_
  rintro e w2 ⟨r, rfl, hr, hb2⟩
  have hk2 := (hb2.block _ (heap_lt hk0)).trans hk0
  have hB2 := hbA.trans (hb2.mono hbA.size)
  obtain ⟨c0, c1, c2, c3, c4, c5, c6⟩ := sg_cells hk2
  have hF2 := (HF.out.below hB2).mono hB2.size
  clear hK hb2 hk0 hbA hW HF
  rcases hr with rfl | ⟨k, rfl, hk, hd2, hs2⟩
  · clear hF2
    go_wp2
    go_ret
    exact ⟨-1, rfl, .inl rfl, hB2⟩
  · have hT2 := HT.out w2 hF2 k hk
    clear hF2 HT
    go_wp2_with fail
    refine hT2.mono ?_
    rintro e w3 ⟨r2, rfl, hr2, hb3⟩
    have hB3 := hB2.trans (hb3.mono hB2.size)
    rcases hr2 with rfl | ⟨h0, h1, h2⟩
    · go_wp2
      go_ret
      exact ⟨-1, rfl, .inl rfl, hB3⟩
    · have H2 : Hid (∀ t ∈ F, t.size ≤ 1048576) := h2
      clear h2
      go_wp2
      go_ret
      exact ⟨r2, rfl, .inr ⟨h0, hd2, hs2, h1, H2.out⟩, hB3⟩
set_option maxRecDepth 20000 in
set_option maxHeartbeats 2000000 in
theorem lawToSigner (d s : ByteArray) (A B h b : Int) (o : Option Addr) (F : List ByteArray) (cap : Nat) (w : World) (hF : Tx w.heap.size w o F) (hlen : F.length ≤ 1048576) :
    Calls Tryz.prog 6 #[sgV d s A B (.slice o F.length cap) h b] w fun e w' => ∃ g, e = .returned (sgV d s A B (.slice (some ⟨g, 0, none⟩) F.length F.length) h b) ∧ Hid (Tx w'.heap.size w' (some ⟨g, 0, none⟩) F) ∧ Below w.heap.size w w' := by
  have hK := fun w => lawToKey d s A B w
  have HF : Hid (Tx w.heap.size w o F) := hF
  have hT := fun (w : World) (hF : Tx w.heap.size w o F) => lawToTexts o F cap w hF hlen
  have HT := (show Hid _ from hT)
  clear hF hT
  go_enter Tryz.func6, Tryz.ntmps6
  go_wp2_with fail
  obtain ⟨W, hW⟩ : ∃ W, W = (((w.alloc (.cells #[.string d, .string s, .int .i64 A, .int .i64 B, .slice o F.length cap, .int .i64 h, .int .i64 b] 26)).alloc (.cells #[.string ⟨#[]⟩, .string ⟨#[]⟩, .int .i64 0, .int .i64 0, .slice none 0 0, .int .i64 0, .int .i64 0] 31)).alloc (.cells #[.string ⟨#[]⟩, .string ⟨#[]⟩, .int .i64 0, .int .i64 0, .slice none 0 0, .int .i64 0, .int .i64 0] 31)) := ⟨_, rfl⟩
  rw [← hW]
  have hbW : Below w.heap.size w W := by rw [hW]; exact (((Below.refl _ _).alloc (Nat.le_refl _) _).alloc (by simp) _).alloc (by simp; omega) _
  have ha0 : W.heap[w.heap.size]? = some (.cells #[.string d, .string s, .int .i64 A, .int .i64 B, .slice o F.length cap, .int .i64 h, .int .i64 b] 26 (0, 0)) := by
    rw [hW]; exact (heap_alloc_old _ _ _ (by simp; omega)).trans ((heap_alloc_old _ _ _ (by simp)).trans (heap_alloc_at _ _))
  have hr0 : W.heap[w.heap.size + 1]? = some (.cells #[.string ⟨#[]⟩, .string ⟨#[]⟩, .int .i64 0, .int .i64 0, .slice none 0 0, .int .i64 0, .int .i64 0] 31 (0, 0)) := by
    rw [hW]; refine (heap_alloc_old _ _ _ (by simp)).trans ?_
    have := heap_alloc_at (w.alloc (.cells #[.string d, .string s, .int .i64 A, .int .i64 B, .slice o F.length cap, .int .i64 h, .int .i64 b] 26)) (.cells #[.string ⟨#[]⟩, .string ⟨#[]⟩, .int .i64 0, .int .i64 0, .slice none 0 0, .int .i64 0, .int .i64 0] 31)
    simpa using this
  have ho0 : W.heap[w.heap.size + 1 + 1]? = some (.cells #[.string ⟨#[]⟩, .string ⟨#[]⟩, .int .i64 0, .int .i64 0, .slice none 0 0, .int .i64 0, .int .i64 0] 31 (0, 0)) := by
    rw [hW]
    have := heap_alloc_at ((w.alloc (.cells #[.string d, .string s, .int .i64 A, .int .i64 B, .slice o F.length cap, .int .i64 h, .int .i64 b] 26)).alloc (.cells #[.string ⟨#[]⟩, .string ⟨#[]⟩, .int .i64 0, .int .i64 0, .slice none 0 0, .int .i64 0, .int .i64 0] 31)) (.cells #[.string ⟨#[]⟩, .string ⟨#[]⟩, .int .i64 0, .int .i64 0, .slice none 0 0, .int .i64 0, .int .i64 0] 31)
    simpa using this
  clear hW
  refine (hK _).mono ?_
  rintro e w2 ⟨rfl, hb2⟩
  have hB2 : Below w.heap.size w w2 := hbW.trans (hb2.mono hbW.size)
  have ha2 := (hb2.block _ (heap_lt ha0)).trans ha0
  have hr2 := (hb2.block _ (heap_lt hr0)).trans hr0
  have ho2 := (hb2.block _ (heap_lt ho0)).trans ho0
  clear hb2 hbW ha0 hr0 ho0 hK
  obtain ⟨gr, hgr⟩ : ∃ gr, w.heap.size + 1 = gr := ⟨_, rfl⟩
  rw [hgr] at hr2 ho2 ⊢
  obtain ⟨go, hgo⟩ : ∃ go, gr + 1 = go := ⟨_, rfl⟩
  rw [hgo] at ho2 ⊢
  have hlt : w.heap.size < gr ∧ gr < go := by omega
  clear hgr hgo
  obtain ⟨a0, a1, a2, a3, a4, a5, a6⟩ := sg_cells ha2
  obtain ⟨o0, o1, o2, o3, o4, o5, o6⟩ := sg_cells ho2
  have fo : ∀ j, w2.frozen? ⟨go, j, none⟩ = false := fun j => by simp [World.frozen?, ho2]
  go_wp2_with fail
  have hX : ∃ X, X = (((w2.setCell ⟨go, 0, none⟩ (.string d)).setCell ⟨go, 1, none⟩ (.string s)).setCell ⟨go, 2, none⟩ (.int .i64 A)).setCell ⟨go, 3, none⟩ (.int .i64 B) := ⟨_, rfl⟩
  obtain ⟨X, hX⟩ := hX
  rw [← hX]
  have hBX : Below w.heap.size w X := by rw [hX]; exact (((hB2.setCell (by show _ ≤ go; omega) _).setCell (by show _ ≤ go; omega) _).setCell (by show _ ≤ go; omega) _).setCell (by show _ ≤ go; omega) _
  have haX : X.heap[w.heap.size]? = some (.cells #[.string d, .string s, .int .i64 A, .int .i64 B, .slice o F.length cap, .int .i64 h, .int .i64 b] 26 (0, 0)) := by
    rw [hX]; simp [World.setCell, Array.getElem?_modify, ha2, show go ≠ w.heap.size by omega]
  have hrX : X.heap[gr]? = some (.cells #[.string ⟨#[]⟩, .string ⟨#[]⟩, .int .i64 0, .int .i64 0, .slice none 0 0, .int .i64 0, .int .i64 0] 31 (0, 0)) := by
    rw [hX]; simp [World.setCell, Array.getElem?_modify, hr2, show go ≠ gr by omega]
  have hoX : X.heap[go]? = some (.cells #[.string d, .string s, .int .i64 A, .int .i64 B, .slice none 0 0, .int .i64 0, .int .i64 0] 31 (0, 0)) := by
    rw [hX]; simp [World.setCell, Array.getElem?_modify, ho2]
  clear hX a0 a1 a2 a3 a4 a5 a6 o0 o1 o2 o3 o4 o5 o6 fo ha2 hr2 ho2 hB2
  refine (HT.out X ((HF.out.below hBX).mono hBX.size)).mono ?_
  rintro e w3 ⟨rfl, HTx, hb3⟩
  have hB3 : Below w.heap.size w w3 := hBX.trans (hb3.mono hBX.size)
  have ha3 := (hb3.block _ (heap_lt haX)).trans haX
  have hr3 := (hb3.block _ (heap_lt hrX)).trans hrX
  have ho3 := (hb3.block _ (heap_lt hoX)).trans hoX
  have hgX : go < X.heap.size := heap_lt hoX
  obtain ⟨gn, hgn⟩ : ∃ gn, X.heap.size = gn := ⟨_, rfl⟩
  rw [hgn] at HTx hgX ⊢
  clear hgn HT HF hBX haX hrX hoX hb3
  obtain ⟨a0, a1, a2, a3, a4, a5, a6⟩ := sg_cells ha3
  obtain ⟨o0, o1, o2, o3, o4, o5, o6⟩ := sg_cells ho3
  have fo : ∀ j, w3.frozen? ⟨go, j, none⟩ = false := fun j => by simp [World.frozen?, ho3]
  have hY : ∃ Y, Y = ((w3.setCell ⟨go, 4, none⟩ (.slice (some ⟨gn, 0, none⟩) F.length F.length)).setCell ⟨go, 5, none⟩ (.int .i64 h)).setCell ⟨go, 6, none⟩ (.int .i64 b) := ⟨_, rfl⟩
  obtain ⟨Y, hY⟩ := hY
  have hBY : Below w.heap.size w Y := by rw [hY]; exact ((hB3.setCell (by show _ ≤ go; omega) _).setCell (by show _ ≤ go; omega) _).setCell (by show _ ≤ go; omega) _
  have hrY : Y.heap[gr]? = some (.cells #[.string ⟨#[]⟩, .string ⟨#[]⟩, .int .i64 0, .int .i64 0, .slice none 0 0, .int .i64 0, .int .i64 0] 31 (0, 0)) := by
    rw [hY]; simp [World.setCell, Array.getElem?_modify, hr3, show go ≠ gr by omega]
  have hoY : Y.heap[go]? = some (.cells #[.string d, .string s, .int .i64 A, .int .i64 B, .slice (some ⟨gn, 0, none⟩) F.length F.length, .int .i64 h, .int .i64 b] 31 (0, 0)) := by
    rw [hY]; simp [World.setCell, Array.getElem?_modify, ho3]
  have HTY : Hid (Tx Y.heap.size Y (some ⟨gn, 0, none⟩) F) := by
    intro k hk
    obtain ⟨a, ea, hab, hc⟩ := HTx.out k hk
    cases ea
    refine ⟨_, rfl, by rw [hY]; simpa [World.setCell] using hab, ?_⟩
    rw [hY]
    rw [add_off] at hc ⊢
    rw [World.cell?_setCell_other _ _ _ _ (by first | (simp; done) | (simp; omega)), World.cell?_setCell_other _ _ _ _ (by first | (simp; done) | (simp; omega)), World.cell?_setCell_other _ _ _ _ (by first | (simp; done) | (simp; omega))]
    exact hc
  have HBY : Hid (Below w.heap.size w Y) := hBY
  clear HTx hBY hr3 ho3 ha3 hB3
  subst hY
  go_wp2_with (first | (refine wpL_store_row rfl 31 _ _ rfl gr #[.string d, .string s, .int .i64 A, .int .i64 B, .slice (some ⟨gn, 0, none⟩) F.length F.length, .int .i64 h, .int .i64 b] rfl rfl 31 _ hrY (by kernel_rfl) rfl (by simp [Value.oneCell']) ?_) | (refine wpL_load_row rfl 31 _ rfl go _ 31 (0, 0) _ rfl hoY Tryz.underlying31 rfl (by kernel_rfl) ?_) | go_in)
  refine bodyPost_ret (v := sgV d s A B (.slice (some ⟨gn, 0, none⟩) F.length F.length) h b) (results_cell_row Tryz.results6 _ _ gr 31 _ (0, 0) _ rfl (setRow_heap _ _ _ _ _ _ hrY) Tryz.underlying31 rfl (by kernel_rfl)) rfl ⟨gn, rfl, ?_, ?_⟩
  · intro k hk
    obtain ⟨a, ea, hab, hc⟩ := HTY.out k hk
    cases ea
    refine ⟨_, rfl, by simpa using hab, ?_⟩
    rw [add_off] at hc ⊢
    unfold World.cell? at hc ⊢
    rw [setRow_other _ _ _ _ (by show gn ≠ gr; omega)]
    exact hc
  · exact HBY.out.grown (grown_setRow _ _ _) HBY.out.size (fun j hj => by cases hj; omega)
end Go.Proofs.YtgabjiamabbheaaGreatDoor
namespace Go.Proofs.YtgabjiamabbheaaGreatDoor
open Go.RowKit Go.Lib
set_option maxRecDepth 20000 in
set_option maxHeartbeats 400000 in
theorem lawEqKey (d s : ByteArray) (x y : Int) (w : World) :
    Calls Tryz.prog 29 #[keyV d s x y, keyV d s x y] w fun e w' => e = .returned (.bool true) ∧ Below w.heap.size w w' := by
  go_enter Tryz.func29, Tryz.ntmps29
  go_wp2
  go_ret
  exact ⟨rfl, ((Below.refl _ _).alloc (Nat.le_refl _) _).alloc (by simp) _⟩
set_option maxRecDepth 20000 in
set_option maxHeartbeats 1000000 in
theorem lawEqSigner (d s : ByteArray) (A B h b : Int) (g1 g2 : Nat) (F : List ByteArray) (c1 c2 : Nat) (w : World) (h1 : Tx w.heap.size w (some ⟨g1, 0, none⟩) F) (h2 : Tx w.heap.size w (some ⟨g2, 0, none⟩) F) (hlen : F.length ≤ 1048576) :
    Calls Tryz.prog 8 #[sgV d s A B (.slice (some ⟨g1, 0, none⟩) F.length c1) h b, sgV d s A B (.slice (some ⟨g2, 0, none⟩) F.length c2) h b] w fun e w' => e = .returned (.bool true) ∧ Below w.heap.size w w' := by
  obtain ⟨W, hW⟩ : ∃ W, W = (w.alloc (.cells #[.string d, .string s, .int .i64 A, .int .i64 B, .slice (some ⟨g1, 0, none⟩) F.length c1, .int .i64 h, .int .i64 b] 31)).alloc (.cells #[.string d, .string s, .int .i64 A, .int .i64 B, .slice (some ⟨g2, 0, none⟩) F.length c2, .int .i64 h, .int .i64 b] 31) := ⟨_, rfl⟩
  have hbW : Below w.heap.size w W := by rw [hW]; exact ((Below.refl _ _).alloc (Nat.le_refl _) _).alloc (by simp) _
  have ha0 : W.heap[w.heap.size]? = some (.cells #[.string d, .string s, .int .i64 A, .int .i64 B, .slice (some ⟨g1, 0, none⟩) F.length c1, .int .i64 h, .int .i64 b] 31 (0, 0)) := by
    rw [hW]; exact (heap_alloc_old _ _ _ (by simp)).trans (heap_alloc_at _ _)
  have hr0 : W.heap[w.heap.size + 1]? = some (.cells #[.string d, .string s, .int .i64 A, .int .i64 B, .slice (some ⟨g2, 0, none⟩) F.length c2, .int .i64 h, .int .i64 b] 31 (0, 0)) := by
    rw [hW]
    have := heap_alloc_at (w.alloc (.cells #[.string d, .string s, .int .i64 A, .int .i64 B, .slice (some ⟨g1, 0, none⟩) F.length c1, .int .i64 h, .int .i64 b] 31)) (.cells #[.string d, .string s, .int .i64 A, .int .i64 B, .slice (some ⟨g2, 0, none⟩) F.length c2, .int .i64 h, .int .i64 b] 31)
    simpa using this
  have hK := fun w => lawEqKey d s A B w
  have H1 : Hid (Tx w.heap.size w (some ⟨g1, 0, none⟩) F) := h1
  have H2 : Hid (Tx w.heap.size w (some ⟨g2, 0, none⟩) F) := h2
  have HE := (show Hid _ from fun (w : World) (h1 : Tx w.heap.size w (some ⟨g1, 0, none⟩) F) (h2 : Tx w.heap.size w (some ⟨g2, 0, none⟩) F) => lawEqTexts ⟨g1, 0, none⟩ ⟨g2, 0, none⟩ F c1 c2 w h1 h2 hlen)
  clear h1 h2
  go_enter Tryz.func8, Tryz.ntmps8
  go_wp2_with fail
  rw [← hW]
  refine (hK _).mono ?_
  rintro e w2 ⟨rfl, hb2⟩
  have ha2 := (hb2.block _ (heap_lt ha0)).trans ha0
  have hr2 := (hb2.block _ (heap_lt hr0)).trans hr0
  have hB2 := hbW.trans (hb2.mono hbW.size)
  have hE2 := HE.out w2 ((H1.out.below hB2).mono hB2.size) ((H2.out.below hB2).mono hB2.size)
  obtain ⟨a0, a1, a2, a3, a4, a5, a6⟩ := sg_cells ha2
  obtain ⟨o0, o1, o2, o3, o4, o5, o6⟩ := sg_cells hr2
  clear hb2 hbW ha0 hr0 hW hK HE H1 H2
  go_wp2_with fail
  refine hE2.mono ?_
  rintro e w3 ⟨rfl, hb3⟩
  have ha3 := (hb3.block _ (heap_lt ha2)).trans ha2
  have hr3 := (hb3.block _ (heap_lt hr2)).trans hr2
  have hB3 := hB2.trans (hb3.mono hB2.size)
  clear a0 a1 a2 a3 a4 a5 a6 o0 o1 o2 o3 o4 o5 o6 ha2 hr2 hB2 hb3 hE2
  obtain ⟨a0, a1, a2, a3, a4, a5, a6⟩ := sg_cells ha3
  obtain ⟨o0, o1, o2, o3, o4, o5, o6⟩ := sg_cells hr3
  go_wp2
  go_ret
  exact ⟨rfl, hB3⟩
set_option maxRecDepth 20000 in
/-- A list of texts within an argument: opened. -/
theorem open_texts {H : Type} {enc : TypeId × Value → H} {P : Program} {W : World} {sp : Nat → Bool} {t e : TypeId} {v : Value} {y : DataW H × List MemPlace} {fuel : Nat}
    (ht : P.underlying t = some (.slice e)) (he : P.underlying e = some .string) (ce : P.cellsOf e = 1) (hx : DataW.trod enc P W 0 sp true fuel t [v] = some y) :
    ∃ o F cap, v = .slice o F.length cap ∧ Tx W.heap.size W o F ∧ F.length ≤ maxLen ∧ ∀ f ∈ F, f.size ≤ maxLen := by
  rcases Go.ChangeShapes.open_strings ht he ce hx with ⟨hc, -⟩ | ⟨a', len', cap', zs, hc, -, hl, hm, hz, -, hcell, hsz⟩
  · simp at hc
    subst hc
    exact ⟨none, [], 0, rfl, fun i hi => absurd hi (Nat.not_lt_zero _), Nat.zero_le _, fun f hf => by cases hf⟩
  · simp at hc
    subst hc
    have hlz : len' ≤ zs.length := by rw [hz]; split <;> omega
    refine ⟨some a', zs.take len', cap', by rw [List.length_take]; simp; omega, ?_, by rw [List.length_take]; omega, fun f hf => hsz f (List.mem_of_mem_take hf)⟩
    intro i hi
    rw [List.length_take] at hi
    have hc := hcell i (by omega)
    refine ⟨a', rfl, ?_, ?_⟩
    · have hlt : (a'.add i).block < W.heap.size := World.block_lt_of_cell? _ _ hc
      have e : (a'.add i).block = a'.block := by unfold Addr.add; split <;> rfl
      rw [← e]; exact hlt
    · rw [hc, List.getElem_take, List.getD_eq_getElem?_getD, List.getElem?_eq_getElem (by omega)]
      rfl
set_option maxRecDepth 20000 in
theorem array7 {α : Type} {cs : Array α} (h : cs.size = 7) : ∃ c0 c1 c2 c3 c4 c5 c6, cs = #[c0, c1, c2, c3, c4, c5, c6] := by
  obtain ⟨l⟩ := cs
  match l, h with
  | [c0, c1, c2, c3, c4, c5, c6], _ => exact ⟨c0, c1, c2, c3, c4, c5, c6, rfl⟩
end Go.Proofs.YtgabjiamabbheaaGreatDoor
