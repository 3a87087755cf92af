/- The law's own functions on contents: their size, made anew, held against one another. -/
import Derived.Test.YtpjpnjbegjiegaaDoorParams
namespace Go.Proofs.YtpjpnjbegjiegaaDoor
open Go.RowKit Go.Lib
abbrev ct (T S : ByteArray) (o : Option Addr) (n cap : Nat) : Value := .agg #[.string T, .string S, .slice o n cap]
/-- What stands in a block that was laid stands there on. -/
theorem boxed {w w2 : World} {t : TypeId} (a b c : Value) (hb : Below (w.alloc (.cells #[a, b, c] t)).heap.size (w.alloc (.cells #[a, b, c] t)) w2) :
    w2.cell? ⟨w.heap.size, 0, none⟩ = some a ∧ w2.cell? ⟨w.heap.size, 1, none⟩ = some b ∧ w2.cell? ⟨w.heap.size, 2, none⟩ = some c := by
  refine ⟨(hb.cell (p := ⟨w.heap.size, 0, none⟩) (by simp)).trans ?_, (hb.cell (p := ⟨w.heap.size, 1, none⟩) (by simp)).trans ?_, (hb.cell (p := ⟨w.heap.size, 2, none⟩) (by simp)).trans ?_⟩ <;> simp
set_option maxHeartbeats 1000000 in
theorem lawSzC (T S : ByteArray) (o : Option Addr) (F : List Fd) (cap : Nat) (w : World) (hT : T.size ≤ maxLen) (hS : S.size ≤ maxLen) (hF : Fld w.heap.size w o F) (hlen : F.length ≤ maxLen) (hsz : ∀ f ∈ F, f.1.size ≤ maxLen ∧ f.2.size ≤ maxLen) :
    Calls Tryd.prog 5 #[ct T S o F.length cap, .int .i64 1048576] w fun e w' => ∃ r : Int, e = .returned (.int .i64 r) ∧ Hid (r = -1 ∨ 0 ≤ r ∧ T.size ≤ 1048576 ∧ S.size ≤ 1048576 ∧ F.length ≤ 1048576 ∧ ∀ f ∈ F, f.1.size ≤ 1048576 ∧ f.2.size ≤ 1048576) ∧ Below w.heap.size w w' := by
  have hP := fun L hL w hF => lawSzParamS L hL o F cap w hF hlen hsz
  have HP := mkHid hP
  have HF := mkHid hF
  unfold maxLen at hT hS
  clear hP hF hlen hsz
  have hbA : ∀ b, Below w.heap.size w (w.alloc b) := fun b => (Below.refl _ _).alloc (Nat.le_refl _) _
  by_cases h1 : 1048576 < T.size
  · go_enter Tryd.func5, Tryd.ntmps5
    go_wp2
    go_ret
    exact ⟨-1, rfl, Or.inl rfl, hbA _⟩
  · by_cases h2 : 1048576 < T.size + S.size
    · go_enter Tryd.func5, Tryd.ntmps5
      go_wp2
      go_ret
      exact ⟨-1, rfl, Or.inl rfl, hbA _⟩
    · obtain ⟨L, hL⟩ : ∃ L : Nat, (1048576 : Int) - T.size - S.size = L := ⟨1048576 - T.size - S.size, by omega⟩
      go_enter Tryd.func5, Tryd.ntmps5
      go_wp2_with fail
      refine (HP.out L (by omega) _ ((HF.out.below (hbA _)).mono (hbA _).size)).mono ?_
      rintro e w1 ⟨r, rfl, hr, hb1⟩
      have hb := mkHid ((hbA _).trans (hb1.mono (hbA _).size))
      rcases hr.out with rfl | ⟨hr0, hlen, hsz⟩
      · clear hb1 hr
        go_wp2
        go_ret
        exact ⟨-1, rfl, Or.inl rfl, hb.out⟩
      · have Hsz := mkHid hsz
        clear hb1 hr hsz
        go_wp2
        go_ret
        exact ⟨r, rfl, Or.inr ⟨hr0, by omega, by omega, hlen, Hsz.out⟩, hb.out⟩
set_option maxHeartbeats 1000000 in
theorem lawToC (T S : ByteArray) (o : Option Addr) (F : List Fd) (cap : Nat) (w : World) (hF : Fld w.heap.size w o F) (hlen : F.length ≤ 1048576) :
    Calls Tryd.prog 7 #[ct T S o F.length cap] w fun e w' => ∃ a : Addr, e = .returned (ct T S (some a) F.length F.length) ∧ Hid (Fld w'.heap.size w' (some a) F) ∧ Below w.heap.size w w' := by
  have HP := mkHid fun w hF => lawToParamS o F cap w hF hlen
  have HF := mkHid hF
  clear hF
  go_enter Tryd.func7, Tryd.ntmps7
  go_wp2_with fail
  have hbA : ∀ b c d, Below w.heap.size w (((w.alloc b).alloc c).alloc d) := fun b c d => (((Below.refl _ _).alloc (Nat.le_refl _) _).alloc (by simp) _).alloc (by simp; omega) _
  refine (HP.out _ ((HF.out.below (hbA _ _ _)).mono (hbA _ _ _).size)).mono ?_
  rintro e w1 ⟨rfl, hF0, hb1⟩
  have hF1 : Hid (Fld w1.heap.size w1 (some ⟨w.heap.size + 1 + 1 + 1, 0, none⟩) F) := by
    have := hF0.out
    simp at this
    exact this
  clear hF0
  have hb := mkHid ((hbA _ _ _).trans (hb1.mono (hbA _ _ _).size))
  obtain ⟨q0, q1, q2, q3, r0, r1, r2, r3, r4, r5⟩ : w1.cell? ⟨w.heap.size + 1 + 1, 0, none⟩ = some (.string T) ∧ w1.cell? ⟨w.heap.size + 1 + 1, 1, none⟩ = some (.string S) ∧ w1.cell? ⟨w.heap.size + 1 + 1, 2, none⟩ = some (.slice none 0 0) ∧
      w1.frozen? ⟨w.heap.size + 1 + 1, 2, none⟩ = false ∧ w1.cell? ⟨w.heap.size + 1, 0, none⟩ = some (.string ⟨#[]⟩) ∧ w1.cell? ⟨w.heap.size + 1, 1, none⟩ = some (.string ⟨#[]⟩) ∧ w1.cell? ⟨w.heap.size + 1, 2, none⟩ = some (.slice none 0 0) ∧
      w1.frozen? ⟨w.heap.size + 1, 0, none⟩ = false ∧ w1.frozen? ⟨w.heap.size + 1, 1, none⟩ = false ∧ w1.frozen? ⟨w.heap.size + 1, 2, none⟩ = false := by
    refine ⟨(hb1.cell (p := ⟨w.heap.size + 1 + 1, 0, none⟩) (by simp)).trans ?_, (hb1.cell (p := ⟨w.heap.size + 1 + 1, 1, none⟩) (by simp)).trans ?_, (hb1.cell (p := ⟨w.heap.size + 1 + 1, 2, none⟩) (by simp)).trans ?_, (hb1.frozen (p := ⟨w.heap.size + 1 + 1, 2, none⟩) (by simp)).trans ?_, (hb1.cell (p := ⟨w.heap.size + 1, 0, none⟩) (by simp)).trans ?_, (hb1.cell (p := ⟨w.heap.size + 1, 1, none⟩) (by simp)).trans ?_, (hb1.cell (p := ⟨w.heap.size + 1, 2, none⟩) (by simp)).trans ?_, (hb1.frozen (p := ⟨w.heap.size + 1, 0, none⟩) (by simp)).trans ?_, (hb1.frozen (p := ⟨w.heap.size + 1, 1, none⟩) (by simp)).trans ?_, (hb1.frozen (p := ⟨w.heap.size + 1, 2, none⟩) (by simp)).trans ?_⟩ <;> first | (go_simp; done) | (simp [go_sem]; done) | (simp [World.cell?, World.frozen?, World.alloc]; done)
  go_wp2
  have o1 : ∀ (W : World) (v : Value) (i : Nat), (W.setCell ⟨w.heap.size + 1 + 1, 2, none⟩ v).cell? ⟨w.heap.size + 1, i, none⟩ = W.cell? ⟨w.heap.size + 1, i, none⟩ := fun W v i => World.cell?_setCell_other _ _ _ _ (by simp)
  have o2 : ∀ (W : World) (v : Value) (i j : Nat), i ≠ j → (W.setCell ⟨w.heap.size + 1, i, none⟩ v).cell? ⟨w.heap.size + 1, j, none⟩ = W.cell? ⟨w.heap.size + 1, j, none⟩ := fun W v i j h => World.cell?_setCell_other _ _ _ _ (by intro e; exact h (by cases e; rfl))
  have o3 : ∀ (W : World) (v u : Value) (i : Nat), W.cell? ⟨w.heap.size + 1, i, none⟩ = some u → (W.setCell ⟨w.heap.size + 1, i, none⟩ v).cell? ⟨w.heap.size + 1, i, none⟩ = some v := fun W v u i h => World.cell?_setCell_same' _ _ _ (by rw [h]; rfl)
  generalize hx : Value.slice (some ⟨w.heap.size + 1 + 1 + 1, 0, none⟩) F.length F.length = x
  have k0 : ((((w1.setCell ⟨w.heap.size + 1 + 1, 2, none⟩ x).setCell ⟨w.heap.size + 1, 0, none⟩ (.string T)).setCell ⟨w.heap.size + 1, 1, none⟩ (.string S)).setCell ⟨w.heap.size + 1, 2, none⟩ x).cell? ⟨w.heap.size + 1, 0, none⟩ = some (.string T) := by
    rw [o2 _ _ _ _ (by omega), o2 _ _ _ _ (by omega)]
    exact o3 _ _ _ _ ((o1 _ _ _).trans r0)
  have k1 : ((((w1.setCell ⟨w.heap.size + 1 + 1, 2, none⟩ x).setCell ⟨w.heap.size + 1, 0, none⟩ (.string T)).setCell ⟨w.heap.size + 1, 1, none⟩ (.string S)).setCell ⟨w.heap.size + 1, 2, none⟩ x).cell? ⟨w.heap.size + 1, 1, none⟩ = some (.string S) := by
    rw [o2 _ _ _ _ (by omega)]
    exact o3 _ _ _ _ ((o2 _ _ _ _ (by omega)).trans ((o1 _ _ _).trans r1))
  have k2 : ((((w1.setCell ⟨w.heap.size + 1 + 1, 2, none⟩ x).setCell ⟨w.heap.size + 1, 0, none⟩ (.string T)).setCell ⟨w.heap.size + 1, 1, none⟩ (.string S)).setCell ⟨w.heap.size + 1, 2, none⟩ x).cell? ⟨w.heap.size + 1, 2, none⟩ = some x :=
    o3 _ _ _ _ ((o2 _ _ _ _ (by omega)).trans ((o2 _ _ _ _ (by omega)).trans ((o1 _ _ _).trans r2)))
  have hB : Below w.heap.size w ((((w1.setCell ⟨w.heap.size + 1 + 1, 2, none⟩ x).setCell ⟨w.heap.size + 1, 0, none⟩ (.string T)).setCell ⟨w.heap.size + 1, 1, none⟩ (.string S)).setCell ⟨w.heap.size + 1, 2, none⟩ x) :=
    (((hb.out.setCell (by simp; omega) _).setCell (by simp) _).setCell (by simp) _).setCell (by simp) _
  have hM : Hid (Fld ((((w1.setCell ⟨w.heap.size + 1 + 1, 2, none⟩ x).setCell ⟨w.heap.size + 1, 0, none⟩ (.string T)).setCell ⟨w.heap.size + 1, 1, none⟩ (.string S)).setCell ⟨w.heap.size + 1, 2, none⟩ x).heap.size ((((w1.setCell ⟨w.heap.size + 1 + 1, 2, none⟩ x).setCell ⟨w.heap.size + 1, 0, none⟩ (.string T)).setCell ⟨w.heap.size + 1, 1, none⟩ (.string S)).setCell ⟨w.heap.size + 1, 2, none⟩ x) (some ⟨w.heap.size + 1 + 1 + 1, 0, none⟩) F) := by
    intro i hi
    obtain ⟨a, ea, ha, h0, h1⟩ := hF1.out i (by simpa using hi)
    cases ea
    have ne : ∀ (W : World) (v : Value) (j n : Nat) (q : Addr), n ≤ w.heap.size + 1 + 1 → q.block = w.heap.size + 1 + 1 + 1 → (W.setCell ⟨n, j, none⟩ v).cell? q = W.cell? q := fun W v j n q h1 h2 => World.cell?_setCell_other _ _ _ _ (by intro e; rw [← e] at h2; simp at h2; omega)
    refine ⟨_, rfl, ?_, ?_, ?_⟩
    · simp [World.setCell] at ha ⊢
      exact ha
    · rw [ne _ _ _ _ _ (by omega) (by rw [add_block]), ne _ _ _ _ _ (by omega) (by rw [add_block]), ne _ _ _ _ _ (by omega) (by rw [add_block]), ne _ _ _ _ _ (by omega) (by rw [add_block])]
      exact h0
    · rw [ne _ _ _ _ _ (by omega) (by rw [add_block]), ne _ _ _ _ _ (by omega) (by rw [add_block]), ne _ _ _ _ _ (by omega) (by rw [add_block]), ne _ _ _ _ _ (by omega) (by rw [add_block])]
      exact h1
  subst hx
  refine bodyPost_ret (v := ct T S (some ⟨w.heap.size + 1 + 1 + 1, 0, none⟩) F.length F.length) ?_ rfl ⟨_, rfl, hM, hB⟩
  simp [results, Tryd.results7, go_sem, k0, k1, k2]
set_option maxHeartbeats 1000000 in
theorem lawEqC (T S : ByteArray) (a b : Addr) (F : List Fd) (cap cap' : Nat) (w : World) (hF : Fld w.heap.size w (some a) F) (hG : Fld w.heap.size w (some b) F) (hlen : F.length ≤ 1048576) :
    Calls Tryd.prog 9 #[ct T S (some a) F.length cap, ct T S (some b) F.length cap'] w fun e w' => e = .returned (.bool true) ∧ Below w.heap.size w w' := by
  have HP := mkHid fun w hF hG => lawEqParamS a b F cap cap' w hF hG hlen
  have HF := mkHid hF
  have HG := mkHid hG
  clear hF hG
  have hbA : ∀ b c, Below w.heap.size w ((w.alloc b).alloc c) := fun b c => ((Below.refl _ _).alloc (Nat.le_refl _) _).alloc (by simp) _
  go_enter Tryd.func9, Tryd.ntmps9
  go_wp2_with fail
  refine (HP.out _ ((HF.out.below (hbA _ _)).mono (hbA _ _).size) ((HG.out.below (hbA _ _)).mono (hbA _ _).size)).mono ?_
  rintro e w1 ⟨rfl, hb1⟩
  go_wp2
  go_ret
  exact ⟨rfl, (hbA _ _).trans (hb1.mono (hbA _ _).size)⟩
end Go.Proofs.YtpjpnjbegjiegaaDoor
