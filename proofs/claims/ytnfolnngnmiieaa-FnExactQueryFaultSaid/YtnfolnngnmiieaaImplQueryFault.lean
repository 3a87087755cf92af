
/- The program's QueryFault. -/
import Derived.Test.YtnfolnngnmiieaaQNode3
namespace Go.Proofs.Ytnfolnngnmiieaa
open Go.RowKit Go.Lib Go.Maps
set_option linter.unusedVariables false
namespace Tr
variable {ok : Nat → Bool} {kids : Nat → List Int}
theorem run_klen : ∀ (n : Nat) (o : List Int), run ok kids n = some o → ∀ i, i < n → (kids i).length ≤ i
  | 0, o, _, i, hi => by omega
  | n + 1, o, h, i, hi => by
    unfold run at h
    split at h
    · cases h
    · rename_i p hp
      split at h
      · rename_i hc
        by_cases e : i = n
        · subst e
          have := run_len i p hp
          have := hc.1
          omega
        · exact run_klen n p hp i (by omega)
      · cases h
theorem oneT_klen (kids : Nat → List Int) (N : Nat) (h : oneT kids N = true) : ∀ i, i < N → (kids i).length ≤ i := by
  unfold oneT at h
  cases hr : run tt kids N with
  | none => rw [hr] at h; cases h
  | some o => exact run_klen N o hr
end Tr
namespace Qu
theorem ok_all (F : List GQueryNode) : (∀ i, i < F.length → ok F i = true) ↔ F.all right = true := by
  rw [List.all_eq_true]
  constructor
  · intro h n hn
    obtain ⟨i, hi, rfl⟩ := List.getElem_of_mem hn
    have := h i hi
    unfold ok at this
    rw [List.getElem?_eq_getElem hi] at this
    exact this
  · intro h i hi
    unfold ok
    rw [List.getElem?_eq_getElem hi]
    exact h _ (List.getElem_mem hi)
def great (F : List GQueryNode) : Bool := decide ((100 : Int) < (F.length : Int)) || decide ((10 : Int) < (Tr.depTo (kids F) F.length (F.length - 1) : Int))
theorem good_eq (F : List GQueryNode) : good F = (Tr.oneT (kids F) F.length && (!great F && F.all right)) := by
  unfold good great
  cases hn : F.length with
  | zero => rfl
  | succ n =>
    rw [show n + 1 - 1 = n by omega, decide_eq_true (show 1 ≤ n + 1 by omega), Bool.true_and, Bool.eq_iff_iff]
    simp only [Bool.and_eq_true, decide_eq_true_eq, beq_iff_eq, Bool.not_eq_true', Bool.or_eq_false_iff, decide_eq_false_iff_not]
    rw [Tr.span_oneT (ok := ok F) (kids := kids F) n 9, ← hn, ok_all F, hn]
    constructor
    · rintro ⟨a, b, c, d⟩
      exact ⟨b, ⟨by omega, by omega⟩, d⟩
    · rintro ⟨b, ⟨a, c⟩, d⟩
      exact ⟨by omega, b, by omega, d⟩
end Qu
theorem implTooGreat (o : Option Addr) (F : List GQueryNode) (cap lo : Nat) (w : World) (hF : GQueryNodesL lo w.heap.size w o F) (hl : F.length ≤ 1048576) (hf : ∀ n ∈ F, n.fits 1048576) (h1 : Tr.oneT (Qu.kids F) F.length = true) :
    Calls Try.prog 21 #[.slice o F.length cap] w fun e w' => e = .returned (.bool (Qu.great F)) ∧ Below w.heap.size w w' := by
  have hpos : 1 ≤ F.length := by
    cases hn : F.length with
    | zero => rw [hn] at h1; cases h1
    | succ n => omega
  unfold Qu.great
  by_cases hbig : 100 < F.length
  · have x1 : decide ((100 : Int) < (F.length : Int)) = true := decide_eq_true (by omega)
    rw [x1, Bool.true_or]
    clear hF hf
    go_enter Try.func21, Try.ntmps21
    go_wp2
    go_ret
    exact ⟨rfl, Below.refl _ _⟩
  · have x1 : decide ((100 : Int) < (F.length : Int)) = false := decide_eq_false (by omega)
    have cD := mkHid (implDepth o F cap lo w hF (by omega) hpos hf (Tr.oneT_kids _ _ h1))
    rw [x1, Bool.false_or]
    generalize Tr.depTo (Qu.kids F) F.length (F.length - 1) = dd at *
    clear hF hf h1
    obtain ⟨bd, hbd⟩ : ∃ bd, decide ((10 : Int) < (dd : Int)) = bd := ⟨_, rfl⟩
    rw [hbd]
    go_enter Try.func21, Try.ntmps21
    go_wp2_with fail
    refine cD.out.mono ?_
    rintro e w1 ⟨rfl, hb1⟩
    go_wp2
    go_ret
    exact ⟨rfl, hb1⟩
set_option maxHeartbeats 1000000 in
theorem implIsQuery (o : Option Addr) (F : List GQueryNode) (cap lo : Nat) (w : World) (hF : GQueryNodesL lo w.heap.size w o F) (hl : F.length ≤ 1048576) (hf : ∀ n ∈ F, n.fits 1048576) :
    Calls Try.prog 13 #[.slice o F.length cap] w fun e w' => e = .returned (.bool (Qu.good F)) ∧ Below w.heap.size w w' := by
  have c1 := mkHid (implOneTree o F cap lo w hF hl hf)
  rw [Qu.good_eq]
  cases h1 : Tr.oneT (Qu.kids F) F.length
  · rw [h1] at c1
    rw [Bool.false_and]
    clear hF hf
    go_enter Try.func13, Try.ntmps13
    go_wp2_with fail
    refine c1.out.mono ?_
    rintro e w1 ⟨rfl, hb1⟩
    go_wp2
    go_ret
    exact ⟨rfl, hb1⟩
  · rw [h1] at c1
    rw [Bool.true_and]
    have c2 : Hid (∀ w', Below w.heap.size w w' → Calls Try.prog 21 #[.slice o F.length cap] w' fun e w'' => e = .returned (.bool (Qu.great F)) ∧ Below w'.heap.size w' w'') := fun w' hb => implTooGreat o F cap lo w' ((hF.below hb (Nat.le_refl _)).mono (Nat.le_refl _) hb.size) hl hf h1
    cases h2 : Qu.great F
    · rw [h2] at c2
      have hkl : ∀ n ∈ F, n.kids.length ≤ 100 := by
        intro n hn
        obtain ⟨i, hi, rfl⟩ := List.getElem_of_mem hn
        have := Tr.oneT_klen _ _ h1 i hi
        have e : Qu.kids F i = F[i].kids := by unfold Qu.kids; rw [List.getElem?_eq_getElem hi]; rfl
        rw [e] at this
        unfold Qu.great at h2
        rw [Bool.or_eq_false_iff] at h2
        have := of_decide_eq_false h2.1
        omega
      have c3 : Hid (∀ w', Below w.heap.size w w' → Calls Try.prog 22 #[.slice o F.length cap, .func (.func 23) #[] #[]] w' fun e w'' => e = .returned (.bool (!F.all Qu.right)) ∧ Below w'.heap.size w' w'') := fun w' hb => implContainsQ o F cap lo w' ((hF.below hb (Nat.le_refl _)).mono (Nat.le_refl _) hb.size) hl hf hkl
      generalize F.all Qu.right = z at *
      clear hF hf hkl
      cases z
      all_goals
        go_enter Try.func13, Try.ntmps13
        go_wp2_with fail
        refine c1.out.mono ?_
        rintro e w1 ⟨rfl, hb1⟩
        have c2' := mkHid (c2.out w1 hb1)
        go_wp2_with fail
        refine c2'.out.mono ?_
        rintro e w2 ⟨rfl, hb2⟩
        have hB2 := hb1.trans (hb2.mono hb1.size)
        have c3' := mkHid (c3.out w2 hB2)
        clear c1 c2 c3 c2'
        go_wp2_with fail
        refine c3'.out.mono ?_
        rintro e w3 ⟨rfl, hb3⟩
        have hB3 := mkHid (hB2.trans (hb3.mono hB2.size))
        go_wp2
        go_ret
        exact ⟨rfl, hB3.out⟩
    · rw [h2] at c2
      clear hF hf
      go_enter Try.func13, Try.ntmps13
      go_wp2_with fail
      refine c1.out.mono ?_
      rintro e w1 ⟨rfl, hb1⟩
      have c2' := mkHid (c2.out w1 hb1)
      clear c1 c2
      go_wp2_with fail
      refine c2'.out.mono ?_
      rintro e w2 ⟨rfl, hb2⟩
      have hB2 := mkHid (hb1.trans (hb2.mono hb1.size))
      go_wp2
      go_ret
      exact ⟨rfl, hB2.out⟩
theorem implQueryFault (o : Option Addr) (F : List GQueryNode) (cap lo : Nat) (w : World) (hF : GQueryNodesL lo w.heap.size w o F) (hl : F.length ≤ 1048576) (hf : ∀ n ∈ F, n.fits 1048576) :
    Calls Try.prog 7 #[.slice o F.length cap] w fun e w' => e = .returned (.int .i64 (plQueryFault F)) ∧ Below w.heap.size w w' := by
  have c1 := mkHid (implIsQuery o F cap lo w hF hl hf)
  unfold plQueryFault
  generalize Qu.good F = z at *
  clear hF hf
  go_enter Try.func7, Try.ntmps7
  go_wp2_with fail
  refine c1.out.mono ?_
  rintro e w1 ⟨rfl, hb1⟩
  have c2 := mkHid (implForm z w1)
  go_wp2_with fail
  refine c2.out.mono ?_
  rintro e w2 ⟨rfl, rfl⟩
  go_wp2
  go_ret
  exact ⟨rfl, hb1⟩
end Go.Proofs.Ytnfolnngnmiieaa
