/- Good utf-8 and ContentFault, the specification's side. -/
import Derived.Test.YtpjpnjbegjiegaaDoorContTake
namespace Go.Proofs.YtpjpnjbegjiegaaDoor
open Go.RowKit Go.Lib
theorem Tryd.info2 : (Tryd.prog.info? 2).map (fun i => (i.zero, i.size, i.bytes)) = some (some (.int .i64 0), 1, 8) := by kernel_rfl
/-- The slice v, whose array is among the blocks from B on, holds n numbers. -/
def Own64 (B : Nat) (v : Value) (n : Nat) (w : World) : Prop := ∃ xs, w.ownsRow B 2 1 v n xs
theorem Own64.made (B : Nat) (w : World) (h : B ≤ w.heap.size) : Own64 B (.slice (some ⟨w.heap.size, 0, none⟩) 0 0) 0 (w.alloc (.cells #[] 2)) :=
  ⟨_, World.ownsRow_made w #[] 0 h (by unfold maxLen; omega) rfl⟩
theorem Own64.keep {B C : Nat} {v : Value} {n : Nat} {w w' : World} (h : Own64 B v n w) (hC : w.heap.size ≤ C) (hb : Below C w w') : Own64 B v n w' := by
  obtain ⟨xs, h⟩ := h
  refine ⟨xs, h.1, ?_⟩
  rcases h.2 with h | ⟨g, cap, cur, h1, h2, h3, h4⟩
  · exact .inl h
  · refine .inr ⟨g, cap, cur, h1, h2, ?_, h4⟩
    have hg : g < w.heap.size := by
      by_cases hg : g < w.heap.size
      · exact hg
      · rw [Array.getElem?_eq_none (by omega)] at h3; cases h3
    rw [hb.block g (by omega), h3]
theorem Own64.form {B : Nat} {v : Value} {n : Nat} {w : World} (h : Own64 B v n w) : ∃ o m c, v = .slice o m c := by
  obtain ⟨xs, h⟩ := h
  rcases h.2 with ⟨rfl, -⟩ | ⟨g, cap, cur, rfl, -⟩
  · exact ⟨_, _, _, rfl⟩
  · exact ⟨_, _, _, rfl⟩
/-- An append of one number: it is laid in a block of its own first. -/
theorem wp_app64 {P : Program} {W w : World} {ops : Array Oper} {rest : List Oper} {o : Oper} {a : Act} {Q : Exit → Act → World → Prop} (hgd : o.guard = none) (s x : Operand) (t : TypeId)
    (ho : o.op = .call { callee := .builtin .append, args := #[s, x], argTypes := #[t, t] })
    (i : TypeInfo) (ht : P.underlying t = some (.slice 2)) (hi : P.info? 2 = some i) (hz : i.zero = some (.int .i64 0)) (hsize : i.size = 1) (hby : i.bytes = 8)
    (B : Nat) (v : Value) (n : Nat) (hs : a.eval s = v) (hown : Own64 B v n w) (p : Int)
    (hx : a.eval x = .slice (some ⟨w.heap.size, 0, none⟩) 1 1) (hlen : n ≤ 8000000000) (hB : B ≤ W.heap.size) (hb : Below B W w)
    (h : ∀ v' w', Own64 B v' (n + 1) w' → Below B W w' → wpList P ops Q rest (a.put o.dst v') w') : wpList P ops Q (o :: rest) a (w.alloc (.cells #[.int .i64 p] 2)) := by
  obtain ⟨xs, hown⟩ := hown
  have hsz := hb.size
  refine wpList_append_own _ hgd s x t ho B 2 i (.int .i64 0) 1 8 ht hi hz hsize hby rfl (by decide) v n xs hs (hown.alloc _) ⟨w.heap.size, 0, none⟩ 1 1 [.int .i64 p] hx
    rfl ?_ ?_ (by unfold maxLen; omega) (by omega) (by have := hown.1; simp; omega) ?_
  · intro j u hj
    match j, hj with
    | 0, hj => simp at hj; subst hj; simp [Addr.add]
  · intro u hu
    simp at hu
    subst hu
    rfl
  · intro v' w' h1 h2 _
    refine h v' w' ⟨_, h1⟩ ?_
    exact (hb.alloc (by omega) _).grown h2 (by simp; omega) (fun k hk => (World.ownsRow.lt hown k hk).1)
set_option maxHeartbeats 400000 in
theorem specName4 (w : World) : Calls Tryd.prog 40 #[.int .i64 4] w fun e w' => e = .returned (.string ⟨#[117, 116, 102, 45, 56]⟩) ∧ w = w' := by
  go_enter Tryd.func40, Tryd.ntmps40
  go_wp2
  go_ret
  exact ⟨rfl, rfl⟩
/-- Three cells of a block that are set read as they were set. -/
theorem three (W : World) (b : Nat) (a0 a1 a2 x0 x1 x2 : Value) (h0 : W.cell? ⟨b, 0, none⟩ = some a0) (h1 : W.cell? ⟨b, 1, none⟩ = some a1) (h2 : W.cell? ⟨b, 2, none⟩ = some a2) :
    (((W.setCell ⟨b, 0, none⟩ x0).setCell ⟨b, 1, none⟩ x1).setCell ⟨b, 2, none⟩ x2).cell? ⟨b, 0, none⟩ = some x0 ∧ (((W.setCell ⟨b, 0, none⟩ x0).setCell ⟨b, 1, none⟩ x1).setCell ⟨b, 2, none⟩ x2).cell? ⟨b, 1, none⟩ = some x1 ∧
      (((W.setCell ⟨b, 0, none⟩ x0).setCell ⟨b, 1, none⟩ x1).setCell ⟨b, 2, none⟩ x2).cell? ⟨b, 2, none⟩ = some x2 := by
  have o2 : ∀ (W : World) (v : Value) (i j : Nat), i ≠ j → (W.setCell ⟨b, i, none⟩ v).cell? ⟨b, j, none⟩ = W.cell? ⟨b, j, none⟩ := fun W v i j h => World.cell?_setCell_other _ _ _ _ (by intro e; exact h (by cases e; rfl))
  have o3 : ∀ (W : World) (v u : Value) (i : Nat), W.cell? ⟨b, i, none⟩ = some u → (W.setCell ⟨b, i, none⟩ v).cell? ⟨b, i, none⟩ = some v := fun W v u i h => World.cell?_setCell_same' _ _ _ (by rw [h]; rfl)
  refine ⟨?_, ?_, ?_⟩
  · rw [o2 _ _ _ _ (by omega), o2 _ _ _ _ (by omega)]
    exact o3 _ _ _ _ h0
  · rw [o2 _ _ _ _ (by omega)]
    exact o3 _ _ _ _ ((o2 _ _ _ _ (by omega)).trans h1)
  · exact o3 _ _ _ _ ((o2 _ _ _ _ (by omega)).trans ((o2 _ _ _ _ (by omega)).trans h2))
theorem Tryd.infoP : (Tryd.prog.info? 49).map (fun i => (i.zero, i.size, i.bytes)) = some (some (.agg #[.bool false, .int .i64 0, .slice none 0 0]), 3, 40) := by kernel_rfl
set_option maxHeartbeats 2000000 in
theorem specDecode4 (s : ByteArray) (w : World) (hs : s.size ≤ 100000) :
    Calls Tryd.prog 23 #[.int .i64 4, .string s] w fun e w' => ∃ (i : Int) (o : Option Addr) (m c : Nat), e = .returned (.agg #[.bool (validD s.data.toList), .int .i64 i, .slice o m c]) ∧ Below w.heap.size w w' := by
  obtain ⟨i0, hi, hz0, hz1, hz2⟩ := info_parts Tryd.info2
  obtain ⟨A, HA⟩ : ∃ A, Hid (validD s.data.toList = A) := ⟨_, rfl⟩
  rw [HA.out]
  have cN := fun w => specName4 w
  go_enter Tryd.func23, Tryd.ntmps23
  go_wp2_with (go_at_call 40; go_must (refine (cN _).mono ?_; rintro e w2 ⟨rfl, rfl⟩))
  have hbA : ∀ b, Below w.heap.size w (w.alloc b) := fun b => (Below.refl _ _).alloc (Nat.le_refl _) _
  go_loopw [5, 6] (fun out at' wr => ∃ k n : Nat, k ≤ s.size ∧ n ≤ k ∧ at' = .int .i64 k ∧ Hid (validD (s.data.toList.drop k) = A) ∧ Own64 (w.heap.size + 1) out n wr ∧ Below (w.heap.size + 1) (w.alloc (.cells #[.bool false, .int .i64 0, .slice none 0 0] 49)) wr) (fun _ i _ => s.size - (Lib.intOf i).toNat)
  case atStart =>
    refine ⟨0, 0, Nat.zero_le _, Nat.le_refl _, rfl, HA.out, ?_, (Below.refl _ _).alloc (by simp) _⟩
    have := Own64.made (w.heap.size + 1) (w.alloc (.cells #[.bool false, .int .i64 0, .slice none 0 0] 49)) (by simp)
    simpa using this
  case round =>
    obtain ⟨k, n, hk, hnk, rfl, hp, hown, hb⟩ := hrel
    have hbw := mkHid ((hbA _).trans (hb.mono (by simp)))
    obtain ⟨q0, q1, q2, f0, f1, f2⟩ : wr.cell? ⟨w.heap.size, 0, none⟩ = some (.bool false) ∧ wr.cell? ⟨w.heap.size, 1, none⟩ = some (.int .i64 0) ∧ wr.cell? ⟨w.heap.size, 2, none⟩ = some (.slice none 0 0) ∧
        wr.frozen? ⟨w.heap.size, 0, none⟩ = false ∧ wr.frozen? ⟨w.heap.size, 1, none⟩ = false ∧ wr.frozen? ⟨w.heap.size, 2, none⟩ = false := by
      refine ⟨(hb.cell (p := ⟨w.heap.size, 0, none⟩) (by simp)).trans ?_, (hb.cell (p := ⟨w.heap.size, 1, none⟩) (by simp)).trans ?_, (hb.cell (p := ⟨w.heap.size, 2, none⟩) (by simp)).trans ?_,
        (hb.frozen (p := ⟨w.heap.size, 0, none⟩) (by simp)).trans ?_, (hb.frozen (p := ⟨w.heap.size, 1, none⟩) (by simp)).trans ?_, (hb.frozen (p := ⟨w.heap.size, 2, none⟩) (by simp)).trans ?_⟩ <;> simp
    by_cases hlt : k < s.size
    · have cT := fun w => specTake s k w hlt hs
      have hne : s.data.toList.drop k ≠ [] := by
        intro e
        have := congrArg List.length e
        simp at this
        omega
      have hst := mkHid (Pl.valid_step _ hne)
      have hle := Pl.take_le (s.data.toList.drop k)
      rw [List.drop_drop] at hst
      have hle' : Pl.takeN (s.data.toList.drop k) ≤ s.size - k := by have := hle.1; simp at this; omega
      generalize Pl.takeN (s.data.toList.drop k) = t at *
      by_cases ht : t = 0
      · have hA : Hid (A = false) := show _ = _ from by rw [← hp.out, hst.out, if_pos ht]
        subst ht
        clear hst hp HA hle
        go_wp2_with fail
        refine (cT _).mono ?_
        rintro e w2 ⟨p, rfl, hb2⟩
        have hbz := mkHid (hbw.out.trans (hb2.mono hbw.out.size))
        obtain ⟨r0, r1, r2, g0, g1, g2⟩ : w2.cell? ⟨w.heap.size, 0, none⟩ = some (.bool false) ∧ w2.cell? ⟨w.heap.size, 1, none⟩ = some (.int .i64 0) ∧ w2.cell? ⟨w.heap.size, 2, none⟩ = some (.slice none 0 0) ∧
            w2.frozen? ⟨w.heap.size, 0, none⟩ = false ∧ w2.frozen? ⟨w.heap.size, 1, none⟩ = false ∧ w2.frozen? ⟨w.heap.size, 2, none⟩ = false :=
          ⟨(hb2.cell (cell_lt' q0)).trans q0, (hb2.cell (cell_lt' q1)).trans q1, (hb2.cell (cell_lt' q2)).trans q2, (hb2.frozen (cell_lt' q0)).trans f0, (hb2.frozen (cell_lt' q1)).trans f1, (hb2.frozen (cell_lt' q2)).trans f2⟩
        clear q0 q1 q2 f0 f1 f2 hb2 hb hown cT
        go_wp2
        obtain ⟨k0, k1, k2⟩ := three w2 w.heap.size _ _ _ (.bool false) (.int .i64 k) (.slice none 0 0) r0 r1 r2
        refine bodyPost_ret (v := .agg #[.bool false, .int .i64 k, .slice none 0 0]) (by simp [results, Tryd.results23, go_sem, k0, k1, k2]) rfl ⟨_, _, _, _, by rw [hA.out], ((hbz.out.setCell (by simp) _).setCell (by simp) _).setCell (by simp) _⟩
      · have hA : Hid (validD (s.data.toList.drop (k + t)) = A) := show _ = _ from by rw [← hp.out, hst.out, if_neg ht]
        have htz : ((t : Int) == 0) = false := by simp; omega
        clear hst hp HA hle
        go_wp2_with fail
        refine (cT _).mono ?_
        rintro e w2 ⟨p, rfl, hb2⟩
        have hown2 := hown.keep (Nat.le_refl _) hb2
        have hB2 := hb.trans (hb2.mono (by have := hb.size; simp at this; omega))
        go_wp2_with (at_builtin; go_must (refine wp_app64 (W := w.alloc (.cells #[.bool false, .int .i64 0, .slice none 0 0] 49)) rfl _ _ 47 rfl i0 Tryd.underlying47 hi hz0 hz1 hz2 (w.heap.size + 1) u5 n rfl hown2 p rfl (by omega) (by simp) hB2 ?_; intro v' w' hown' hb'))
        go_roundw
        case rel => exact ⟨k + t, n + 1, by omega, by omega, by go_num, hA, hown', hb'⟩
        case measure => simp [Lib.intOf]; omega
    · have hA : Hid (A = true) := show _ = _ from by
        rw [← hp.out, List.drop_eq_nil_of_le (by simp; omega)]
        rfl
      obtain ⟨o, m, c, rfl⟩ := hown.form
      clear hp HA hown hb
      go_wp2
      obtain ⟨k0, k1, k2⟩ := three wr w.heap.size _ _ _ (.bool true) (.int .i64 0) (.slice o m c) q0 q1 q2
      refine bodyPost_ret (v := .agg #[.bool true, .int .i64 0, .slice o m c]) (by simp [results, Tryd.results23, go_sem, k0, k1, k2]) rfl ⟨_, _, _, _, by rw [hA.out], ((hbw.out.setCell (by simp) _).setCell (by simp) _).setCell (by simp) _⟩
theorem fieldP (b : Bool) (i : Int) (o : Option Addr) (m c : Nat) (w : World) : Sem.run Tryd.prog (Instr.field 49 (.agg #[.bool b, .int .i64 i, .slice o m c]) 0) w = .ok (.bool b) w := by kernel_rfl
set_option maxHeartbeats 400000 in
theorem specGood (s : ByteArray) (w : World) (hs : s.size ≤ 1100000) : Calls Tryd.prog 14 #[.string s] w fun e w' => e = .returned (.bool (Pl.pval s)) ∧ Below w.heap.size w w' := by
  unfold Pl.pval
  by_cases h1 : s.size ≤ 1000
  · have cD := specDecode4 s w (by omega)
    generalize validD s.data.toList = b at cD ⊢
    have hf := fieldP b
    rw [decide_eq_true h1, Bool.true_and]
    go_enter Tryd.func14, Tryd.ntmps14
    go_wp2_with (go_at_call 23; go_must (refine cD.mono ?_; rintro e w2 ⟨i, o, m, c, rfl, hb⟩))
    go_ret
    exact ⟨rfl, hb⟩
  · rw [decide_eq_false h1, Bool.false_and]
    go_enter Tryd.func14, Tryd.ntmps14
    go_wp2
    go_ret
    exact ⟨rfl, Below.refl _ _⟩
end Go.Proofs.YtpjpnjbegjiegaaDoor
