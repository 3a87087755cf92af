/- Appends to a slice of bytes leave every block of another kind as it was. -/
import Derived.Test.YtpjpnjbegjiegaaDoorWriteImpl
import Derived.Test.YtpjpnjbegjiegaaDoorStrs
namespace Go.Proofs.YtpjpnjbegjiegaaDoor
open Go.RowKit Go.Lib
/-- Every block whose cells are not of type e stands as it stood. -/
structure FrT (e : TypeId) (w w' : World) : Prop where
  size : w.heap.size ≤ w'.heap.size
  block : ∀ (k : Nat) (c : Array Value) (t : TypeId), t ≠ e → w.heap[k]? = some (Obj.cells c t) → w'.heap[k]? = some (Obj.cells c t)
theorem FrT.refl (e : TypeId) (w : World) : FrT e w w := ⟨Nat.le_refl _, fun _ _ _ _ h => h⟩
theorem FrT.trans {e : TypeId} {a b c : World} (h : FrT e a b) (k : FrT e b c) : FrT e a c := ⟨Nat.le_trans h.size k.size, fun i x t ht hi => k.block i x t ht (h.block i x t ht hi)⟩
theorem heap_lt {w : World} {k : Nat} {o : Obj} (h : w.heap[k]? = some o) : k < w.heap.size := by
  by_cases hk : k < w.heap.size
  · exact hk
  · rw [Array.getElem?_eq_none (by omega)] at h
    cases h
theorem FrT.of_below {e : TypeId} {w w' : World} (h : Below w.heap.size w w') : FrT e w w' :=
  ⟨h.size, fun k c t _ hk => by rw [h.block k (heap_lt hk)]; exact hk⟩
theorem FrT.of_grown {e : TypeId} {w w' : World} {B size n : Nat} {v : Value} {xs : List Value} (hown : w.ownsRow B e size v n xs) (hg : w.grownBy w' v.ownBlock) : FrT e w w' := by
  refine ⟨hg.size, fun k c t ht hk => ?_⟩
  rw [hg.block k (heap_lt hk) ?_]
  · exact hk
  · intro hkv
    rcases hown.2 with ⟨rfl, -⟩ | ⟨g, cap, cur, rfl, -, h3, -⟩
    · cases hkv
    · have : k = g := by simpa [Value.ownBlock] using hkv
      subst this
      rw [hk] at h3
      cases h3
      exact ht rfl
theorem FrT.ownsRow {e e' : TypeId} {w w' : World} {B size n : Nat} {v : Value} {xs : List Value} (h : FrT e w w') (hne : e' ≠ e) (hown : w.ownsRow B e' size v n xs) : w'.ownsRow B e' size v n xs := by
  refine ⟨hown.1, ?_⟩
  rcases hown.2 with h2 | ⟨g, cap, cur, h1, h2, h3, h4⟩
  · exact .inl h2
  · exact .inr ⟨g, cap, cur, h1, h2, h.block g cur e' hne h3, h4⟩
theorem cell_of_heap {w : World} {cs : Array Value} {t : TypeId} {g : Nat} (h : w.heap[g]? = some (Obj.cells cs t)) (i : Nat) : w.cell? ⟨g, i, none⟩ = cs[i]? := by
  simp [World.cell?, h]
/-- An append of a text. -/
theorem wp_appsF {P : Program} {W w : World} {ops : Array Oper} {rest : List Oper} {o : Oper} {a : Act} {Q : Exit → Act → World → Prop} (hgd : o.guard = none) (s x : Operand) (t u : TypeId)
    (ho : o.op = .call { callee := .builtin .append, args := #[s, x], argTypes := #[t, u] })
    (i : TypeInfo) (ht : P.underlying t = some (.slice 5)) (hu : P.underlying u = some .string) (hi : P.info? 5 = some i) (hz : i.zero = some (.int .u8 0)) (hsize : i.size = 1) (hby : i.bytes = 1)
    (B : Nat) (v : Value) (p : List UInt8) (hs : a.eval s = v) (hown : Own B v p w) (news : ByteArray)
    (hx : a.eval x = .string news) (hlen : p.length + news.size ≤ 140737488355328) (hB : B ≤ W.heap.size) (hb : Below B W w) (hf : FrT 5 W w)
    (h : ∀ v' w', Own B v' (p ++ news.data.toList) w' → Below B W w' → FrT 5 W w' → wpList P ops Q rest (a.put o.dst v') w') : wpList P ops Q (o :: rest) a w := by
  have hsz := hb.size
  refine wpList_append_own_string _ hgd s x t u ho B 5 i ht hu hi hz hsize hby v p.length (byteCells p) hs hown news hx (by unfold maxLen; omega) hlen (by omega) ?_
  intro v' w' h1 h2 _
  refine h v' w' ?_ ?_ (hf.trans (FrT.of_grown hown h2))
  · unfold Own
    rw [byteCells_append, List.length_append]
    exact h1
  · exact hb.grown h2 (by omega) (fun k hk => (World.ownsRow.lt hown k hk).1)
theorem OwnS.frame {B : Nat} {v : Value} {ps : List ByteArray} {w w' : World} (h : OwnS B v ps w) (hf : FrT 5 w w') : OwnS B v ps w' := hf.ownsRow (by decide) h
theorem Own.keep {B : Nat} {v : Value} {p : List UInt8} {w w' : World} (h : Own B v p w) (hb : Below w.heap.size w w') : Own B v p w' := (FrT.of_below (e := 9) hb).ownsRow (by decide) h
def mkB (l : List UInt8) : ByteArray := ⟨l.toArray⟩
theorem mkB_size (l : List UInt8) : (mkB l).size = l.length := by simp [mkB, ByteArray.size]
theorem drop_at (s : ByteArray) (k : Nat) (h : k < s.size) : s.data.toList.drop k = s[k] :: s.data.toList.drop (k + 1) := by
  rw [List.drop_eq_getElem_cons (by simpa using h)]
  rfl
theorem cut_hit (b : UInt8) (r last : List UInt8) (h : 60 < last.length + (Pl.codeB b).length) : Pl.cut (b :: r) last = last :: Pl.cut r (Pl.codeB b) := by
  conv => lhs; unfold Pl.cut
  rw [if_pos h]
theorem cut_on (b : UInt8) (r last : List UInt8) (h : ¬ 60 < last.length + (Pl.codeB b).length) : Pl.cut (b :: r) last = Pl.cut r (last ++ Pl.codeB b) := by
  conv => lhs; unfold Pl.cut
  rw [if_neg h]
set_option maxHeartbeats 2000000 in
theorem implPieces (s : ByteArray) (w : World) (hs : s.size ≤ 1000) :
    Calls Tryd.prog 38 #[.string s] w fun e w' => ∃ u, e = .returned u ∧ OwnS w.heap.size u ((Pl.cut s.data.toList []).map mkB) w' ∧ Below w.heap.size w w' := by
  obtain ⟨i0, hi, hz0, hz1, hz2⟩ := info_parts Tryd.info5
  obtain ⟨j0, hj, hy0, hy1, hy2⟩ := info_parts Tryd.info9
  obtain ⟨C, HC⟩ : ∃ C, Hid (Pl.cut s.data.toList [] = C) := ⟨_, rfl⟩
  rw [HC.out]
  go_enter Tryd.func38, Tryd.ntmps38
  go_wp2
  go_loopw [3, 4, 9] (fun u l i wr => ∃ (k : Nat) (ps : List (List UInt8)) (last : List UInt8), k ≤ s.size ∧ i = .int .i64 k ∧ ps.length ≤ k ∧ last.length ≤ 60 ∧ Hid (ps ++ Pl.cut (s.data.toList.drop k) last = C) ∧ OwnS w.heap.size u (ps.map mkB) wr ∧ Own w.heap.size l last wr ∧ Below w.heap.size w wr) (fun _ _ i _ => s.size - (Lib.intOf i).toNat)
  case atStart => exact ⟨0, [], [], Nat.zero_le _, rfl, Nat.le_refl _, by simp, HC.out, OwnS.nil _ _, Own.nil _ _, Below.refl _ _⟩
  case round =>
    obtain ⟨k, ps, last, hk, rfl, hps, hl, hc, howS, how, hb⟩ := hrel
    have hpl : (ps.map mkB).length ≤ 1000 := by rw [List.length_map]; omega
    by_cases hlt : k < s.size
    · have h8 : s[k].toNat < 256 := UInt8.toNat_lt _
      have cC : ∀ w, Calls Tryd.prog 48 #[.int .u8 (s[k].toNat : Int)] w fun e w' => e = .returned (.string (mkB (Pl.codeB s[k]))) ∧ Below w.heap.size w w' := fun w => implCode s[k] w
      have hd := mkHid (drop_at s k hlt)
      have hcl := Pl.codeB_len s[k]
      generalize hsk : s[k] = c at *
      have hsz := mkB_size (Pl.codeB c)
      have hdl : Hid ((mkB (Pl.codeB c)).data.toList = Pl.codeB c) := show _ = _ from by simp [mkB]
      by_cases hex : 60 < last.length + (Pl.codeB c).length
      · have hnext : Hid ((ps ++ [last]) ++ Pl.cut (s.data.toList.drop (k + 1)) (Pl.codeB c) = C) := show _ = _ from by
          rw [← hc.out, hd.out, cut_hit c _ last hex, List.append_assoc]
          rfl
        have hlI : (60 : Int) < (last.length : Int) + ((mkB (Pl.codeB c)).size : Int) := by omega
        generalize mkB (Pl.codeB c) = cb at *
        clear hc hd hex HC
        rcases how.form with ⟨rfl, rfl⟩ | ⟨g, cp, rfl⟩
        · exfalso
          simp at hlI
          omega
        · go_wp2_with fail
          refine (cC _).mono ?_
          rintro e w2 ⟨rfl, hb2⟩
          have how2 := how.keep hb2
          have howS2 := howS.keep (Nat.le_refl _) hb2
          have hB2 := hb.trans (hb2.mono hb.size)
          have hcv := how2.back (P := Tryd.prog) 43 9 Tryd.underlying43 Tryd.underlying5 Tryd.underlying9
          go_wp2_with (first
            | (at_builtin; refine wp_appS (W := w) rfl _ _ 39 rfl j0 Tryd.underlying39 hj hy0 hy1 hy2 w.heap.size u3 _ rfl howS2 (mkB last) rfl (by omega) (Nat.le_refl _) hB2 ?_; intro v3 w3 hown3 hb3)
            | (at_builtin; refine wp_appsF (W := w3) rfl _ _ 43 9 rfl i0 Tryd.underlying43 Tryd.underlying9 hi hz0 hz1 hz2 w.heap.size (.slice none 0 0) [] rfl (Own.nil _ _) cb rfl (by simp; omega) hb3.size (Below.refl _ _) (FrT.refl _ _) ?_; intro v4 w4 hown4 hb4 hf4))
          go_roundw
          case rel =>
            refine ⟨k + 1, ps ++ [last], Pl.codeB c, by omega, by go_num, by simp; omega, by omega, hnext, ?_, ?_, hb3.trans hb4⟩
            · rw [List.map_append]
              exact hown3.frame hf4
            · rw [hdl.out] at hown4
              exact hown4
          case measure => simp [Lib.intOf]; omega
      · have hnext : Hid (ps ++ Pl.cut (s.data.toList.drop (k + 1)) (last ++ Pl.codeB c) = C) := show _ = _ from by
          rw [← hc.out, hd.out, cut_on c _ last hex]
        have hlI : (last.length : Int) + ((mkB (Pl.codeB c)).size : Int) ≤ 60 := by omega
        generalize mkB (Pl.codeB c) = cb at *
        clear hc hd HC
        have hlen : Hid ((last ++ Pl.codeB c).length ≤ 60) := by rw [Hid, List.length_append]; omega
        clear hex
        rcases how.form with ⟨rfl, rfl⟩ | ⟨g, cp, rfl⟩
        · simp only [List.length_nil] at hlI
          go_wp2_with fail
          refine (cC _).mono ?_
          rintro e w2 ⟨rfl, hb2⟩
          have how2 := how.keep hb2
          have howS2 := howS.keep (Nat.le_refl _) hb2
          have hB2 := hb.trans (hb2.mono hb.size)
          go_wp2_with (at_builtin; refine wp_appsF (W := w2) rfl _ _ 43 9 rfl i0 Tryd.underlying43 Tryd.underlying9 hi hz0 hz1 hz2 w.heap.size _ [] rfl how2 cb rfl (by simp; omega) hB2.size (Below.refl _ _) (FrT.refl _ _) ?_; intro v4 w4 hown4 hb4 hf4)
          go_roundw
          case rel =>
            refine ⟨k + 1, ps, [] ++ Pl.codeB c, by omega, by go_num, by omega, hlen.out, hnext, howS2.frame hf4, ?_, hB2.trans hb4⟩
            rw [hdl.out] at hown4
            exact hown4
          case measure => simp [Lib.intOf]; omega
        · go_wp2_with fail
          refine (cC _).mono ?_
          rintro e w2 ⟨rfl, hb2⟩
          have how2 := how.keep hb2
          have howS2 := howS.keep (Nat.le_refl _) hb2
          have hB2 := hb.trans (hb2.mono hb.size)
          go_wp2_with (at_builtin; refine wp_appsF (W := w2) rfl _ _ 43 9 rfl i0 Tryd.underlying43 Tryd.underlying9 hi hz0 hz1 hz2 w.heap.size _ last rfl how2 cb rfl (by omega) hB2.size (Below.refl _ _) (FrT.refl _ _) ?_; intro v4 w4 hown4 hb4 hf4)
          go_roundw
          case rel =>
            refine ⟨k + 1, ps, last ++ Pl.codeB c, by omega, by go_num, by omega, hlen.out, hnext, howS2.frame hf4, ?_, hB2.trans hb4⟩
            rw [hdl.out] at hown4
            exact hown4
          case measure => simp [Lib.intOf]; omega
    · have hend : Hid (ps ++ [last] = C) := show _ = _ from by
        rw [← hc.out, List.drop_eq_nil_of_le (by simp; omega)]
        rfl
      have hcv := how.back (P := Tryd.prog) 43 9 Tryd.underlying43 Tryd.underlying5 Tryd.underlying9
      clear hc HC
      go_wp2_with (at_builtin; refine wp_appS (W := w) rfl _ _ 39 rfl j0 Tryd.underlying39 hj hy0 hy1 hy2 w.heap.size u3 _ rfl howS (mkB last) rfl (by omega) (Nat.le_refl _) hb ?_; intro v3 w3 hown3 hb3)
      go_ret
      refine ⟨_, rfl, ?_, hb3⟩
      rw [← hend.out, List.map_append]
      exact hown3
end Go.Proofs.YtpjpnjbegjiegaaDoor
