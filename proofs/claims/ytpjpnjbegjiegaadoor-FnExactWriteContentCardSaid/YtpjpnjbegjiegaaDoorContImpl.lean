/- ContentFault, the program's side. -/
import Derived.Test.YtpjpnjbegjiegaaDoorContLaw
import Derived.Test.YtpjpnjbegjiegaaDoorStrs
import Derived.Test.YtpjpnjbegjiegaaDoorValid
namespace Go.Proofs.YtpjpnjbegjiegaaDoor
open Go.RowKit Go.Lib
theorem Tryd.info9 : (Tryd.prog.info? 9).map (fun i => (i.zero, i.size, i.bytes)) = some (some (.string ByteArray.empty), 1, 16) := by kernel_rfl
theorem cell_lt' {w : World} {a : Addr} {v : Value} (h : w.cell? a = some v) : a.block < w.heap.size := by
  by_cases hb : a.block < w.heap.size
  · exact hb
  · have e : w.heap[a.block]? = none := Array.getElem?_eq_none (by omega)
    simp [World.cell?, e] at h
/-- The tables of utf-8 stand where they stood. -/
theorem tabs_below {w w' : World} (h : Lib.Utf8Tabs 0 1 w) (hb : Below w.heap.size w w') : Lib.Utf8Tabs 0 1 w' := by
  refine ⟨fun c hc => ?_, fun i hi => ?_⟩
  · have := h.1 c hc
    exact (hb.cell (cell_lt' this)).trans this
  · obtain ⟨h0, h1⟩ := h.2 i hi
    exact ⟨(hb.cell (cell_lt' h0)).trans h0, (hb.cell (cell_lt' h1)).trans h1⟩
namespace Pl
def pval (s : ByteArray) : Bool := decide (s.size ≤ 1000) && validD s.data.toList
/-- The first k parameters are right. -/
def okP (F : List Fd) (k : Nat) : Prop := ∀ i (h : i < F.length), i < k → word F[i].1 = true ∧ pval F[i].2 = true ∧ ∀ j (hj : j < i), F[j].1 ≠ F[i].1
def okC (T S : ByteArray) (F : List Fd) : Prop := word T = true ∧ (S.size = 0 ∨ word S = true) ∧ F.length ≤ 32 ∧ okP F F.length
open Classical in
noncomputable def code (T S : ByteArray) (F : List Fd) : Int := if okC T S F then 0 else 1
theorem code_no {T S : ByteArray} {F : List Fd} (h : ¬ okC T S F) : code T S F = 1 := by unfold code; rw [if_neg h]
theorem code_yes {T S : ByteArray} {F : List Fd} (h : okC T S F) : code T S F = 0 := by unfold code; rw [if_pos h]
theorem okP_next {F : List Fd} {k : Nat} (hk : k < F.length) (h : okP F k) (h1 : word F[k].1 = true) (h2 : pval F[k].2 = true) (h3 : ∀ j (hj : j < k), F[j].1 ≠ F[k].1) : okP F (k + 1) := by
  intro i hi hik
  by_cases e : i < k
  · exact h i hi e
  · obtain rfl : i = k := by omega
    exact ⟨h1, h2, h3⟩
end Pl
set_option maxHeartbeats 400000 in
theorem implParamValue (s : ByteArray) (w : World) (hs : s.size ≤ 1100000) (hT : Lib.Utf8Tabs 0 1 w) :
    Calls Tryd.prog 18 #[.string s] w fun e w' => e = .returned (.bool (Pl.pval s)) ∧ Below w.heap.size w w' := by
  have hV := Tryd.utf8_ValidString s w (by omega) hT
  unfold Pl.pval
  generalize validD s.data.toList = b at hV ⊢
  by_cases h1 : s.size ≤ 1000
  · rw [decide_eq_true h1, Bool.true_and]
    clear hT
    go_enter Tryd.func18, Tryd.ntmps18
    go_wp2_with (go_at_call 28; go_must (refine hV.mono ?_; rintro e w2 ⟨rfl, hb⟩))
    go_ret
    exact ⟨rfl, hb⟩
  · rw [decide_eq_false h1, Bool.false_and]
    clear hV hT
    go_enter Tryd.func18, Tryd.ntmps18
    go_wp2
    go_ret
    exact ⟨rfl, Below.refl _ _⟩
theorem libContains {B : Nat} {v : Value} {ps : List ByteArray} (x : ByteArray) (w : World) (h : OwnS B v ps w) (hl : ps.length ≤ 1000) :
    Calls Tryd.prog 17 #[v, .string x] w fun e w' => e = .returned (.bool (Lib.containsS ps x)) ∧ w' = w := by
  rcases h.form with ⟨rfl, rfl⟩ | ⟨g, cap, rfl, -⟩
  · exact Tryd.slices_Contains_string_empty none 0 x w
  · have := Tryd.slices_Contains_string g 0 ps.length cap ps x w (Nat.le_refl _) (by omega) (fun j hj => by
      rw [Nat.zero_add, h.cell j hj]
      simp [List.getD_eq_getElem?_getD, hj])
    rwa [List.take_length] at this
theorem take_fst (F : List Fd) (k : Nat) (hk : k < F.length) : (F.take (k + 1)).map (·.1) = (F.take k).map (·.1) ++ [F[k].1] := by
  rw [List.take_succ_eq_append_getElem hk, List.map_append]
  rfl
theorem not_in (F : List Fd) (k : Nat) (hk : k < F.length) (x : ByteArray) (h : containsS ((F.take k).map (·.1)) x = false) : ∀ j (hj : j < k), (F[j]'(by omega)).1 ≠ x := by
  intro j hj e
  have : containsS ((F.take k).map (·.1)) x = true := by
    rw [containsS_iff, List.mem_map]
    exact ⟨F[j]'(by omega), List.mem_take_iff_getElem.2 ⟨j, by omega, rfl⟩, e⟩
  rw [h] at this
  cases this
theorem is_in (F : List Fd) (k : Nat) (x : ByteArray) (h : containsS ((F.take k).map (·.1)) x = true) : ∃ (j : Nat) (_ : j < k) (hl : j < F.length), F[j].1 = x := by
  rw [containsS_iff, List.mem_map] at h
  obtain ⟨f, hf, e⟩ := h
  obtain ⟨j, hj, rfl⟩ := List.mem_take_iff_getElem.1 hf
  exact ⟨j, by omega, by omega, e⟩
set_option maxHeartbeats 2000000 in
theorem implFault (T S : ByteArray) (o : Option Addr) (F : List Fd) (cap : Nat) (w : World) (hT : T.size ≤ 1048576) (hS : S.size ≤ 1048576) (hF : Fld w.heap.size w o F) (hlen : F.length ≤ 1048576) (hsz : ∀ f ∈ F, f.1.size ≤ 1048576 ∧ f.2.size ≤ 1048576)
    (hU : Lib.Utf8Tabs 0 1 w) :
    Calls Tryd.prog 8 #[ct T S o F.length cap] w fun e w' => e = .returned (.int .i64 (Pl.code T S F)) ∧ Below w.heap.size w w' := by
  have cT := fun w => implWord T w (by omega)
  have cS := fun w => implWord S w (by omega)
  have hbA : ∀ b, Below w.heap.size w (w.alloc b) := fun b => (Below.refl _ _).alloc (Nat.le_refl _) _
  have HF := mkHid hF
  have Hsz := mkHid hsz
  have HU := mkHid hU
  obtain ⟨R, HR⟩ : ∃ R, Hid (Pl.code T S F = R) := ⟨_, rfl⟩
  rw [HR.out]
  clear hF hsz hU
  cases hwT : Pl.word T
  · rw [← HR.out, Pl.code_no (fun h => by have := h.1; rw [hwT] at this; cases this)]
    simp only [hwT] at cT
    go_enter Tryd.func8, Tryd.ntmps8
    go_wp2_with (go_at_call 16; go_must (refine (cT _).mono ?_; rintro e w2 ⟨rfl, rfl⟩))
    go_ret
    exact ⟨rfl, hbA _⟩
  · simp only [hwT] at cT
    by_cases hbad : ¬ S.size = 0 ∧ Pl.word S = false
    · have hne := isEmpty_ne S hbad.1
      simp only [hbad.2] at cS
      rw [← HR.out, Pl.code_no (fun h => by rcases h.2.1 with e | e; exact hbad.1 e; rw [hbad.2] at e; cases e)]
      go_enter Tryd.func8, Tryd.ntmps8
      go_wp2_with fail
      refine (cT _).mono ?_
      rintro e w2 ⟨rfl, rfl⟩
      go_wp2_with fail
      refine (cS _).mono ?_
      rintro e w2 ⟨rfl, rfl⟩
      go_wp2
      go_ret
      exact ⟨rfl, hbA _⟩
    · have hSok : S.size = 0 ∨ Pl.word S = true := by
        by_cases e : S.size = 0
        · exact .inl e
        · exact .inr (by cases h : Pl.word S; exact absurd ⟨e, h⟩ hbad; rfl)
      clear hbad
      by_cases hmany : 32 < F.length
      · rw [← HR.out, Pl.code_no (fun h => by have := h.2.2.1; omega)]
        rcases hSok with h0 | h0
        · have hE := isEmpty_of S h0
          go_enter Tryd.func8, Tryd.ntmps8
          go_wp2_with (go_at_call 16; go_must (refine (cT _).mono ?_; rintro e w2 ⟨rfl, rfl⟩))
          go_ret
          exact ⟨rfl, hbA _⟩
        · simp only [h0] at cS
          by_cases h1 : S.size = 0
          · have hE := isEmpty_of S h1
            go_enter Tryd.func8, Tryd.ntmps8
            go_wp2_with (go_at_call 16; go_must (refine (cT _).mono ?_; rintro e w2 ⟨rfl, rfl⟩))
            go_ret
            exact ⟨rfl, hbA _⟩
          · have hE := isEmpty_ne S h1
            go_enter Tryd.func8, Tryd.ntmps8
            go_wp2_with fail
            refine (cT _).mono ?_
            rintro e w2 ⟨rfl, rfl⟩
            go_wp2_with fail
            refine (cS _).mono ?_
            rintro e w2 ⟨rfl, rfl⟩
            go_wp2
            go_ret
            exact ⟨rfl, hbA _⟩
      · have hlen32 : F.length ≤ 32 := by omega
        have Hok : Hid (Pl.okP F F.length → R = 0) := fun h => by rw [← HR.out]; exact Pl.code_yes ⟨hwT, hSok, hlen32, h⟩
        have Hno : Hid (¬ Pl.okP F F.length → R = 1) := fun h => by rw [← HR.out]; exact Pl.code_no (fun c => h c.2.2.2)
        clear HR hwT hlen hmany
        have hcase : (S.toList.isEmpty = true) ∨ (S.toList.isEmpty = false ∧ Pl.word S = true) := by
          by_cases h1 : S.size = 0
          · exact .inl (isEmpty_of S h1)
          · exact .inr ⟨isEmpty_ne S h1, by rcases hSok with h | h; exact absurd h h1; exact h⟩
        clear hSok
        obtain ⟨i0, hi, hz0, hz1, hz2⟩ := info_parts Tryd.info9
        rcases hcase with hE | ⟨hE, hwS⟩
        · go_enter Tryd.func8, Tryd.ntmps8
          go_wp2_with (go_at_call 16; go_must (refine (cT _).mono ?_; rintro e w2 ⟨rfl, rfl⟩))
          go_loopw [3, 30] (fun ns i wr => ∃ k : Nat, k ≤ F.length ∧ i = .int .i64 k ∧ Hid (Pl.okP F k) ∧ OwnS (w.heap.size + 1) ns ((F.take k).map (·.1)) wr ∧ Below (w.heap.size + 1) (w.alloc (.cells #[.string T, .string S, .slice o F.length cap] 29)) wr) (fun _ i _ => F.length - (Lib.intOf i).toNat)
          case atStart => exact ⟨0, Nat.zero_le _, rfl, fun i h h0 => absurd h0 (Nat.not_lt_zero _), OwnS.nil _ _, Below.refl _ _⟩
          case round =>
            obtain ⟨k, hk, rfl, hall, hown, hb⟩ := hrel
            have hbw := mkHid ((hbA _).trans (hb.mono (by simp)))
            by_cases hlt : k < F.length
            · obtain ⟨a, rfl, ha, hc0, hc1⟩ := (HF.out.below hbw.out) k hlt
              obtain ⟨hs0, hs1⟩ := Hsz.out F[k] (List.getElem_mem _)
              have Hfst := mkHid (take_fst F k hlt)
              have Hnext := mkHid (Pl.okP_next hlt hall.out)
              have Hnot := mkHid (not_in F k hlt F[k].1)
              have Hin := mkHid (is_in F k F[k].1)
              have Hbad : Hid (Pl.okP F F.length → Pl.word F[k].1 = true ∧ Pl.pval F[k].2 = true ∧ ∀ j (hj : j < k), F[j].1 ≠ F[k].1) := fun h => h k hlt hlt
              have hl : ((F.take k).map (·.1)).length ≤ 1000 := by simp; omega
              generalize F[k] = f at *
              generalize (F.take k).map (·.1) = ps at *
              have cW := fun w => implWord f.1 w (by omega)
              have hbk : ∀ b, Below w.heap.size w (wr.alloc b) := fun b => hbw.out.alloc hbw.out.size _
              have Hbk := mkHid hbk
              have Hown := mkHid hown
              have Hb := mkHid hb
              clear hbk hown hb
              cases hw : Pl.word f.1
              · have hR := mkHid (Hno.out (fun h => by have := (Hbad.out h).1; rw [hw] at this; cases this))
                simp only [hw] at cW
                clear Hno Hok Hbad Hnext Hnot Hin
                go_wp2_with (go_at_call 16; go_must (refine (cW _).mono ?_; rintro e w2 ⟨rfl, rfl⟩))
                go_ret
                exact ⟨by rw [hR.out]; rfl, Hbk.out _⟩
              · simp only [hw] at cW
                have cC := fun b => libContains f.1 _ (Hown.out.alloc b) hl
                cases hc : containsS ps f.1
                · simp only [hc] at cC
                  have cV := fun b => implParamValue f.2 _ (by omega) (tabs_below HU.out (Hbk.out b))
                  cases hv : Pl.pval f.2
                  · have hR := mkHid (Hno.out (fun h => by have := (Hbad.out h).2.1; rw [hv] at this; cases this))
                    simp only [hv] at cV
                    clear Hno Hok Hbad Hnext Hnot Hin
                    go_wp2_with fail
                    refine (cW _).mono ?_
                    rintro e w2 ⟨rfl, rfl⟩
                    go_wp2_with fail
                    refine (cC _).mono ?_
                    rintro e w2 ⟨rfl, rfl⟩
                    go_wp2_with fail
                    refine (cV _).mono ?_
                    rintro e w2 ⟨rfl, hb2⟩
                    go_wp2
                    go_ret
                    exact ⟨by rw [hR.out]; rfl, (Hbk.out _).trans (hb2.mono (Hbk.out _).size)⟩
                  · have hgo := mkHid (Hnext.out hw hv (Hnot.out hc))
                    simp only [hv] at cV
                    clear Hno Hok Hbad Hnext Hnot Hin
                    go_wp2_with fail
                    refine (cW _).mono ?_
                    rintro e w2 ⟨rfl, rfl⟩
                    go_wp2_with fail
                    refine (cC _).mono ?_
                    rintro e w2 ⟨rfl, rfl⟩
                    go_wp2_with fail
                    refine (cV _).mono ?_
                    rintro e w2 ⟨rfl, hb2⟩
                    have p0 := (hb2.cell (p := ⟨wr.heap.size, 0, none⟩) (by simp)).trans (show _ = some (Value.string f.1) by simp)
                    have hown2 := OwnS.keep (show OwnS (w.heap.size + 1) u3 ps _ from Hown.out.alloc _) (Nat.le_refl _) hb2
                    have hB2 : Below (w.heap.size + 1) _ w2 := (Hb.out.alloc (by have := Hb.out.size; simpa using this) _).trans (hb2.mono (by have := Hb.out.size; simp at this ⊢; omega))
                    go_wp2_with (at_builtin; go_must (refine wp_appS (W := w.alloc (.cells #[.string T, .string S, .slice (some a) F.length cap] 29)) rfl _ _ 39 rfl i0 Tryd.underlying39 hi hz0 hz1 hz2 (w.heap.size + 1) u3 ps rfl hown2 f.1 rfl (by omega) (by simp) hB2 ?_; intro v' w' hown' hb'))
                    go_roundw
                    case rel => exact ⟨k + 1, by omega, by go_num, hgo, by rw [Hfst.out]; exact hown', hb'⟩
                    case measure => simp [Lib.intOf]; omega
                · obtain ⟨j, hj, hjl, ej⟩ := Hin.out hc
                  have hR := mkHid (Hno.out (fun h => (Hbad.out h).2.2 j hj ej))
                  simp only [hc] at cC
                  clear Hno Hok Hbad Hnext Hnot Hin
                  go_wp2_with fail
                  refine (cW _).mono ?_
                  rintro e w2 ⟨rfl, rfl⟩
                  go_wp2_with fail
                  refine (cC _).mono ?_
                  rintro e w2 ⟨rfl, rfl⟩
                  go_wp2
                  go_ret
                  exact ⟨by rw [hR.out]; rfl, Hbk.out _⟩
            · obtain rfl : k = F.length := by omega
              have h0 := mkHid (Hok.out hall.out)
              clear Hok Hno hall
              go_wp2
              go_ret
              exact ⟨by rw [h0.out]; rfl, hbw.out⟩
        · simp only [hwS] at cS
          go_enter Tryd.func8, Tryd.ntmps8
          go_wp2_with fail
          refine (cT _).mono ?_
          rintro e w2 ⟨rfl, rfl⟩
          go_wp2_with fail
          refine (cS _).mono ?_
          rintro e w2 ⟨rfl, rfl⟩
          go_wp2
          go_loopw [3, 30] (fun ns i wr => ∃ k : Nat, k ≤ F.length ∧ i = .int .i64 k ∧ Hid (Pl.okP F k) ∧ OwnS (w.heap.size + 1) ns ((F.take k).map (·.1)) wr ∧ Below (w.heap.size + 1) (w.alloc (.cells #[.string T, .string S, .slice o F.length cap] 29)) wr) (fun _ i _ => F.length - (Lib.intOf i).toNat)
          case atStart => exact ⟨0, Nat.zero_le _, rfl, fun i h h0 => absurd h0 (Nat.not_lt_zero _), OwnS.nil _ _, Below.refl _ _⟩
          case round =>
            obtain ⟨k, hk, rfl, hall, hown, hb⟩ := hrel
            have hbw := mkHid ((hbA _).trans (hb.mono (by simp)))
            by_cases hlt : k < F.length
            · obtain ⟨a, rfl, ha, hc0, hc1⟩ := (HF.out.below hbw.out) k hlt
              obtain ⟨hs0, hs1⟩ := Hsz.out F[k] (List.getElem_mem _)
              have Hfst := mkHid (take_fst F k hlt)
              have Hnext := mkHid (Pl.okP_next hlt hall.out)
              have Hnot := mkHid (not_in F k hlt F[k].1)
              have Hin := mkHid (is_in F k F[k].1)
              have Hbad : Hid (Pl.okP F F.length → Pl.word F[k].1 = true ∧ Pl.pval F[k].2 = true ∧ ∀ j (hj : j < k), F[j].1 ≠ F[k].1) := fun h => h k hlt hlt
              have hl : ((F.take k).map (·.1)).length ≤ 1000 := by simp; omega
              generalize F[k] = f at *
              generalize (F.take k).map (·.1) = ps at *
              have cW := fun w => implWord f.1 w (by omega)
              have hbk : ∀ b, Below w.heap.size w (wr.alloc b) := fun b => hbw.out.alloc hbw.out.size _
              have Hbk := mkHid hbk
              have Hown := mkHid hown
              have Hb := mkHid hb
              clear hbk hown hb
              cases hw : Pl.word f.1
              · have hR := mkHid (Hno.out (fun h => by have := (Hbad.out h).1; rw [hw] at this; cases this))
                simp only [hw] at cW
                clear Hno Hok Hbad Hnext Hnot Hin
                go_wp2_with (go_at_call 16; go_must (refine (cW _).mono ?_; rintro e w2 ⟨rfl, rfl⟩))
                go_ret
                exact ⟨by rw [hR.out]; rfl, Hbk.out _⟩
              · simp only [hw] at cW
                have cC := fun b => libContains f.1 _ (Hown.out.alloc b) hl
                cases hc : containsS ps f.1
                · simp only [hc] at cC
                  have cV := fun b => implParamValue f.2 _ (by omega) (tabs_below HU.out (Hbk.out b))
                  cases hv : Pl.pval f.2
                  · have hR := mkHid (Hno.out (fun h => by have := (Hbad.out h).2.1; rw [hv] at this; cases this))
                    simp only [hv] at cV
                    clear Hno Hok Hbad Hnext Hnot Hin
                    go_wp2_with fail
                    refine (cW _).mono ?_
                    rintro e w2 ⟨rfl, rfl⟩
                    go_wp2_with fail
                    refine (cC _).mono ?_
                    rintro e w2 ⟨rfl, rfl⟩
                    go_wp2_with fail
                    refine (cV _).mono ?_
                    rintro e w2 ⟨rfl, hb2⟩
                    go_wp2
                    go_ret
                    exact ⟨by rw [hR.out]; rfl, (Hbk.out _).trans (hb2.mono (Hbk.out _).size)⟩
                  · have hgo := mkHid (Hnext.out hw hv (Hnot.out hc))
                    simp only [hv] at cV
                    clear Hno Hok Hbad Hnext Hnot Hin
                    go_wp2_with fail
                    refine (cW _).mono ?_
                    rintro e w2 ⟨rfl, rfl⟩
                    go_wp2_with fail
                    refine (cC _).mono ?_
                    rintro e w2 ⟨rfl, rfl⟩
                    go_wp2_with fail
                    refine (cV _).mono ?_
                    rintro e w2 ⟨rfl, hb2⟩
                    have p0 := (hb2.cell (p := ⟨wr.heap.size, 0, none⟩) (by simp)).trans (show _ = some (Value.string f.1) by simp)
                    have hown2 := OwnS.keep (show OwnS (w.heap.size + 1) u3 ps _ from Hown.out.alloc _) (Nat.le_refl _) hb2
                    have hB2 : Below (w.heap.size + 1) _ w2 := (Hb.out.alloc (by have := Hb.out.size; simpa using this) _).trans (hb2.mono (by have := Hb.out.size; simp at this ⊢; omega))
                    go_wp2_with (at_builtin; go_must (refine wp_appS (W := w.alloc (.cells #[.string T, .string S, .slice (some a) F.length cap] 29)) rfl _ _ 39 rfl i0 Tryd.underlying39 hi hz0 hz1 hz2 (w.heap.size + 1) u3 ps rfl hown2 f.1 rfl (by omega) (by simp) hB2 ?_; intro v' w' hown' hb'))
                    go_roundw
                    case rel => exact ⟨k + 1, by omega, by go_num, hgo, by rw [Hfst.out]; exact hown', hb'⟩
                    case measure => simp [Lib.intOf]; omega
                · obtain ⟨j, hj, hjl, ej⟩ := Hin.out hc
                  have hR := mkHid (Hno.out (fun h => (Hbad.out h).2.2 j hj ej))
                  simp only [hc] at cC
                  clear Hno Hok Hbad Hnext Hnot Hin
                  go_wp2_with fail
                  refine (cW _).mono ?_
                  rintro e w2 ⟨rfl, rfl⟩
                  go_wp2_with fail
                  refine (cC _).mono ?_
                  rintro e w2 ⟨rfl, rfl⟩
                  go_wp2
                  go_ret
                  exact ⟨by rw [hR.out]; rfl, Hbk.out _⟩
            · obtain rfl : k = F.length := by omega
              have h0 := mkHid (Hok.out hall.out)
              clear Hok Hno hall
              go_wp2
              go_ret
              exact ⟨by rw [h0.out]; rfl, hbw.out⟩
end Go.Proofs.YtpjpnjbegjiegaaDoor
