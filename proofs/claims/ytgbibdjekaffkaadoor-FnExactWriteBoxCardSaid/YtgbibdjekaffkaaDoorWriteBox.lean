/- The walks of the two WriteBox. -/
import Derived.Test.YtgbibdjekaffkaaDoorBox
namespace Go.Proofs.YtgbibdjekaffkaaDoor
open Go.RowKit Go.Lib
theorem addrOk_clean (n l d : ByteArray) (h : addrOk n l d = true) : n.data.toList.all Pl.tb = true := by
  simp only [addrOk, Bool.and_eq_true] at h
  exact h.2.2.2.2.1
theorem qs_len : ∀ l : List UInt8, (Pl.qs l).length ≤ 2 * l.length
  | [] => by simp [Pl.qs]
  | c :: r => by
    have := qs_len r
    rw [Pl.qs]
    split <;> simp <;> omega
def quo (l : ByteArray) : ByteArray := ⟨(34 :: Pl.qs l.data.toList ++ [34]).toArray⟩
theorem quo_size (l : ByteArray) : (quo l).size ≤ 2 * l.size + 2 := by
  have := qs_len l.data.toList
  show (34 :: Pl.qs l.data.toList ++ [34]).toArray.size ≤ _
  simp at this ⊢
  exact this
def phr (l : ByteArray) : ByteArray := ⟨(Pl.phrase l.data.toList).toArray⟩
theorem phr_size (l : ByteArray) : (phr l).size ≤ 2 * l.size + 2 := by
  have := qs_len l.data.toList
  show (Pl.phrase l.data.toList).toArray.size ≤ _
  unfold Pl.phrase
  split
  · split
    · simp; omega
    · simp at this ⊢; exact this
  · simp
def addrT (l d : ByteArray) : ByteArray := (if Pl.scan 46 false l.data.toList then l else quo l) ++ ⟨#[64]⟩ ++ d
def boxT (n l d : ByteArray) : ByteArray := if addrOk n l d then (if n.size = 0 then addrT l d else phr n ++ ⟨#[32, 60]⟩ ++ addrT l d ++ ⟨#[62]⟩) else ⟨#[]⟩
set_option maxHeartbeats 2000000 in
theorem implBox (n l d : ByteArray) (m : Int) (w : World) (hn : n.size ≤ 1100000) (hl : l.size ≤ 1100000) (hd : d.size ≤ 1100000) (hm : w.cell? ⟨0, 0, none⟩ = some (.int .i64 m)) :
    Calls Tryd.prog 17 #[box3 n l d] w fun e w' => e = .returned (.string (boxT n l d)) ∧ Below w.heap.size w w' := by
  have hA := implAddress n l d m (w.alloc (bx n l d)) hn hl hd (cell_alloc _ hm)
  have hbA : Below w.heap.size w (w.alloc (bx n l d)) := (Below.refl _ _).alloc (Nat.le_refl _) _
  have hlt := bcell_lt hm
  have Hm : Hid (∀ w2, Below (w.alloc (bx n l d)).heap.size (w.alloc (bx n l d)) w2 → w2.cell? ⟨0, 0, none⟩ = some (.int .i64 m)) := show ∀ w2, _ from by
    intro w2 hb
    exact (hb.cell (p := ⟨0, 0, none⟩) (Nat.lt_of_lt_of_le hlt hbA.size)).trans (cell_alloc _ hm)
  clear hm hlt
  cases hok : addrOk n l d
  · rw [boxT, hok]
    rw [hok] at hA
    go_enter Tryd.func17, Tryd.ntmps17
    go_wp2_with (go_at_call 15; go_must (refine hA.mono ?_; rintro e w2 ⟨rfl, hb2⟩; simp only [dcode]))
    go_ret
    exact ⟨rfl, hbA.trans (hb2.mono hbA.size)⟩
  · obtain ⟨s0, s1, s2⟩ := addrOk_sizes n l d hok
    rw [boxT, hok, if_pos rfl, addrT]
    rw [hok] at hA
    have HT := (show Hid _ from fun (w : World) hm => implAreAtoms 46 Pl.atom_point l m w (by omega) hm)
    have HQ := (show Hid (∀ w, Calls Tryd.prog 28 #[.string l] w fun e w' => e = .returned (.string (quo l)) ∧ Below w.heap.size w w') from fun (w : World) => implQuotes l w (by omega))
    have HP := (show Hid (∀ w, w.cell? ⟨0, 0, none⟩ = some (.int .i64 m) → Calls Tryd.prog 9 #[.string n] w fun e w' => e = .returned (.string (phr n)) ∧ Below w.heap.size w w') from fun (w : World) hm => implPhrase n m w (by omega) hm)
    have zq := quo_size l
    have zp := phr_size n
    have Hb := (show Hid _ from box_cells n l d w)
    generalize quo l = ql at *
    generalize phr n = pn at *
    clear hok hn hl hd
    cases hat : Pl.scan 46 false l.data.toList <;> simp only [hat] at HT
    · simp only [Bool.false_eq_true, if_false]
      clear hat
      by_cases h0 : n.size = 0
      · have hE := isEmpty_of n h0
        rw [if_pos h0]
        go_enter Tryd.func17, Tryd.ntmps17
        go_wp2_with fail
        refine hA.mono ?_
        rintro e w2 ⟨rfl, hb2⟩
        simp only [dcode]
        obtain ⟨c0, c1, c2⟩ := Hb.out _ hb2
        go_wp2_with fail
        refine (HT.out _ (Hm.out _ hb2)).mono ?_
        rintro e w3 ⟨rfl, hb3⟩
        clear c0 c1 c2
        go_wp2_with fail
        refine (HQ.out _).mono ?_
        rintro e w4 ⟨rfl, hb4⟩
        have b4 := hb2.trans ((hb3.trans (hb4.mono hb3.size)).mono hb2.size)
        obtain ⟨c0, c1, c2⟩ := Hb.out _ b4
        go_wp2
        go_ret
        exact ⟨rfl, hbA.trans (b4.mono hbA.size)⟩
      · have hE := isEmpty_ne n h0
        rw [if_neg h0]
        go_enter Tryd.func17, Tryd.ntmps17
        go_wp2_with fail
        refine hA.mono ?_
        rintro e w2 ⟨rfl, hb2⟩
        simp only [dcode]
        obtain ⟨c0, c1, c2⟩ := Hb.out _ hb2
        go_wp2_with fail
        refine (HT.out _ (Hm.out _ hb2)).mono ?_
        rintro e w3 ⟨rfl, hb3⟩
        clear c0 c1 c2
        go_wp2_with fail
        refine (HQ.out _).mono ?_
        rintro e w4 ⟨rfl, hb4⟩
        have b4 := hb2.trans ((hb3.trans (hb4.mono hb3.size)).mono hb2.size)
        obtain ⟨c0, c1, c2⟩ := Hb.out _ b4
        go_wp2_with fail
        refine (HP.out _ (Hm.out _ b4)).mono ?_
        rintro e w5 ⟨rfl, hb5⟩
        go_wp2
        go_ret
        exact ⟨rfl, hbA.trans ((b4.trans (hb5.mono b4.size)).mono hbA.size)⟩
    · simp only [if_true]
      clear hat
      by_cases h0 : n.size = 0
      · have hE := isEmpty_of n h0
        rw [if_pos h0]
        go_enter Tryd.func17, Tryd.ntmps17
        go_wp2_with fail
        refine hA.mono ?_
        rintro e w2 ⟨rfl, hb2⟩
        simp only [dcode]
        obtain ⟨c0, c1, c2⟩ := Hb.out _ hb2
        go_wp2_with fail
        refine (HT.out _ (Hm.out _ hb2)).mono ?_
        rintro e w3 ⟨rfl, hb3⟩
        have b4 := hb2.trans (hb3.mono hb2.size)
        clear c0 c1 c2
        obtain ⟨c0, c1, c2⟩ := Hb.out _ b4
        go_wp2
        go_ret
        exact ⟨rfl, hbA.trans (b4.mono hbA.size)⟩
      · have hE := isEmpty_ne n h0
        rw [if_neg h0]
        go_enter Tryd.func17, Tryd.ntmps17
        go_wp2_with fail
        refine hA.mono ?_
        rintro e w2 ⟨rfl, hb2⟩
        simp only [dcode]
        obtain ⟨c0, c1, c2⟩ := Hb.out _ hb2
        go_wp2_with fail
        refine (HT.out _ (Hm.out _ hb2)).mono ?_
        rintro e w3 ⟨rfl, hb3⟩
        have b4 := hb2.trans (hb3.mono hb2.size)
        clear c0 c1 c2
        obtain ⟨c0, c1, c2⟩ := Hb.out _ b4
        go_wp2_with fail
        refine (HP.out _ (Hm.out _ b4)).mono ?_
        rintro e w5 ⟨rfl, hb5⟩
        go_wp2
        go_ret
        exact ⟨rfl, hbA.trans ((b4.trans (hb5.mono b4.size)).mono hbA.size)⟩
set_option maxHeartbeats 2000000 in
theorem specBox (n l d : ByteArray) (w : World) (hn : n.size ≤ 1100000) (hl : l.size ≤ 1100000) (hd : d.size ≤ 1100000) :
    Calls Tryd.prog 16 #[box3 n l d] w fun e w' => e = .returned (.string (boxT n l d)) ∧ Below w.heap.size w w' := by
  have hA := specAddress n l d (w.alloc (bx n l d)) hn hl hd
  have hbA : Below w.heap.size w (w.alloc (bx n l d)) := (Below.refl _ _).alloc (Nat.le_refl _) _
  cases hok : addrOk n l d
  · rw [boxT, hok]
    rw [hok] at hA
    go_enter Tryd.func16, Tryd.ntmps16
    go_wp2_with (go_at_call 13; go_must (refine hA.mono ?_; rintro e w2 ⟨rfl, hb2⟩; simp only [dcode]))
    go_ret
    exact ⟨rfl, hbA.trans (hb2.mono hbA.size)⟩
  · obtain ⟨s0, s1, s2⟩ := addrOk_sizes n l d hok
    rw [boxT, hok, if_pos rfl, addrT]
    rw [hok] at hA
    have HT := (show Hid _ from fun (w : World) => specAtoms 46 46 rfl l w (by omega))
    have HQ := (show Hid (∀ w, Calls Tryd.prog 22 #[.string l] w fun e w' => e = .returned (.string (quo l)) ∧ Below w.heap.size w w') from fun (w : World) => specQuote l w (by omega))
    have HP := (show Hid (∀ w, Calls Tryd.prog 8 #[.string n] w fun e w' => e = .returned (.string (phr n)) ∧ Below w.heap.size w w') from fun (w : World) => specPhrase n w (by omega))
    have zq := quo_size l
    have zp := phr_size n
    have Hb := (show Hid _ from box_cells n l d w)
    generalize quo l = ql at *
    generalize phr n = pn at *
    clear hok hn hl hd
    cases hat : Pl.scan 46 false l.data.toList <;> simp only [hat] at HT
    · simp only [Bool.false_eq_true, if_false]
      clear hat
      by_cases h0 : n.size = 0
      · have hE := isEmpty_of n h0
        rw [if_pos h0]
        go_enter Tryd.func16, Tryd.ntmps16
        go_wp2_with fail
        refine hA.mono ?_
        rintro e w2 ⟨rfl, hb2⟩
        simp only [dcode]
        obtain ⟨c0, c1, c2⟩ := Hb.out _ hb2
        go_wp2_with fail
        refine (HT.out _).mono ?_
        rintro e w3 ⟨rfl, hb3⟩
        clear c0 c1 c2
        go_wp2_with fail
        refine (HQ.out _).mono ?_
        rintro e w4 ⟨rfl, hb4⟩
        have b4 := hb2.trans ((hb3.trans (hb4.mono hb3.size)).mono hb2.size)
        obtain ⟨c0, c1, c2⟩ := Hb.out _ b4
        go_wp2
        go_ret
        exact ⟨rfl, hbA.trans (b4.mono hbA.size)⟩
      · have hE := isEmpty_ne n h0
        rw [if_neg h0]
        go_enter Tryd.func16, Tryd.ntmps16
        go_wp2_with fail
        refine hA.mono ?_
        rintro e w2 ⟨rfl, hb2⟩
        simp only [dcode]
        obtain ⟨c0, c1, c2⟩ := Hb.out _ hb2
        go_wp2_with fail
        refine (HT.out _).mono ?_
        rintro e w3 ⟨rfl, hb3⟩
        clear c0 c1 c2
        go_wp2_with fail
        refine (HQ.out _).mono ?_
        rintro e w4 ⟨rfl, hb4⟩
        have b4 := hb2.trans ((hb3.trans (hb4.mono hb3.size)).mono hb2.size)
        obtain ⟨c0, c1, c2⟩ := Hb.out _ b4
        have Hc := (show Hid (∀ w9, Below w4.heap.size w4 w9 → w9.cell? ⟨w.heap.size, 2, none⟩ = some (.string d)) from fun w9 h => (Hb.out _ (b4.trans (h.mono b4.size))).2.2)
        go_wp2
        go_region_with (go_at_call 8; (refine (HP.out _).mono ?_; rintro e w5 ⟨rfl, hb5⟩; have c5 := Hc.out w5 (((Below.refl w4.heap.size w4).drew).trans hb5)))
        all_goals
          go_wp2
          go_ret
          refine ⟨?_, hbA.trans ((b4.trans ((((Below.refl w4.heap.size w4).drew).trans hb5).mono b4.size)).mono hbA.size)⟩
          simp only [ByteArray.append_assoc]
          rfl
    · simp only [if_true]
      clear hat
      by_cases h0 : n.size = 0
      · have hE := isEmpty_of n h0
        rw [if_pos h0]
        go_enter Tryd.func16, Tryd.ntmps16
        go_wp2_with fail
        refine hA.mono ?_
        rintro e w2 ⟨rfl, hb2⟩
        simp only [dcode]
        obtain ⟨c0, c1, c2⟩ := Hb.out _ hb2
        go_wp2_with fail
        refine (HT.out _).mono ?_
        rintro e w3 ⟨rfl, hb3⟩
        have b4 := hb2.trans (hb3.mono hb2.size)
        clear c0 c1 c2
        obtain ⟨c0, c1, c2⟩ := Hb.out _ b4
        go_wp2
        go_ret
        exact ⟨rfl, hbA.trans (b4.mono hbA.size)⟩
      · have hE := isEmpty_ne n h0
        rw [if_neg h0]
        go_enter Tryd.func16, Tryd.ntmps16
        go_wp2_with fail
        refine hA.mono ?_
        rintro e w2 ⟨rfl, hb2⟩
        simp only [dcode]
        obtain ⟨c0, c1, c2⟩ := Hb.out _ hb2
        go_wp2_with fail
        refine (HT.out _).mono ?_
        rintro e w3 ⟨rfl, hb3⟩
        have b4 := hb2.trans (hb3.mono hb2.size)
        clear c0 c1 c2
        obtain ⟨c0, c1, c2⟩ := Hb.out _ b4
        have Hc := (show Hid (∀ w9, Below w3.heap.size w3 w9 → w9.cell? ⟨w.heap.size, 2, none⟩ = some (.string d)) from fun w9 h => (Hb.out _ (b4.trans (h.mono b4.size))).2.2)
        go_wp2
        go_region_with (go_at_call 8; (refine (HP.out _).mono ?_; rintro e w5 ⟨rfl, hb5⟩; have c5 := Hc.out w5 (((Below.refl w3.heap.size w3).drew).trans hb5)))
        all_goals
          go_wp2
          go_ret
          refine ⟨?_, hbA.trans ((b4.trans ((((Below.refl w3.heap.size w3).drew).trans hb5).mono b4.size)).mono hbA.size)⟩
          simp only [ByteArray.append_assoc]
          rfl
end Go.Proofs.YtgbibdjekaffkaaDoor
