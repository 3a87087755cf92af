/- UnQuoted, the specification's helpers; the steps of its second pass. -/
import Derived.Test.YtkchnlfedkfpjaaDoorUnQImpl
namespace Go.Proofs.YtkchnlfedkfpjaaDoor
open Go.RowKit Go.Lib
set_option maxHeartbeats 400000 in
theorem specBlank (c : UInt8) (w : World) : Calls Tryd.prog 8 #[.int .u8 (c.toNat : Int)] w fun e w' => e = .returned (.bool (Pl.bl c)) ∧ w = w' := by
  have h8 : c.toNat < 256 := UInt8.toNat_lt _
  by_cases h1 : c = 32
  · subst h1
    go_enter Tryd.func8, Tryd.ntmps8
    go_wp2
    go_ret
    exact ⟨congrArg (fun b => Ending.returned (.bool b)) (by first | rfl | (simp; done) | (simp; omega)), rfl⟩
  · by_cases h2 : c = 9
    · subst h2
      go_enter Tryd.func8, Tryd.ntmps8
      go_wp2
      go_ret
      exact ⟨congrArg (fun b => Ending.returned (.bool b)) (by first | rfl | (simp; done) | (simp; omega)), rfl⟩
    · have hb : Pl.bl c = false := by simp [Pl.bl, h1, h2]
      have g1 : ¬ (c.toNat : Int) = 32 := fun h => h1 (UInt8.toNat_inj.1 (by simpa using (by omega : c.toNat = 32)))
      have g2 : ¬ (c.toNat : Int) = 9 := fun h => h2 (UInt8.toNat_inj.1 (by simpa using (by omega : c.toNat = 9)))
      rw [hb]
      go_enter Tryd.func8, Tryd.ntmps8
      go_wp2
      go_ret
      exact ⟨congrArg (fun b => Ending.returned (.bool b)) (by first | rfl | (simp; done) | (simp; omega)), rfl⟩
theorem at13 (s : ByteArray) (k : Nat) (h : k < s.size) : (s[k].toNat : Int) = 13 ↔ s[k] = 13 := by
  constructor
  · intro e
    exact UInt8.toNat_inj.1 (by simpa using (by omega : s[k].toNat = 13))
  · intro e
    rw [e]; rfl
theorem at10 (s : ByteArray) (k : Nat) (h : k < s.size) : (s[k].toNat : Int) = 10 ↔ s[k] = 10 := by
  constructor
  · intro e
    exact UInt8.toNat_inj.1 (by simpa using (by omega : s[k].toNat = 10))
  · intro e
    rw [e]; rfl
theorem crlf_bytes (s : ByteArray) (k : Nat) (h : k + 1 < s.size) : Pl.crlf s.data.toList k = (s[k]'(by omega) == 13 && s[k + 1] == 10) := by
  rw [Bool.eq_iff_iff, Pl.crlf_iff]
  constructor
  · rintro ⟨h1, h2, h3⟩
    rw [Pl.at_list s k (by omega)] at h2
    rw [Pl.at_list s (k + 1) h] at h3
    simp [h2, h3]
  · intro e
    simp only [Bool.and_eq_true, beq_iff_eq] at e
    refine ⟨by rw [Pl.len_list]; exact h, ?_, ?_⟩
    · rw [Pl.at_list s k (by omega)]; exact e.1
    · rw [Pl.at_list s (k + 1) h]; exact e.2
set_option maxHeartbeats 1000000 in
theorem specEndAt (s : ByteArray) (k : Nat) (hk : k ≤ 2000000) (hs : s.size ≤ 1100000) (w : World) : Calls Tryd.prog 7 #[.string s, .int .i64 k] w fun e w' => e = .returned (.bool (decide (s.size ≤ k) || Pl.crlf s.data.toList k)) ∧ w' = w := by
  by_cases h1 : s.size ≤ k
  · rw [decide_eq_true h1, Bool.true_or]
    go_enter Tryd.func7, Tryd.ntmps7
    go_wp2
    go_ret
    exact ⟨congrArg (fun b => Ending.returned (.bool b)) (by first | rfl | (simp; done) | (simp; omega)), rfl⟩
  · rw [decide_eq_false h1, Bool.false_or]
    by_cases h2 : k + 1 < s.size
    · rw [crlf_bytes s k h2]
      have e13 := at13 s k (by omega)
      have e10 := at10 s (k + 1) h2
      by_cases h3 : s[k]'(by omega) = 13
      · have g3 := e13.2 h3
        by_cases h4 : s[k + 1] = 10
        · have g4 := e10.2 h4
          rw [h3, h4]
          clear e13 e10 h3 h4
          go_enter Tryd.func7, Tryd.ntmps7
          go_wp2
          go_ret
          exact ⟨congrArg (fun b => Ending.returned (.bool b)) (by first | rfl | (simp; done) | (simp; omega)), rfl⟩
        · have g4 : ¬ ((s[k + 1].toNat : Int) = 10) := fun e => h4 (e10.1 e)
          rw [h3, show (s[k + 1] == 10) = false by simpa using h4]
          clear e13 e10 h3 h4
          go_enter Tryd.func7, Tryd.ntmps7
          go_wp2
          go_ret
          exact ⟨congrArg (fun b => Ending.returned (.bool b)) (by first | rfl | (simp; done) | (simp; omega)), rfl⟩
      · have g3 : ¬ (((s[k]'(by omega)).toNat : Int) = 13) := fun e => h3 (e13.1 e)
        rw [show (s[k]'(by omega) == 13) = false by simpa using h3, Bool.false_and]
        clear e13 e10 h3
        go_enter Tryd.func7, Tryd.ntmps7
        go_wp2
        go_ret
        exact ⟨congrArg (fun b => Ending.returned (.bool b)) (by first | rfl | (simp; done) | (simp; omega)), rfl⟩
    · rw [Pl.crlf_short _ _ (by rw [Pl.len_list]; omega)]
      have h8 : (s[k]'(by omega)).toNat < 256 := UInt8.toNat_lt _
      by_cases h3 : ((s[k]'(by omega)).toNat : Int) = 13
      · go_enter Tryd.func7, Tryd.ntmps7
        go_wp2
        go_ret
        exact ⟨congrArg (fun b => Ending.returned (.bool b)) (by first | rfl | (simp; done) | (simp; omega)), rfl⟩
      · go_enter Tryd.func7, Tryd.ntmps7
        go_wp2
        go_ret
        exact ⟨congrArg (fun b => Ending.returned (.bool b)) (by first | rfl | (simp; done) | (simp; omega)), rfl⟩
theorem Own.flat {B : Nat} {v : Value} {p : List UInt8} {w : World} (h : Own B v p w) : ∃ o cap, v = .slice o p.length cap := by
  rcases h.form with ⟨rfl, rfl⟩ | ⟨g, cap, rfl⟩
  · exact ⟨none, 0, rfl⟩
  · exact ⟨_, cap, rfl⟩
theorem Own.cut {B g n cap : Nat} {p : List UInt8} {w : World} (h : Own B (.slice (some ⟨g, 0, none⟩) n cap) p w) (k : Nat) (hk : k ≤ p.length) : Own B (.slice (some ⟨g, 0, none⟩) k cap) (p.take k) w := by
  obtain ⟨h1, h2⟩ := h
  have hl : (p.take k).length = k := by rw [List.length_take]; omega
  refine ⟨by rw [byteCells_length, Nat.mul_one], .inr ?_⟩
  rcases h2 with ⟨h2, -⟩ | ⟨g', cap', cur, e1, e2, e3, e4, e5, e6, e7⟩
  · cases h2
  · have e8 := e1
    cases e8
    refine ⟨g, cap, cur, by rw [hl], e2, e3, by omega, e5, e6, ?_⟩
    rw [hl, Nat.mul_one]
    have e9 : cur.toList.take p.length = byteCells p := by rw [← e7, Nat.mul_one]
    have e10 := congrArg (List.take k) e9
    rw [List.take_take, Nat.min_eq_left hk] at e10
    rw [e10]
    simp [byteCells, List.map_take]
theorem Own.caps {B g n cap : Nat} {p : List UInt8} {w : World} (h : Own B (.slice (some ⟨g, 0, none⟩) n cap) p w) : cap ≤ 9223372036854775807 ∧ n ≤ cap := by
  rcases h.2 with ⟨h2, -⟩ | ⟨g', cap', cur, e1, e2, e3, e4, e5, e6, e7⟩
  · cases h2
  · cases e1
    unfold maxLen at e5
    exact ⟨by omega, by omega⟩
theorem tk_step_yes {q : List UInt8} {k : Nat} (h : Pl.bl (q.getD k 0) = true) : Pl.tk q (k + 1) = Pl.tk q k := by rw [Pl.tk, if_pos h]
theorem tk_step_no {q : List UInt8} {k : Nat} (h : Pl.bl (q.getD k 0) = false) : Pl.tk q (k + 1) = k + 1 := by rw [Pl.tk, if_neg (by rw [h]; simp)]
namespace Pl
def hexI (c : UInt8) : Int := match hexV c with | some d => (d : Int) | none => -1
theorem hexI_some {c : UInt8} {d : Nat} (h : hexV c = some d) : hexI c = d := by unfold hexI; rw [h]
theorem hexI_none {c : UInt8} (h : hexV c = none) : hexI c = -1 := by unfold hexI; rw [h]
theorem soft_iff (l : List UInt8) (i : Nat) : (l.drop (i + 1) = [] ∨ crlf (l.drop (i + 1)) 0 = true) ↔ (l.length ≤ i + 1 ∨ crlf l (i + 1) = true) := by
  rw [crlf_drop, List.drop_eq_nil_iff]
theorem p2_plain {q l : List UInt8} {X : Option (List UInt8)} {i : Nat} (hi : i < l.length) (hc : l[i] ≠ 61) (h : p2 q (l.drop i) = X) : p2 (q ++ [l[i]]) (l.drop (i + 1)) = X := by
  rw [List.drop_eq_getElem_cons hi, p2, if_neg hc] at h
  exact h
theorem p2_soft {q l : List UInt8} {X : Option (List UInt8)} {i : Nat} (hi : i < l.length) (hc : l[i] = 61) (hs : l.length ≤ i + 1 ∨ crlf l (i + 1) = true) (h : p2 q (l.drop i) = X) : p2 q (l.drop (i + 3)) = X := by
  rw [List.drop_eq_getElem_cons hi, p2, if_pos hc, if_pos ((soft_iff l i).2 hs), List.drop_drop] at h
  exact h
theorem p2_hex {q l : List UInt8} {X : Option (List UInt8)} {i n : Nat} (hi : i < l.length) (hc : l[i] = 61) (hs : ¬ (l.length ≤ i + 1 ∨ crlf l (i + 1) = true)) (hx : hex2 (l.drop (i + 1)) = some n) (h : p2 q (l.drop i) = X) : p2 (q ++ [UInt8.ofNat n]) (l.drop (i + 3)) = X := by
  rw [List.drop_eq_getElem_cons hi, p2, if_pos hc, if_neg (fun h1 => hs ((soft_iff l i).1 h1)), hx, List.drop_drop] at h
  exact h
theorem p2_bad {q l : List UInt8} {X : Option (List UInt8)} {i : Nat} (hi : i < l.length) (hc : l[i] = 61) (hs : ¬ (l.length ≤ i + 1 ∨ crlf l (i + 1) = true)) (hx : hex2 (l.drop (i + 1)) = none) (h : p2 q (l.drop i) = X) : X = none := by
  rw [List.drop_eq_getElem_cons hi, p2, if_pos hc, if_neg (fun h1 => hs ((soft_iff l i).1 h1)), hx] at h
  exact h.symm
theorem p2_done {q l : List UInt8} {X : Option (List UInt8)} {i : Nat} (hi : l.length ≤ i) (h : p2 q (l.drop i) = X) : X = some q := by
  rw [List.drop_eq_nil_of_le hi, p2] at h
  exact h.symm
theorem hex2_at (l : List UInt8) (i : Nat) (h : i + 2 < l.length) : hex2 (l.drop (i + 1)) = match hexV l[i + 1], hexV l[i + 2] with | some d, some e => some (d * 16 + e) | _, _ => none := by
  rw [List.drop_eq_getElem_cons (by omega), List.drop_eq_getElem_cons (by omega)]
  show hexNum [l[i + 1], l[i + 2]] 0 = _
  simp only [hexNum]
  cases hexV l[i + 1] <;> cases hexV l[i + 2] <;> simp
end Pl
set_option maxHeartbeats 1000000 in
theorem specHex (c : UInt8) (w : World) : Calls Tryd.prog 9 #[.int .u8 (c.toNat : Int)] w fun e w' => e = .returned (.int .i64 (Pl.hexI c)) ∧ w' = w := by
  have h8 : c.toNat < 256 := UInt8.toNat_lt _
  unfold Pl.hexI Pl.hexV
  by_cases h1 : 48 ≤ c.toNat ∧ c.toNat ≤ 57
  · rw [if_pos h1]
    obtain ⟨h1, h2⟩ := h1
    go_enter Tryd.func9, Tryd.ntmps9
    go_wp2
    go_ret
    exact ⟨congrArg (fun b => Ending.returned (.int .i64 b)) (by omega), rfl⟩
  · rw [if_neg h1]
    have h1' : c.toNat < 48 ∨ 57 < c.toNat := by omega
    by_cases h2 : 65 ≤ c.toNat ∧ c.toNat ≤ 70
    · rw [if_pos h2]
      obtain ⟨h2, h3⟩ := h2
      go_enter Tryd.func9, Tryd.ntmps9
      go_wp2
      go_ret
      exact ⟨congrArg (fun b => Ending.returned (.int .i64 b)) (by omega), rfl⟩
    · rw [if_neg h2]
      by_cases h3 : 97 ≤ c.toNat ∧ c.toNat ≤ 102
      · rw [if_pos h3]
        obtain ⟨h3, h4⟩ := h3
        go_enter Tryd.func9, Tryd.ntmps9
        go_wp2
        go_ret
        exact ⟨congrArg (fun b => Ending.returned (.int .i64 b)) (by omega), rfl⟩
      · rw [if_neg h3]
        have hz : c.toNat < 48 ∨ (57 < c.toNat ∧ c.toNat < 65) ∨ (70 < c.toNat ∧ c.toNat < 97) ∨ 102 < c.toNat := by omega
        clear h1 h1' h2 h3
        rcases hz with h1 | ⟨h1, h2⟩ | ⟨h1, h2⟩ | h1
        all_goals
          go_enter Tryd.func9, Tryd.ntmps9
          go_wp2
          go_ret
          exact ⟨rfl, rfl⟩
end Go.Proofs.YtkchnlfedkfpjaaDoor
