/- A bare value and a number in digits, the specification's side. -/
import Derived.Test.YtpjpnjbegjiegaaDoorWriteImpl
namespace Go.Proofs.YtpjpnjbegjiegaaDoor
open Go.RowKit Go.Lib
theorem pb_cases (c : UInt8) : (Pl.pb c = true ∧ Pl.atom c = true ∧ c.toNat ≤ 127 ∧ c.toNat ≠ 42 ∧ c.toNat ≠ 39 ∧ c.toNat ≠ 37 ∧ c.toNat ≠ 61) ∨ (Pl.pb c = false ∧ Pl.atom c = false) ∨ (Pl.pb c = false ∧ Pl.atom c = true ∧ 128 ≤ c.toNat) ∨
    (Pl.pb c = false ∧ Pl.atom c = true ∧ c.toNat ≤ 127 ∧ (c.toNat = 42 ∨ c.toNat = 39 ∨ c.toNat = 37 ∨ c.toNat = 61)) := by
  have hb (n : Nat) (hn : n < 256) : (c == UInt8.ofNat n) = decide (c.toNat = n) := by
    by_cases h : c.toNat = n
    · rw [decide_eq_true h, ← h, UInt8.ofNat_toNat]; simp
    · rw [decide_eq_false h]
      simp only [beq_eq_false_iff_ne, ne_eq]
      intro e
      apply h
      rw [e, UInt8.toNat_ofNat']
      omega
  have e1 : (c == 42) = decide (c.toNat = 42) := hb 42 (by omega)
  have e2 : (c == 39) = decide (c.toNat = 39) := hb 39 (by omega)
  have e3 : (c == 37) = decide (c.toNat = 37) := hb 37 (by omega)
  have e4 : (c == 61) = decide (c.toNat = 61) := hb 61 (by omega)
  unfold Pl.pb
  rw [e1, e2, e3, e4]
  cases ha : Pl.atom c
  · exact .inr (.inl ⟨by simp, rfl⟩)
  · by_cases h1 : c.toNat < 128
    · by_cases h2 : c.toNat = 42 ∨ c.toNat = 39 ∨ c.toNat = 37 ∨ c.toNat = 61
      · refine .inr (.inr (.inr ⟨?_, rfl, by omega, h2⟩))
        simp
        omega
      · refine .inl ⟨?_, rfl, by omega, by omega, by omega, by omega, by omega⟩
        simp
        omega
    · exact .inr (.inr (.inl ⟨by simp; omega, rfl, by omega⟩))
set_option maxHeartbeats 4000000 in
theorem specBare (s : ByteArray) (w : World) (hs : s.size ≤ 1000) : Calls Tryd.prog 30 #[.string s] w fun e w' => e = .returned (.bool (Pl.bare s.data.toList)) ∧ Below w.heap.size w w' := by
  have cS := specAtoms 0 0 (by rfl) s w (by omega)
  obtain ⟨A, HA⟩ : ∃ A, Hid (Pl.bare s.data.toList = A) := ⟨_, rfl⟩
  rw [HA.out]
  cases hsc : Pl.scan 0 false s.data.toList
  · rw [hsc] at cS
    have hA : A = false := by
      rw [← HA.out]
      cases h : Pl.bare s.data.toList
      · rfl
      · unfold Pl.bare at h
        rw [Bool.and_eq_true] at h
        rw [Pl.scan_pb _ _ h.2, Bool.false_or, h.1] at hsc
        cases hsc
    subst hA
    clear HA
    go_enter Tryd.func30, Tryd.ntmps30
    go_wp2_with (go_at_call 45; go_must (refine cS.mono ?_; rintro e w2 ⟨rfl, hb⟩))
    go_ret
    exact ⟨rfl, hb⟩
  · rw [hsc] at cS
    have hA : Hid (s.data.toList.all Pl.pb = A) := show _ = _ from by
      rw [← HA.out]
      unfold Pl.bare
      cases h : s.data.toList.isEmpty
      · rfl
      · rw [List.isEmpty_iff] at h
        rw [h] at hsc
        cases hsc
    clear HA hsc
    go_enter Tryd.func30, Tryd.ntmps30
    go_wp2_with fail
    refine cS.mono ?_
    rintro e w2 ⟨rfl, hb2⟩
    have Hb2 := mkH2 hb2
    clear hb2 cS
    go_wp2
    go_loopw [3] (fun i wr => ∃ k : Nat, k ≤ s.size ∧ i = .int .i64 k ∧ Hid ((s.data.toList.drop k).all Pl.pb = A) ∧ Below w.heap.size w wr) (fun i _ => s.size - (Lib.intOf i).toNat)
    case atStart => exact ⟨0, Nat.zero_le _, rfl, hA.out, Hb2.out⟩
    case round =>
      obtain ⟨k, hk, rfl, hp, hb⟩ := hrel
      clear hA Hb2
      by_cases hlt : k < s.size
      · have hst := Pl.all_step Pl.pb s.data.toList k (by simpa using hlt)
        rw [Pl.at_list s k hlt] at hst
        have Hst : Hid ((s.data.toList.drop k).all Pl.pb = (Pl.pb s[k] && (s.data.toList.drop (k + 1)).all Pl.pb)) := hst
        clear hst
        have h8 : s[k].toNat < 256 := UInt8.toNat_lt _
        have cA := fun w => specAtomByte s[k] w
        have hcs := pb_cases s[k]
        generalize hsk : s[k] = c at *
        have next : Pl.pb c = true → Hid ((s.data.toList.drop (k + 1)).all Pl.pb = A) := by
          intro h
          have := Hst.out
          rw [h, Bool.true_and, hp.out] at this
          exact this.symm
        have stop : Pl.pb c = false → A = false := by
          intro h
          have := Hst.out
          rw [h, Bool.false_and, hp.out] at this
          exact this
        rcases hcs with ⟨h0, h1, h2, h3, h4, h5, h6⟩ | ⟨h0, h1⟩ | ⟨h0, h1, h2⟩ | ⟨h0, h1, h2, h3⟩
        · replace next := next h0
          simp only [h1] at cA
          have y42 : ((c.toNat : Int) == 42) = false := eq_no c 42 (by omega)
          have y39 : ((c.toNat : Int) == 39) = false := eq_no c 39 (by omega)
          have y37 : ((c.toNat : Int) == 37) = false := eq_no c 37 (by omega)
          have y61 : ((c.toNat : Int) == 61) = false := eq_no c 61 (by omega)
          clear stop Hst hp h0 h1 h3 h4 h5 h6
          go_wp2_with fail
          refine (cA _).mono ?_
          rintro e w3 ⟨rfl, hb3⟩
          have hbz := hb.trans (hb3.mono hb.size)
          go_wp2
          go_roundw
          case rel => exact ⟨k + 1, by omega, by go_num, next, hbz⟩
          case measure => simp [Lib.intOf]; omega
        · obtain rfl := stop h0
          simp only [h1] at cA
          clear next stop Hst hp h0 h1
          go_wp2_with fail
          refine (cA _).mono ?_
          rintro e w3 ⟨rfl, hb3⟩
          go_wp2
          go_ret
          exact ⟨rfl, hb.trans (hb3.mono hb.size)⟩
        · obtain rfl := stop h0
          simp only [h1] at cA
          clear next stop Hst hp h0 h1
          go_wp2_with fail
          refine (cA _).mono ?_
          rintro e w3 ⟨rfl, hb3⟩
          go_wp2
          go_ret
          exact ⟨rfl, hb.trans (hb3.mono hb.size)⟩
        · obtain rfl := stop h0
          simp only [h1] at cA
          clear next stop Hst hp h0 h1
          rcases h3 with d | d | d | d
          · have y42 : ((c.toNat : Int) == 42) = true := eq_yes c 42 (by omega)
            clear d
            go_wp2_with fail
            refine (cA _).mono ?_
            rintro e w3 ⟨rfl, hb3⟩
            go_wp2
            go_ret
            exact ⟨rfl, hb.trans (hb3.mono hb.size)⟩
          · have y42 : ((c.toNat : Int) == 42) = false := eq_no c 42 (by omega)
            have y39 : ((c.toNat : Int) == 39) = true := eq_yes c 39 (by omega)
            clear d
            go_wp2_with fail
            refine (cA _).mono ?_
            rintro e w3 ⟨rfl, hb3⟩
            go_wp2
            go_ret
            exact ⟨rfl, hb.trans (hb3.mono hb.size)⟩
          · have y42 : ((c.toNat : Int) == 42) = false := eq_no c 42 (by omega)
            have y39 : ((c.toNat : Int) == 39) = false := eq_no c 39 (by omega)
            have y37 : ((c.toNat : Int) == 37) = true := eq_yes c 37 (by omega)
            clear d
            go_wp2_with fail
            refine (cA _).mono ?_
            rintro e w3 ⟨rfl, hb3⟩
            go_wp2
            go_ret
            exact ⟨rfl, hb.trans (hb3.mono hb.size)⟩
          · have y42 : ((c.toNat : Int) == 42) = false := eq_no c 42 (by omega)
            have y39 : ((c.toNat : Int) == 39) = false := eq_no c 39 (by omega)
            have y37 : ((c.toNat : Int) == 37) = false := eq_no c 37 (by omega)
            have y61 : ((c.toNat : Int) == 61) = true := eq_yes c 61 (by omega)
            clear d
            go_wp2_with fail
            refine (cA _).mono ?_
            rintro e w3 ⟨rfl, hb3⟩
            go_wp2
            go_ret
            exact ⟨rfl, hb.trans (hb3.mono hb.size)⟩
      · have h0 : A = true := by rw [← hp.out]; exact Pl.all_done Pl.pb _ k (by simp; omega)
        subst h0
        clear hp
        go_wp2
        go_ret
        exact ⟨rfl, hb⟩
end Go.Proofs.YtpjpnjbegjiegaaDoor
