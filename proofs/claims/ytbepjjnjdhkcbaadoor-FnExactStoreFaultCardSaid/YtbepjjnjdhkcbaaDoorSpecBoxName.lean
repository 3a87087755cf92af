
/- The specification's BoxNameFault. -/
import Derived.Test.YtbepjjnjdhkcbaaDoorSpecFlag2
namespace Go.Proofs.YtbepjjnjdhkcbaaDoor
open Go.RowKit Go.Lib Go.Maps
namespace St
def nameB (c : UInt8) : Bool := letter c || (c.toNat == 45 || (c.toNat == 95 || c.toNat == 47))
def seg : Bool → List UInt8 → Bool
  | _, [] => true
  | p, c :: r => (nameB c && !(c.toNat == 47 && p)) && seg (c.toNat == 47) r
def byteAt (t : ByteArray) (i : Nat) : Nat := (t.data.toList.getD i 0).toNat
def boxName (t : ByteArray) : Bool := decide (1 ≤ t.size) && (decide (t.size ≤ 60) && (!(byteAt t 0 == 47) && (!(byteAt t (t.size - 1) == 47) && seg false t.data.toList)))
theorem seg_step (p : Bool) (l : List UInt8) (k : Nat) (h : k < l.length) : seg p (l.drop k) = ((nameB l[k] && !(l[k].toNat == 47 && p)) && seg (l[k].toNat == 47) (l.drop (k + 1))) := by
  rw [List.drop_eq_getElem_cons h, seg]
theorem byteAt_eq (t : ByteArray) (i : Nat) (h : i < t.size) : byteAt t i = t[i].toNat := by
  unfold byteAt
  rw [List.getD_eq_getElem?_getD, List.getElem?_eq_getElem (by simpa using h)]
  rfl
end St
def plBoxNameFault (t : ByteArray) : Int := St.code (St.boxName t)
set_option maxHeartbeats 4000000 in
theorem specBoxC (s : ByteArray) (w : World) (hs : s.size ≤ 1048576) : Calls Tryd.prog 11 #[.string s] w fun e w' => e = .returned (.int .i64 (plBoxNameFault s)) ∧ w = w' := by
  unfold plBoxNameFault St.boxName
  by_cases h1 : 1 ≤ s.size
  · have x1 : decide ((s.size : Int) < 1) = false := decide_eq_false (by omega)
    by_cases h2 : s.size ≤ 60
    · have x2 : decide ((60 : Int) < (s.size : Int)) = false := decide_eq_false (by omega)
      rw [decide_eq_true h1, decide_eq_true h2, Bool.true_and, Bool.true_and, St.byteAt_eq s 0 (by omega), St.byteAt_eq s (s.size - 1) (by omega)]
      have h80 : s[0].toNat < 256 := UInt8.toNat_lt _
      rw [← St.beq47 s[0].toNat]
      cases h0 : ((s[0].toNat : Int) == 47)
      · have h8l : s[s.size - 1].toNat < 256 := UInt8.toNat_lt _
        rw [← St.beq47 s[s.size - 1].toNat]
        have hil : (s.size : Int) - 1 = ((s.size - 1 : Nat) : Int) := by omega
        cases hl : ((s[s.size - 1].toNat : Int) == 47)
        · obtain ⟨A, hA⟩ : ∃ A, St.seg false s.data.toList = A := ⟨_, rfl⟩
          rw [hA]
          replace hA := mkHid hA
          have hll : Hid (s.data.toList.length = s.size) := by simp [Hid]
          rw [show (!false && (!false && A)) = A by cases A <;> rfl]
          have hz0 := mkHid h0
          go_enter Tryd.func11, Tryd.ntmps11
          go_wp2
          clear hl h8l hil
          go_loopw [3] (fun i wr => ∃ (k : Nat) (p : Bool), k ≤ s.size ∧ i = .int .i64 k ∧ Hid (St.seg p (s.data.toList.drop k) = A) ∧ Hid ((k = 0 ∧ p = false) ∨ ∃ (j : Nat) (h : j < s.size), k = j + 1 ∧ p = ((s[j].toNat : Int) == 47)) ∧ wr = w) (fun i _ => s.size - (Lib.intOf i).toNat)
          case atStart => exact ⟨0, false, Nat.zero_le _, rfl, hA, .inl ⟨rfl, rfl⟩, rfl⟩
          case round =>
            clear hA
            obtain ⟨k, p, hk, rfl, hal, hp, hWr⟩ := hrel
            have hWr' : wr = w := hWr
            clear hWr
            subst hWr'
            by_cases hlt : k < s.size
            · have hst := St.seg_step p s.data.toList k (by rw [hll.out]; exact hlt)
              rw [hal.out, show s.data.toList[k]'(by rw [hll.out]; exact hlt) = s[k] from rfl] at hst
              unfold St.nameB at hst
              rw [← St.beq47, ← St.beq45, ← St.beq95] at hst
              replace hst := mkHid hst
              have h8 : s[k].toNat < 256 := UInt8.toNat_lt _
              have cL := mkHid (specLetter s[k] wr)
              clear hal
              cases h47 : ((s[k].toNat : Int) == 47)
              · have n47 : ((s[k].toNat : Int) != 47) = true := by rw [bne, h47]; rfl
                have hz47 := mkHid h47
                rw [h47] at hst
                cases hL : St.letter s[k]
                · rw [hL] at cL hst
                  cases h45 : ((s[k].toNat : Int) == 45)
                  · have n45 : ((s[k].toNat : Int) != 45) = true := by rw [bne, h45]; rfl
                    rw [h45] at hst
                    cases h95 : ((s[k].toNat : Int) == 95)
                    · have n95 : ((s[k].toNat : Int) != 95) = true := by rw [bne, h95]; rfl
                      have hf : Hid (A = false) := by rw [hst.out, h95]; rfl
                      clear hst hL hp
                      go_wp2_with fail
                      refine cL.out.mono ?_
                      rintro e w2 ⟨rfl, rfl⟩
                      go_wp2
                      go_ret
                      rw [hf.out]
                      exact ⟨rfl, rfl⟩
                    · have n95 : ((s[k].toNat : Int) != 95) = false := by rw [bne, h95]; rfl
                      have hf : Hid (St.seg false (s.data.toList.drop (k + 1)) = A) := by rw [hst.out, h95]; rfl
                      clear hst hL hp
                      go_wp2_with fail
                      refine cL.out.mono ?_
                      rintro e w2 ⟨rfl, rfl⟩
                      go_wp2
                      go_roundw
                      case rel => exact ⟨k + 1, false, by omega, by go_num, hf, .inr ⟨k, hlt, rfl, hz47.out.symm⟩, trivial⟩
                      case measure => simp [Lib.intOf]; omega
                  · have n45 : ((s[k].toNat : Int) != 45) = false := by rw [bne, h45]; rfl
                    have hf : Hid (St.seg false (s.data.toList.drop (k + 1)) = A) := by rw [hst.out, h45]; rfl
                    clear hst hL hp
                    go_wp2_with fail
                    refine cL.out.mono ?_
                    rintro e w2 ⟨rfl, rfl⟩
                    go_wp2
                    go_roundw
                    case rel => exact ⟨k + 1, false, by omega, by go_num, hf, .inr ⟨k, hlt, rfl, hz47.out.symm⟩, trivial⟩
                    case measure => simp [Lib.intOf]; omega
                · rw [hL] at cL
                  have hf : Hid (St.seg false (s.data.toList.drop (k + 1)) = A) := by rw [hst.out, hL]; rfl
                  clear hst hL hp
                  go_wp2_with fail
                  refine cL.out.mono ?_
                  rintro e w2 ⟨rfl, rfl⟩
                  go_wp2
                  go_roundw
                  case rel => exact ⟨k + 1, false, by omega, by go_num, hf, .inr ⟨k, hlt, rfl, hz47.out.symm⟩, trivial⟩
                  case measure => simp [Lib.intOf]; omega
              · have n47 : ((s[k].toNat : Int) != 47) = false := by rw [bne, h47]; rfl
                have h47n : s[k].toNat = 47 := by have := beq_iff_eq.1 h47; omega
                have hz47 := mkHid h47
                rw [h47] at hst
                have hL : St.letter s[k] = false := by unfold St.letter; rw [h47n]; rfl
                have h45 : ((s[k].toNat : Int) == 45) = false := by rw [h47n]; rfl
                have h95 : ((s[k].toNat : Int) == 95) = false := by rw [h47n]; rfl
                have n45 : ((s[k].toNat : Int) != 45) = true := by rw [bne, h45]; rfl
                have n95 : ((s[k].toNat : Int) != 95) = true := by rw [bne, h95]; rfl
                rw [hL] at cL hst
                rw [h45, h95] at hst
                clear h47n hL
                rcases hp.out with ⟨rfl, rfl⟩ | ⟨j, hj, rfl, hpj⟩
                · have := hz0.out
                  rw [this] at h47
                  cases h47
                · have hji : ((j + 1 : Nat) : Int) - 1 = (j : Int) := by omega
                  have h8j : s[j].toNat < 256 := UInt8.toNat_lt _
                  cases hq : ((s[j].toNat : Int) == 47)
                  · have hf : Hid (St.seg true (s.data.toList.drop (j + 1 + 1)) = A) := by rw [hst.out, hpj, hq]; rfl
                    clear hst hp hpj
                    go_wp2_with fail
                    refine cL.out.mono ?_
                    rintro e w2 ⟨rfl, rfl⟩
                    go_wp2
                    go_roundw
                    case rel => exact ⟨j + 1 + 1, true, by omega, by go_num, hf, .inr ⟨j + 1, hlt, rfl, hz47.out.symm⟩, trivial⟩
                    case measure => simp [Lib.intOf]; omega
                  · have hf : Hid (A = false) := by rw [hst.out, hpj, hq]; rfl
                    clear hst hp hpj
                    go_wp2_with fail
                    refine cL.out.mono ?_
                    rintro e w2 ⟨rfl, rfl⟩
                    go_wp2
                    go_ret
                    rw [hf.out]
                    exact ⟨rfl, rfl⟩
            · have hf : Hid (A = true) := by
                have := hal.out
                rw [List.drop_eq_nil_of_le (by rw [hll.out]; omega)] at this
                exact this.symm
              go_wp2
              go_ret
              rw [hf.out]
              exact ⟨rfl, rfl⟩
        · go_enter Tryd.func11, Tryd.ntmps11
          go_wp2
          go_ret
          exact ⟨rfl, rfl⟩
      · go_enter Tryd.func11, Tryd.ntmps11
        go_wp2
        go_ret
        exact ⟨rfl, rfl⟩
    · have x2 : decide ((60 : Int) < (s.size : Int)) = true := decide_eq_true (by omega)
      rw [decide_eq_true h1, decide_eq_false h2]
      go_enter Tryd.func11, Tryd.ntmps11
      go_wp2
      go_ret
      exact ⟨rfl, rfl⟩
  · have x1 : decide ((s.size : Int) < 1) = true := decide_eq_true (by omega)
    rw [decide_eq_false h1]
    go_enter Tryd.func11, Tryd.ntmps11
    go_wp2
    go_ret
    exact ⟨rfl, rfl⟩
theorem specBoxNameFault (s0 : ByteArray) (w : World) (hs0 : s0.size ≤ 1048576) : Calls Tryd.prog 11 #[.string s0] w fun e w' => e = .returned (.int .i64 (plBoxNameFault s0)) ∧ Below w.heap.size w w' :=
  (specBoxC s0 w hs0).mono fun _ _ ⟨h1, h2⟩ => ⟨h1, h2 ▸ Below.refl _ _⟩
end Go.Proofs.YtbepjjnjdhkcbaaDoor
