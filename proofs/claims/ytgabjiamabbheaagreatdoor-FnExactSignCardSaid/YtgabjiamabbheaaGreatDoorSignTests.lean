
/- The tests of a signer's texts, both sides. -/
import Derived.Test.YtgabjiamabbheaaGreatDoorDomain
import Derived.Test.YtgabjiamabbheaaGreatDoorHeadTests
import Derived.Test.YtgabjiamabbheaaGreatDoorSumSpec
namespace Go.Proofs.YtgabjiamabbheaaGreatDoor
open Go.RowKit Go.Lib
namespace Pl
def signB (c : UInt8) : Bool := decide (c.toNat ≤ 127) && (!(c == 59) && !(c == 61))
def selB (c : UInt8) : Bool := (decide (97 ≤ c.toNat) && decide (c.toNat ≤ 122)) || digit c
def apart (l : List UInt8) : Bool := l.all fun c => !(c == 59) && !(c == 61)
def selOk (l : List UInt8) : Bool := !l.isEmpty && (decide (l.length ≤ 60) && l.all selB)
def domOk (l : List UInt8) : Bool := domI l && (!(l.head? == some 91) && l.all signB)
def sNameOk (l : List UInt8) : Bool := nameOk l && l.all signB
set_option maxRecDepth 20000 in
theorem ix_neg (c : UInt8) : ∀ l : List UInt8, decide (indexByte l c < 0) = l.all fun x => !(x == c)
  | [] => by simp [indexByte]
  | a :: r => by
    have ih := ix_neg c r
    have hge := indexByte_ge r c
    rw [List.all_cons, ← ih, indexByte]
    cases hac : (a == c)
    · simp only [Bool.false_eq_true, if_false, Bool.not_false, Bool.true_and]
      cases h1 : (indexByte r c == -1)
      · have : indexByte r c ≠ -1 := by simpa using h1
        simp only [Bool.false_eq_true, if_false]
        congr 1
        exact propext (by omega)
      · have : indexByte r c = -1 := by simpa using h1
        simp [this]
    · simp
set_option maxRecDepth 20000 in
theorem apart_eq (l : List UInt8) : (decide (indexByte l 59 < 0) && decide (indexByte l 61 < 0)) = apart l := by
  rw [ix_neg, ix_neg, apart]
  induction l with
  | nil => rfl
  | cons a r ih =>
    rw [List.all_cons, List.all_cons, List.all_cons, ← ih]
    cases (!(a == 59)) <;> cases (!(a == 61)) <;> simp
set_option maxRecDepth 20000 in
theorem signB_eq (l : List UInt8) : (l.all fun c => decide (c.toNat ≤ 127)) = true → l.all signB = apart l := by
  intro h
  rw [apart]
  induction l with
  | nil => rfl
  | cons a r ih =>
    rw [List.all_cons, Bool.and_eq_true] at h
    rw [List.all_cons, List.all_cons, ih h.2, signB, h.1, Bool.true_and]
set_option maxRecDepth 20000 in
theorem signB_ascii (l : List UInt8) : l.all signB = (apart l && l.all fun c => decide (c.toNat ≤ 127)) := by
  induction l with
  | nil => rfl
  | cons a r ih =>
    rw [List.all_cons, apart, List.all_cons, List.all_cons, ih, apart, signB]
    cases decide (a.toNat ≤ 127) <;> cases (!(a == 59) && !(a == 61)) <;> cases (r.all fun c => !(c == 59) && !(c == 61)) <;> simp
set_option maxRecDepth 20000 in
theorem name_ascii (l : List UInt8) (h : nameOk l = true) : (l.all fun c => decide (c.toNat ≤ 127)) = true := by
  unfold nameOk at h
  rw [Bool.and_eq_true, Bool.and_eq_true] at h
  rw [List.all_eq_true]
  intro c hc
  have := List.all_eq_true.1 h.2.2 c hc
  unfold nb at this
  simp at this
  simp
  omega
set_option maxRecDepth 20000 in
theorem sName_eq (l : List UInt8) : sNameOk l = (nameOk l && apart l) := by
  unfold sNameOk
  cases h : nameOk l
  · rfl
  · rw [Bool.true_and, Bool.true_and, signB_eq l (name_ascii l h)]
end Pl
set_option maxRecDepth 20000 in
theorem implSignByte (c : UInt8) (w : World) : Calls Tryz.prog 110 #[.int .u8 (c.toNat : Int)] w fun e w' => e = .returned (.bool (Pl.signB c)) ∧ w = w' := by
  have h8 : c.toNat < 256 := UInt8.toNat_lt _
  unfold Pl.signB
  by_cases h1 : c.toNat ≤ 127
  · rw [decide_eq_true h1, Bool.true_and]
    cases h2 : ((c.toNat : Int) == 59)
    · have e2 : (c == 59) = false := beq_eq_false_iff_ne.2 (Pl.byte_ne c 59 _ rfl h2)
      have n2 : ((c.toNat : Int) != 59) = true := by rw [bne, h2]; rfl
      rw [e2, Bool.not_false, Bool.true_and]
      cases h3 : ((c.toNat : Int) == 61)
      · have e3 : (c == 61) = false := beq_eq_false_iff_ne.2 (Pl.byte_ne c 61 _ rfl h3)
        have n3 : ((c.toNat : Int) != 61) = true := by rw [bne, h3]; rfl
        rw [e3, Bool.not_false]
        go_enter Tryz.func110, Tryz.ntmps110
        go_wp2
        go_ret
        exact ⟨rfl, rfl⟩
      · have e3 : (c == 61) = true := beq_iff_eq.2 (Pl.byte_eq c 61 _ rfl h3)
        have n3 : ((c.toNat : Int) != 61) = false := by rw [bne, h3]; rfl
        rw [e3, Bool.not_true]
        go_enter Tryz.func110, Tryz.ntmps110
        go_wp2
        go_ret
        exact ⟨rfl, rfl⟩
    · have e2 : (c == 59) = true := beq_iff_eq.2 (Pl.byte_eq c 59 _ rfl h2)
      have n2 : ((c.toNat : Int) != 59) = false := by rw [bne, h2]; rfl
      rw [e2, Bool.not_true, Bool.false_and]
      go_enter Tryz.func110, Tryz.ntmps110
      go_wp2
      go_ret
      exact ⟨rfl, rfl⟩
  · rw [decide_eq_false h1, Bool.false_and]
    go_enter Tryz.func110, Tryz.ntmps110
    go_wp2
    go_ret
    exact ⟨rfl, rfl⟩
set_option maxRecDepth 20000 in
theorem kindSign : Kind 110 Pl.signB := ⟨Go.Proofs.enters_of Tryz.func110 (by kernel_rfl) rfl, implSignByte⟩
set_option maxRecDepth 20000 in
theorem implSelByte (c : UInt8) (w : World) : Calls Tryz.prog 111 #[.int .u8 (c.toNat : Int)] w fun e w' => e = .returned (.bool (Pl.selB c)) ∧ w = w' := by
  have h8 : c.toNat < 256 := UInt8.toNat_lt _
  have hD := fun w => implDigit c w
  unfold Pl.selB
  by_cases h1 : 97 ≤ c.toNat
  · rw [decide_eq_true h1, Bool.true_and]
    by_cases h2 : c.toNat ≤ 122
    · rw [decide_eq_true h2, Bool.true_or]
      go_enter Tryz.func111, Tryz.ntmps111
      go_wp2
      go_ret
      first | exact ⟨rfl, rfl⟩ | exact ⟨congrArg (fun b => Ending.returned (.bool b)) (by simp; omega), rfl⟩
    · rw [decide_eq_false h2, Bool.false_or]
      have d2 : decide ((c.toNat : Int) ≤ 122) = false := decide_eq_false (by omega)
      generalize Pl.digit c = b at *
      go_enter Tryz.func111, Tryz.ntmps111
      go_wp2_with fail
      refine (hD _).mono ?_
      rintro e w2 ⟨rfl, rfl⟩
      go_wp2
      go_ret
      exact ⟨rfl, rfl⟩
  · rw [decide_eq_false h1, Bool.false_and, Bool.false_or]
    generalize Pl.digit c = b at *
    go_enter Tryz.func111, Tryz.ntmps111
    go_wp2_with fail
    refine (hD _).mono ?_
    rintro e w2 ⟨rfl, rfl⟩
    go_wp2
    go_ret
    exact ⟨rfl, rfl⟩
set_option maxRecDepth 20000 in
theorem kindSel : Kind 111 Pl.selB := ⟨Go.Proofs.enters_of Tryz.func111 (by kernel_rfl) rfl, implSelByte⟩
set_option maxRecDepth 20000 in
set_option maxHeartbeats 400000 in
theorem implSelector (s : ByteArray) (w : World) (hs : s.size ≤ 1100000) :
    Calls Tryz.prog 81 #[.string s] w fun e w' => e = .returned (.bool (Pl.selOk s.data.toList)) ∧ w = w' := by
  have hA := fun w => implAllOf kindSel s w hs
  unfold Pl.selOk
  by_cases h0 : s.size = 0
  · have hl : s.data.toList = [] := List.length_eq_zero_iff.1 (by simpa using h0)
    have he : s.toList.isEmpty = true := by rw [ByteArray.toList_eq, hl]; rfl
    rw [hl]
    clear hl hA h0
    go_enter Tryz.func81, Tryz.ntmps81
    go_wp2
    go_ret
    exact ⟨rfl, rfl⟩
  · have hl : s.data.toList.isEmpty = false := by
      rw [List.isEmpty_eq_false_iff]
      intro e
      have := congrArg List.length e
      simp at this
      exact h0 (by simpa using this)
    have he : s.toList.isEmpty = false := by rw [ByteArray.toList_eq]; exact hl
    rw [hl, Pl.len_list, Bool.not_false, Bool.true_and]
    clear hl h0
    by_cases h6 : s.size ≤ 60
    · rw [decide_eq_true h6, Bool.true_and]
      generalize s.data.toList.all Pl.selB = b at *
      go_enter Tryz.func81, Tryz.ntmps81
      go_wp2_with fail
      refine (hA _).mono ?_
      rintro e w2 ⟨rfl, rfl⟩
      go_wp2
      go_ret
      exact ⟨rfl, rfl⟩
    · rw [decide_eq_false h6, Bool.false_and]
      clear hA
      go_enter Tryz.func81, Tryz.ntmps81
      go_wp2
      go_ret
      exact ⟨rfl, rfl⟩
set_option maxRecDepth 20000 in
theorem head_at (s : ByteArray) (h : 0 < s.size) : (s.data.toList.head? == some 91) = (s[0] == 91) := by
  have : s.data.toList.head? = some s[0] := by
    rw [List.head?_eq_getElem?, List.getElem?_eq_getElem (by simpa using h)]
    rfl
  rw [this]
  rfl
set_option maxRecDepth 20000 in
set_option maxHeartbeats 1000000 in
theorem implSignDomain (s : ByteArray) (m : Int) (w : World) (hs : s.size ≤ 1100000) (hm : w.cell? ⟨0, 0, none⟩ = some (.int .i64 m)) :
    Calls Tryz.prog 80 #[.string s] w fun e w' => e = .returned (.bool (Pl.domOk s.data.toList)) ∧ Below w.heap.size w w' := by
  have hD := implDomain s m w hs hm
  have hA := fun w => implAllOf kindSign s w hs
  unfold Pl.domOk
  by_cases h0 : 0 < s.size
  · have h8 : s[0].toNat < 256 := UInt8.toNat_lt _
    rw [head_at s h0]
    generalize Pl.domI s.data.toList = bd at *
    generalize s.data.toList.all Pl.signB = ba at *
    cases h91 : ((s[0].toNat : Int) == 91)
    · have e91 : (s[0] == 91) = false := beq_eq_false_iff_ne.2 (Pl.byte_ne _ 91 _ rfl h91)
      have n91 : ((s[0].toNat : Int) != 91) = true := by rw [bne, h91]; rfl
      rw [e91]
      generalize hsk : s[0] = c0 at *
      cases bd
      · go_enter Tryz.func80, Tryz.ntmps80
        go_wp2_with fail
        refine hD.mono ?_
        rintro e w2 ⟨rfl, hb2⟩
        go_wp2
        go_ret
        exact ⟨rfl, hb2⟩
      · go_enter Tryz.func80, Tryz.ntmps80
        go_wp2_with fail
        refine hD.mono ?_
        rintro e w2 ⟨rfl, hb2⟩
        rw [show dcode true = 0 from rfl]
        go_wp2_with fail
        refine (hA _).mono ?_
        rintro e w3 ⟨rfl, rfl⟩
        go_wp2
        go_ret
        exact ⟨rfl, hb2⟩
    · have e91 : (s[0] == 91) = true := beq_iff_eq.2 (Pl.byte_eq _ 91 _ rfl h91)
      have n91 : ((s[0].toNat : Int) != 91) = false := by rw [bne, h91]; rfl
      rw [e91, Bool.not_true, Bool.false_and, Bool.and_false]
      generalize hsk : s[0] = c0 at *
      clear hA
      cases bd
      · go_enter Tryz.func80, Tryz.ntmps80
        go_wp2_with fail
        refine hD.mono ?_
        rintro e w2 ⟨rfl, hb2⟩
        go_wp2
        go_ret
        exact ⟨rfl, hb2⟩
      · go_enter Tryz.func80, Tryz.ntmps80
        go_wp2_with fail
        refine hD.mono ?_
        rintro e w2 ⟨rfl, hb2⟩
        rw [show dcode true = 0 from rfl]
        go_wp2
        go_ret
        exact ⟨rfl, hb2⟩
  · have hl : s.data.toList = [] := List.length_eq_zero_iff.1 (by rw [Pl.len_list]; omega)
    rw [hl] at hD ⊢
    rw [show Pl.domI [] = false from rfl] at hD ⊢
    rw [Bool.false_and]
    clear hA hl
    go_enter Tryz.func80, Tryz.ntmps80
    go_wp2_with fail
    refine hD.mono ?_
    rintro e w2 ⟨rfl, hb2⟩
    go_wp2
    go_ret
    exact ⟨rfl, hb2⟩
set_option maxRecDepth 20000 in
set_option maxHeartbeats 1000000 in
theorem implNoSignName (s : ByteArray) (w : World) (hs : s.size ≤ 1100000) :
    Calls Tryz.prog 113 #[.string s] w fun e w' => e = .returned (.bool (!Pl.sNameOk s.data.toList)) ∧ w = w' := by
  have hN := fun w => implFieldName s w hs
  have hA := fun w => implAllOf kindSign s w hs
  unfold Pl.sNameOk
  generalize Pl.nameOk s.data.toList = bn at *
  generalize s.data.toList.all Pl.signB = ba at *
  cases bn
  · go_enter Tryz.func113, Tryz.ntmps113
    go_wp2_with fail
    refine (hN _).mono ?_
    rintro e w2 ⟨rfl, rfl⟩
    go_wp2
    go_ret
    exact ⟨rfl, rfl⟩
  · go_enter Tryz.func113, Tryz.ntmps113
    go_wp2_with fail
    refine (hN _).mono ?_
    rintro e w2 ⟨rfl, rfl⟩
    go_wp2_with fail
    refine (hA _).mono ?_
    rintro e w2 ⟨rfl, rfl⟩
    go_wp2
    go_ret
    exact ⟨rfl, rfl⟩
set_option maxRecDepth 20000 in
set_option maxHeartbeats 1000000 in
theorem specApart (s : ByteArray) (w : World) (hs : s.size ≤ 1100000) :
    Calls Tryz.prog 39 #[.string s] w fun e w' => e = .returned (.bool (Pl.apart s.data.toList)) ∧ w = w' := by
  have h1 := fun w => specIndex1 s 59 w hs
  have h2 := fun w => specIndex1 s 61 w hs
  simp only [ix_zero] at h1 h2
  rw [← Pl.apart_eq]
  have g1 := indexByte_ge s.data.toList 59
  have g2 := indexByte_ge s.data.toList 61
  generalize indexByte s.data.toList 59 = i1 at *
  generalize indexByte s.data.toList 61 = i2 at *
  by_cases hi : i1 < 0
  · rw [decide_eq_true hi, Bool.true_and]
    go_enter Tryz.func39, Tryz.ntmps39
    go_wp2_with fail
    refine (h1 _).mono ?_
    rintro e w2 ⟨rfl, rfl⟩
    go_wp2_with fail
    refine (h2 _).mono ?_
    rintro e w2 ⟨rfl, rfl⟩
    go_wp2
    go_ret
    exact ⟨rfl, rfl⟩
  · rw [decide_eq_false hi, Bool.false_and]
    go_enter Tryz.func39, Tryz.ntmps39
    go_wp2_with fail
    refine (h1 _).mono ?_
    rintro e w2 ⟨rfl, rfl⟩
    go_wp2
    go_ret
    exact ⟨rfl, rfl⟩
set_option maxRecDepth 20000 in
set_option maxHeartbeats 1000000 in
theorem specSelector (s : ByteArray) (w : World) (hs : s.size ≤ 1100000) :
    Calls Tryz.prog 37 #[.string s] w fun e w' => e = .returned (.bool (Pl.selOk s.data.toList)) ∧ w = w' := by
  obtain ⟨R, hR⟩ : ∃ R, Pl.selOk s.data.toList = R := ⟨_, rfl⟩
  rw [hR]
  by_cases h0 : s.size < 1
  · have hl : s.data.toList = [] := List.length_eq_zero_iff.1 (by rw [Pl.len_list]; omega)
    rw [hl] at hR
    subst hR
    go_enter Tryz.func37, Tryz.ntmps37
    go_wp2
    go_ret
    exact ⟨rfl, rfl⟩
  · by_cases h6 : 60 < s.size
    · have hf : R = false := by rw [← hR, Pl.selOk, Pl.len_list, decide_eq_false (by omega), Bool.false_and, Bool.and_false]
      subst hf
      clear hR
      go_enter Tryz.func37, Tryz.ntmps37
      go_wp2
      go_ret
      exact ⟨rfl, rfl⟩
    · have hne : s.data.toList.isEmpty = false := by
        rw [List.isEmpty_eq_false_iff]
        intro e
        have := congrArg List.length e
        simp at this
        exact h0 (by simp [this])
      have HR : Hid ((s.data.toList.drop 0).all Pl.selB = R) := by
        show _ = _
        rw [← hR, Pl.selOk, hne, Pl.len_list, decide_eq_true (by omega)]
        rfl
      clear hR hne
      go_enter Tryz.func37, Tryz.ntmps37
      go_wp2
      go_loopw [3] (fun i wr => ∃ k : Nat, k ≤ s.size ∧ i = .int .i64 k ∧ Hid ((s.data.toList.drop k).all Pl.selB = R) ∧ wr = w) (fun i _ => s.size - (Lib.intOf i).toNat)
      case atStart => exact ⟨0, Nat.zero_le _, rfl, HR, rfl⟩
      case round =>
        clear HR
        obtain ⟨k, hk, rfl, hp, rfl⟩ := hrel
        by_cases hlt : k < s.size
        · have h8 : s[k].toNat < 256 := UInt8.toNat_lt _
          have hst := Pl.all_step Pl.selB s.data.toList k (by simpa using hlt)
          rw [Pl.at_list s k hlt, hp.out] at hst
          have Hst : Hid (R = (Pl.selB s[k] && (s.data.toList.drop (k + 1)).all Pl.selB)) := hst
          clear hst hp
          generalize hsk : s[k] = c at *
          cases hg : Pl.selB c
          · have hR : R = false := by rw [Hst.out, hg, Bool.false_and]
            subst hR
            have hcs : c.toNat < 48 ∨ (57 < c.toNat ∧ c.toNat < 97) ∨ 122 < c.toNat := by
              unfold Pl.selB Pl.digit at hg
              simp at hg
              omega
            clear Hst hg
            rcases hcs with h1 | ⟨h1, h2⟩ | h1
            · have d97 : decide ((97 : Int) ≤ (c.toNat : Int)) = false := decide_eq_false (by omega)
              have d48 : decide ((48 : Int) ≤ (c.toNat : Int)) = false := decide_eq_false (by omega)
              go_wp2
              go_ret
              exact ⟨rfl, rfl⟩
            · have d97 : decide ((97 : Int) ≤ (c.toNat : Int)) = false := decide_eq_false (by omega)
              have d48 : decide ((48 : Int) ≤ (c.toNat : Int)) = true := decide_eq_true (by omega)
              have d57 : decide ((c.toNat : Int) ≤ 57) = false := decide_eq_false (by omega)
              go_wp2
              go_ret
              exact ⟨rfl, rfl⟩
            · have d97 : decide ((97 : Int) ≤ (c.toNat : Int)) = true := decide_eq_true (by omega)
              have d122 : decide ((c.toNat : Int) ≤ 122) = false := decide_eq_false (by omega)
              have d48 : decide ((48 : Int) ≤ (c.toNat : Int)) = true := decide_eq_true (by omega)
              have d57 : decide ((c.toNat : Int) ≤ 57) = false := decide_eq_false (by omega)
              clear h1
              go_wp2
              go_ret
              exact ⟨rfl, rfl⟩
          · have HN : Hid ((s.data.toList.drop (k + 1)).all Pl.selB = R) := by show _ = _; rw [Hst.out, hg, Bool.true_and]
            have hcs : (97 ≤ c.toNat ∧ c.toNat ≤ 122) ∨ (48 ≤ c.toNat ∧ c.toNat ≤ 57) := by
              unfold Pl.selB Pl.digit at hg
              simp at hg
              omega
            clear Hst hg
            rcases hcs with ⟨h1, h2⟩ | ⟨h1, h2⟩
            · have d97 : decide ((97 : Int) ≤ (c.toNat : Int)) = true := decide_eq_true (by omega)
              have d122 : decide ((c.toNat : Int) ≤ 122) = true := decide_eq_true (by omega)
              clear h1 h2
              go_wp2
              go_roundw
              case rel => exact ⟨k + 1, by omega, by go_num, HN, trivial⟩
              case measure => simp [Lib.intOf]; omega
            · have d97 : decide ((97 : Int) ≤ (c.toNat : Int)) = false := decide_eq_false (by omega)
              have d48 : decide ((48 : Int) ≤ (c.toNat : Int)) = true := decide_eq_true (by omega)
              have d57 : decide ((c.toNat : Int) ≤ 57) = true := decide_eq_true (by omega)
              clear h1 h2
              go_wp2
              go_roundw
              case rel => exact ⟨k + 1, by omega, by go_num, HN, trivial⟩
              case measure => simp [Lib.intOf]; omega
        · have hR : R = true := by rw [← hp.out]; exact Pl.all_done Pl.selB _ k (by simp; omega)
          subst hR
          clear hp
          go_wp2
          go_ret
          exact ⟨rfl, rfl⟩
set_option maxRecDepth 20000 in
set_option maxHeartbeats 1000000 in
theorem specSignDomain (s : ByteArray) (w : World) (hs : s.size ≤ 1100000) :
    Calls Tryz.prog 36 #[.string s] w fun e w' => e = .returned (.bool (Pl.domOk s.data.toList)) ∧ Below w.heap.size w w' := by
  have hD := specDomain s w hs
  have hA := fun w => specApart s w hs
  unfold Pl.domOk
  rw [Pl.signB_ascii]
  by_cases h0 : 0 < s.size
  · have h8 : s[0].toNat < 256 := UInt8.toNat_lt _
    rw [head_at s h0]
    generalize Pl.domI s.data.toList = bd at *
    generalize Pl.apart s.data.toList = ba at *
    cases bd
    · clear hA
      go_enter Tryz.func36, Tryz.ntmps36
      go_wp2_with fail
      refine hD.mono ?_
      rintro e w2 ⟨rfl, hb2⟩
      rw [show dcode false = 1 from rfl]
      go_wp2
      go_ret
      exact ⟨rfl, hb2⟩
    · cases h91 : ((s[0].toNat : Int) == 91)
      · have e91 : (s[0] == 91) = false := beq_eq_false_iff_ne.2 (Pl.byte_ne _ 91 _ rfl h91)
        rw [e91, Bool.not_false, Bool.true_and, Bool.true_and]
        cases ba
        · generalize hsk : s[0] = c0 at *
          go_enter Tryz.func36, Tryz.ntmps36
          go_wp2_with fail
          refine hD.mono ?_
          rintro e w2 ⟨rfl, hb2⟩
          rw [show dcode true = 0 from rfl]
          go_wp2_with fail
          refine (hA _).mono ?_
          rintro e w3 ⟨rfl, rfl⟩
          go_wp2
          go_ret
          exact ⟨rfl, hb2⟩
        · rw [Bool.true_and]
          obtain ⟨R, hR⟩ : ∃ R, (s.data.toList.all fun c => decide (c.toNat ≤ 127)) = R := ⟨_, rfl⟩
          have HR : Hid (((s.data.toList.drop 0).all fun c => decide (c.toNat ≤ 127)) = R) := hR
          rw [hR]
          clear hR e91
          generalize hsk : s[0] = c0 at *
          go_enter Tryz.func36, Tryz.ntmps36
          go_wp2_with fail
          refine hD.mono ?_
          rintro e w2 ⟨rfl, hb2⟩
          rw [show dcode true = 0 from rfl]
          go_wp2_with fail
          refine (hA _).mono ?_
          rintro e w3 ⟨rfl, rfl⟩
          have Hb2 : Hid (Below w.heap.size w w2) := hb2
          clear hA hD hb2 hsk h91 h8
          obtain ⟨V, hV⟩ : ∃ V, V = w2 := ⟨_, rfl⟩
          subst hV
          go_wp2
          go_loopw [3] (fun i wr => ∃ k : Nat, k ≤ s.size ∧ i = .int .i64 k ∧ Hid (((s.data.toList.drop k).all fun c => decide (c.toNat ≤ 127)) = R) ∧ wr = V) (fun i _ => s.size - (Lib.intOf i).toNat)
          case atStart => exact ⟨0, Nat.zero_le _, rfl, HR, rfl⟩
          case round =>
            clear HR
            obtain ⟨k, hk, rfl, hp, rfl⟩ := hrel
            by_cases hlt : k < s.size
            · have h8 : s[k].toNat < 256 := UInt8.toNat_lt _
              have hst := Pl.all_step (fun c => decide (c.toNat ≤ 127)) s.data.toList k (by simpa using hlt)
              rw [Pl.at_list s k hlt, hp.out] at hst
              have Hst : Hid (R = (decide (s[k].toNat ≤ 127) && ((s.data.toList.drop (k + 1)).all fun c => decide (c.toNat ≤ 127)))) := hst
              clear hst hp
              generalize hsk : s[k] = c at *
              by_cases h1 : c.toNat ≤ 127
              · have HN : Hid (((s.data.toList.drop (k + 1)).all fun c => decide (c.toNat ≤ 127)) = R) := by show _ = _; rw [Hst.out, decide_eq_true h1, Bool.true_and]
                clear Hst
                go_wp2
                go_roundw
                case rel => exact ⟨k + 1, by omega, by go_num, HN, trivial⟩
                case measure => simp [Lib.intOf]; omega
              · have hR : R = false := by rw [Hst.out, decide_eq_false h1, Bool.false_and]
                subst hR
                clear Hst
                go_wp2
                go_ret
                exact ⟨rfl, Hb2.out⟩
            · have hR : R = true := by rw [← hp.out]; exact Pl.all_done (fun c => decide (c.toNat ≤ 127)) _ k (by simp; omega)
              subst hR
              clear hp
              go_wp2
              go_ret
              exact ⟨rfl, Hb2.out⟩
      · have e91 : (s[0] == 91) = true := beq_iff_eq.2 (Pl.byte_eq _ 91 _ rfl h91)
        rw [e91, Bool.not_true, Bool.false_and, Bool.and_false]
        generalize hsk : s[0] = c0 at *
        clear hA
        go_enter Tryz.func36, Tryz.ntmps36
        go_wp2_with fail
        refine hD.mono ?_
        rintro e w2 ⟨rfl, hb2⟩
        rw [show dcode true = 0 from rfl]
        go_wp2
        go_ret
        exact ⟨rfl, hb2⟩
  · have hl : s.data.toList = [] := List.length_eq_zero_iff.1 (by rw [Pl.len_list]; omega)
    rw [hl] at hD ⊢
    rw [show Pl.domI [] = false from rfl] at hD ⊢
    rw [Bool.false_and]
    clear hA hl
    go_enter Tryz.func36, Tryz.ntmps36
    go_wp2_with fail
    refine hD.mono ?_
    rintro e w2 ⟨rfl, hb2⟩
    rw [show dcode false = 1 from rfl]
    go_wp2
    go_ret
    exact ⟨rfl, hb2⟩
end Go.Proofs.YtgabjiamabbheaaGreatDoor
