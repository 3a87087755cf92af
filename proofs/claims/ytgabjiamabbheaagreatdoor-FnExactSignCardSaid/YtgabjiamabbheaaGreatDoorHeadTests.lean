
/- The tests for a field's name and value. -/
import Derived.Test.YtgabjiamabbheaaGreatDoorAllOf
import Derived.Test.YtgabjiamabbheaaGreatDoorUnfold
import Derived.Test.YtgabjiamabbheaaGreatDoorHeadPlain
namespace Go.Proofs.YtgabjiamabbheaaGreatDoor
open Go.RowKit Go.Lib
set_option maxRecDepth 20000 in
theorem nb_cases (c : UInt8) : c.toNat < 33 ∧ Pl.nb c = false ∨ 33 ≤ c.toNat ∧ 126 < c.toNat ∧ Pl.nb c = false ∨ 33 ≤ c.toNat ∧ c.toNat ≤ 126 ∧ ((c.toNat : Int) == 58) = true ∧ Pl.nb c = false ∨ 33 ≤ c.toNat ∧ c.toNat ≤ 126 ∧ ((c.toNat : Int) == 58) = false ∧ Pl.nb c = true := by
  by_cases h1 : c.toNat < 33
  · exact .inl ⟨h1, by simp [Pl.nb]; omega⟩
  · by_cases h2 : 126 < c.toNat
    · exact .inr (.inl ⟨by omega, h2, by simp [Pl.nb]; omega⟩)
    · cases h3 : ((c.toNat : Int) == 58)
      · refine .inr (.inr (.inr ⟨by omega, by omega, rfl, ?_⟩))
        have := Pl.byte_ne c 58 _ rfl h3
        simp [Pl.nb, this]; omega
      · refine .inr (.inr (.inl ⟨by omega, by omega, rfl, ?_⟩))
        rw [Pl.byte_eq c 58 _ rfl h3]; rfl
set_option maxRecDepth 20000 in
theorem implNameByte (c : UInt8) (w : World) : Calls Tryz.prog 102 #[.int .u8 (c.toNat : Int)] w fun e w' => e = .returned (.bool (Pl.nb c)) ∧ w = w' := by
  have h8 : c.toNat < 256 := UInt8.toNat_lt _
  rcases nb_cases c with ⟨h, hb⟩ | ⟨h, h1, hb⟩ | ⟨h, h1, h2, hb⟩ | ⟨h, h1, h2, hb⟩ <;> rw [hb] <;> clear hb
  · go_enter Tryz.func102, Tryz.ntmps102
    go_wp2
    go_ret
    exact ⟨rfl, rfl⟩
  · go_enter Tryz.func102, Tryz.ntmps102
    go_wp2
    go_ret
    exact ⟨rfl, rfl⟩
  · have h3 : ((c.toNat : Int) != 58) = false := by rw [bne, h2]; rfl
    go_enter Tryz.func102, Tryz.ntmps102
    go_wp2
    go_ret
    exact ⟨rfl, rfl⟩
  · have h3 : ((c.toNat : Int) != 58) = true := by rw [bne, h2]; rfl
    go_enter Tryz.func102, Tryz.ntmps102
    go_wp2
    go_ret
    exact ⟨rfl, rfl⟩
set_option maxRecDepth 20000 in
theorem kindName : Kind 102 Pl.nb := ⟨Go.Proofs.enters_of Tryz.func102 (by kernel_rfl) rfl, implNameByte⟩
set_option maxRecDepth 20000 in
set_option maxHeartbeats 400000 in
theorem implFieldName (s : ByteArray) (w : World) (hs : s.size ≤ 1100000) :
    Calls Tryz.prog 96 #[.string s] w fun e w' => e = .returned (.bool (Pl.nameOk s.data.toList)) ∧ w = w' := by
  by_cases h0 : s.size = 0
  · have hE : s.toList.isEmpty = true := by
      rw [ByteArray.toList_eq, List.isEmpty_iff]
      exact List.length_eq_zero_iff.1 (by rw [Pl.len_list]; exact h0)
    rw [show Pl.nameOk s.data.toList = false from by rw [ByteArray.toList_eq] at hE; simp [Pl.nameOk, hE]]
    go_enter Tryz.func96, Tryz.ntmps96
    go_wp2
    go_ret
    exact ⟨rfl, rfl⟩
  · have hE : s.toList.isEmpty = false := by
      rw [ByteArray.toList_eq, List.isEmpty_eq_false_iff]
      intro e
      exact h0 (by rw [← Pl.len_list, e]; rfl)
    by_cases h70 : s.size ≤ 70
    · have hc := fun w => implAllOf kindName s w hs
      rw [show Pl.nameOk s.data.toList = s.data.toList.all Pl.nb from by rw [ByteArray.toList_eq] at hE; simp [Pl.nameOk, hE, h70]]
      generalize s.data.toList.all Pl.nb = b at hc ⊢
      go_enter Tryz.func96, Tryz.ntmps96
      go_wp2_with fail
      refine (hc _).mono ?_
      rintro e w2 ⟨rfl, rfl⟩
      go_wp2
      go_ret
      exact ⟨rfl, rfl⟩
    · rw [show Pl.nameOk s.data.toList = false from by rw [ByteArray.toList_eq] at hE; simp [Pl.nameOk]; omega]
      go_enter Tryz.func96, Tryz.ntmps96
      go_wp2
      go_ret
      exact ⟨rfl, rfl⟩
set_option maxRecDepth 20000 in
set_option maxHeartbeats 400000 in
theorem implFieldValue (s : ByteArray) (w : World) (hs : s.size ≤ 1100000) :
    Calls Tryz.prog 97 #[.string s] w fun e w' => e = .returned (.bool (Pl.val s.data.toList)) ∧ Below w.heap.size w w' := by
  have hl : (ByteArray.mk (Pl.unf false s.data.toList).toArray).size ≤ 1100000 := by
    have := Pl.unf_len s.data.toList false
    rw [Pl.len_list] at this
    show (Pl.unf false s.data.toList).toArray.size ≤ 1100000
    rw [List.size_toArray]
    omega
  have hc := fun w => implAllOf kindLine ⟨(Pl.unf false s.data.toList).toArray⟩ w hl
  go_enter Tryz.func97, Tryz.ntmps97
  go_wp2_with fail
  refine (implUnfolded s _ hs).mono ?_
  rintro e w2 ⟨rfl, hb⟩
  go_wp2_with fail
  refine (hc _).mono ?_
  rintro e w3 ⟨rfl, rfl⟩
  go_wp2
  go_ret
  exact ⟨by simp [Pl.val], hb⟩
set_option maxRecDepth 20000 in
set_option maxHeartbeats 1000000 in
theorem specName (s : ByteArray) (w : World) (_hs : s.size ≤ 1100000) :
    Calls Tryz.prog 33 #[.string s] w fun e w' => e = .returned (.bool (Pl.nameOk s.data.toList)) ∧ w = w' := by
  by_cases h0 : s.size = 0
  · have hE : s.data.toList.isEmpty = true := by
      rw [List.isEmpty_iff]
      exact List.length_eq_zero_iff.1 (by rw [Pl.len_list]; exact h0)
    rw [show Pl.nameOk s.data.toList = false from by simp [Pl.nameOk, hE]]
    clear hE
    go_enter Tryz.func33, Tryz.ntmps33
    go_wp2
    go_ret
    exact ⟨rfl, rfl⟩
  · have hE : s.data.toList.isEmpty = false := by
      rw [List.isEmpty_eq_false_iff]
      intro e
      exact h0 (by rw [← Pl.len_list, e]; rfl)
    by_cases h70 : s.size ≤ 70
    · rw [show Pl.nameOk s.data.toList = s.data.toList.all Pl.nb from by simp [Pl.nameOk, hE, h70]]
      clear hE
      obtain ⟨A, hA⟩ : ∃ A, s.data.toList.all Pl.nb = A := ⟨_, rfl⟩
      rw [hA]
      have HA : Hid ((s.data.toList.drop 0).all Pl.nb = A) := hA
      clear hA
      have hz : ((s.size : Int) == 0) = false := by rw [Bool.eq_false_iff]; intro e; have := beq_iff_eq.1 e; omega
      have hz7 : decide ((70 : Int) < (s.size : Int)) = false := by simp; omega
      go_enter Tryz.func33, Tryz.ntmps33
      go_wp2
      go_loopw [3] (fun i wr => ∃ k : Nat, k ≤ s.size ∧ i = .int .i64 k ∧ Hid ((s.data.toList.drop k).all Pl.nb = A) ∧ wr = w) (fun i _ => s.size - (Lib.intOf i).toNat)
      case atStart => exact ⟨0, Nat.zero_le _, rfl, HA, rfl⟩
      case round =>
        clear HA
        obtain ⟨k, hk, rfl, hp, rfl⟩ := hrel
        by_cases hlt : k < s.size
        · have h8 : s[k].toNat < 256 := UInt8.toNat_lt _
          have hst : Hid ((s.data.toList.drop k).all Pl.nb = (Pl.nb s[k] && (s.data.toList.drop (k + 1)).all Pl.nb)) := Pl.all_step Pl.nb s.data.toList k (by simpa using hlt)
          have bad : Pl.nb s[k] = false → Hid (A = false) := by
            intro h
            have := hst.out
            rw [h, Bool.false_and, hp.out] at this
            exact this
          rcases nb_cases s[k] with ⟨h, hb⟩ | ⟨h, h1, hb⟩ | ⟨h, h1, h2, hb⟩ | ⟨h, h1, h2, hb⟩
          · have hB := bad hb
            clear bad hb hst hp
            go_wp2
            go_ret
            exact ⟨by rw [hB.out]; rfl, rfl⟩
          · have hB := bad hb
            clear bad hb hst hp
            go_wp2
            go_ret
            exact ⟨by rw [hB.out]; rfl, rfl⟩
          · have hB := bad hb
            clear bad hb hst hp
            go_wp2
            go_ret
            exact ⟨by rw [hB.out]; rfl, rfl⟩
          · have hg : Hid ((s.data.toList.drop (k + 1)).all Pl.nb = A) := show _ = _ from by
              have := hst.out
              rw [hb, Bool.true_and, hp.out] at this
              exact this.symm
            clear bad hb hst hp
            go_wp2
            go_roundw
            case rel => exact ⟨k + 1, by omega, by go_num, hg, trivial⟩
            case measure => simp [Lib.intOf]; omega
        · have H0 : Hid (A = true) := show _ = _ from by rw [← hp.out]; exact Pl.all_done Pl.nb _ k (by simp; omega)
          clear hp
          go_wp2
          go_ret
          exact ⟨by rw [H0.out]; rfl, rfl⟩
    · rw [show Pl.nameOk s.data.toList = false from by simp [Pl.nameOk]; omega]
      clear hE
      go_enter Tryz.func33, Tryz.ntmps33
      go_wp2
      go_ret
      exact ⟨rfl, rfl⟩
set_option maxRecDepth 20000 in
set_option maxHeartbeats 1000000 in
theorem specValue (s : ByteArray) (w : World) (hs : s.size ≤ 1100000) :
    Calls Tryz.prog 34 #[.string s] w fun e w' => e = .returned (.bool (Pl.val s.data.toList)) ∧ w = w' := by
  go_enter Tryz.func34, Tryz.ntmps34
  go_wp2
  go_loopw [3] (fun i wr => ∃ k : Nat, k ≤ s.size ∧ i = .int .i64 k ∧ Hid (Pl.val (s.data.toList.drop k) = Pl.val s.data.toList) ∧ wr = w) (fun i _ => s.size - (Lib.intOf i).toNat)
  case atStart => exact ⟨0, Nat.zero_le _, rfl, rfl, rfl⟩
  case round =>
    obtain ⟨k, hk, rfl, hp, rfl⟩ := hrel
    by_cases hlt : k < s.size
    · have h8 : s[k].toNat < 256 := UInt8.toNat_lt _
      have hc := fun w => specFold3 s k w hs hk
      by_cases hf : Pl.fold s.data.toList k = true
      · have h2 : Hid (k + 2 < s.size) := show k + 2 < s.size from by simpa using Pl.fold_lt _ _ hf
        have Hf : Hid (Pl.val (s.data.toList.drop (k + 2)) = Pl.val s.data.toList) := show _ = _ from (Pl.val_fold _ k hf).trans hp.out
        simp only [hf] at hc
        clear hf
        go_wp2_with (go_at_call 69; go_must (refine (hc _).mono ?_; rintro e w2 ⟨rfl, rfl⟩))
        go_roundw
        case rel => exact ⟨k + 2, by have := h2.out; omega, by go_num, Hf, trivial⟩
        case measure => simp [Lib.intOf]; omega
      · rw [Bool.not_eq_true] at hf
        have Hst : Hid (Pl.val s.data.toList = (Pl.lb s[k] && Pl.val (s.data.toList.drop (k + 1)))) := show _ = _ from hp.out.symm.trans (Pl.val_other s.data.toList k (by simpa using hlt) hf)
        simp only [hf] at hc
        clear hf hp
        cases h13 : ((s[k].toNat : Int) == 13)
        · cases h10 : ((s[k].toNat : Int) == 10)
          · have hg : Hid (Pl.val (s.data.toList.drop (k + 1)) = Pl.val s.data.toList) := show _ = _ from by
              rw [Hst.out, show Pl.lb s[k] = true from by simp [Pl.lb, Pl.byte_ne _ 13 _ rfl h13, Pl.byte_ne _ 10 _ rfl h10], Bool.true_and]
            clear Hst
            go_wp2_with (go_at_call 69; go_must (refine (hc _).mono ?_; rintro e w2 ⟨rfl, rfl⟩))
            go_roundw
            case rel => exact ⟨k + 1, by omega, by go_num, hg, trivial⟩
            case measure => simp [Lib.intOf]; omega
          · have hB : Hid (Pl.val s.data.toList = false) := show _ = _ from by rw [Hst.out, Pl.byte_eq _ 10 _ rfl h10]; rfl
            clear Hst
            go_wp2_with (go_at_call 69; go_must (refine (hc _).mono ?_; rintro e w2 ⟨rfl, rfl⟩))
            go_ret
            first | exact ⟨by rw [hB.out]; rfl, rfl⟩ | exact ⟨rfl, rfl⟩
        · have hB : Hid (Pl.val s.data.toList = false) := show _ = _ from by rw [Hst.out, Pl.byte_eq _ 13 _ rfl h13]; rfl
          clear Hst
          go_wp2_with (go_at_call 69; go_must (refine (hc _).mono ?_; rintro e w2 ⟨rfl, rfl⟩))
          go_ret
          first | exact ⟨by rw [hB.out]; rfl, rfl⟩ | exact ⟨rfl, rfl⟩
    · have H0 : Hid (Pl.val s.data.toList = true) := show _ = _ from by rw [← hp.out]; exact Pl.val_done _ k (by simp; omega)
      clear hp
      go_wp2
      go_ret
      exact ⟨by rw [H0.out]; rfl, rfl⟩
end Go.Proofs.YtgabjiamabbheaaGreatDoor
