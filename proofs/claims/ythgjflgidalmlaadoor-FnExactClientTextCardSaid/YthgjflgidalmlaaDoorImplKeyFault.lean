
/- Keys of addresses: the program's KeyFault. -/
import Derived.Test.YthgjflgidalmlaaDoorSpecKeyFault
namespace Go.Proofs.YthgjflgidalmlaaDoor
open Go.RowKit Go.Lib
namespace Ky
theorem last_get (l : List UInt8) : ∀ (n a : Nat), n ≤ l.length → lastTo l n = (a : Int) → l[a]? = some 64
  | 0, a, _, h => by simp [lastTo] at h
  | n + 1, a, hn, h => by
    unfold lastTo at h
    rw [List.getElem?_eq_getElem (by omega : n < l.length), Option.getD_some] at h
    by_cases h64 : l[n]'(by omega) = 64
    · rw [if_pos h64] at h
      obtain rfl : n = a := by omega
      rw [List.getElem?_eq_getElem (by omega), h64]
    · rw [if_neg h64] at h
      exact last_get l n a (by omega) h
/-- What stands behind the last @, or all. -/
def domP (s : ByteArray) : ByteArray := s.extract (last s.data.toList + 1).toNat s.size
theorem domP_size (s : ByteArray) : (domP s).size ≤ s.size := by unfold domP; rw [ByteArray.size_extract]; omega
theorem parts_back (s : ByteArray) (a : Nat) (h : last s.data.toList = (a : Int)) : s = loc s ++ (⟨#[64]⟩ ++ dom s) ∧ domP s = dom s ∧ a < s.size := by
  have hlt : a < s.size := by
    have := (lastTo_in s.data.toList s.data.toList.length).2
    have hl : s.data.toList.length = s.size := by simp
    unfold last at h
    omega
  have hg := last_get s.data.toList _ a (Nat.le_refl _) h
  refine ⟨?_, ?_, hlt⟩
  · unfold loc dom
    rw [h, Int.toNat_natCast]
    apply ByteArray.ext
    apply Array.toList_inj.1
    simp only [ByteArray.data_append, ByteArray.data_extract, Array.toList_append, Array.toList_extract, List.extract_eq_take_drop]
    have hl : s.data.toList.length = s.size := by simp
    have hla : a < s.data.toList.length := by omega
    rw [List.getElem?_eq_getElem hla, Option.some_inj] at hg
    have e1 : s.data.toList = s.data.toList.take a ++ s.data.toList.drop a := (List.take_append_drop a _).symm
    have e2 : s.data.toList.drop a = 64 :: s.data.toList.drop (a + 1) := by rw [List.drop_eq_getElem_cons hla, hg]
    conv => lhs; rw [e1, e2]
    rw [List.take_of_length_le (l := s.data.toList.drop (a + 1)) (by simp)]
    simp
  · unfold domP dom
    rw [h, Int.toNat_natCast, show ((a : Int) + 1).toNat = a + 1 by omega]
theorem addr_dom (n l d : ByteArray) (h : addrOk n l d = true) : Pl.domI d.data.toList = true := by
  simp only [addrOk, Bool.and_eq_true] at h
  exact h.2.2.2.2.2
theorem ok_yes (s : ByteArray) (a : Nat) (h : last s.data.toList = (a : Int)) : ok s = (dok (dom s) && ((keyT ⟨#[]⟩ (loc s) (dom s)).toList == s.toList)) := by
  obtain ⟨hb, -, hlt⟩ := parts_back s a h
  have hsz : s.size = (loc s).size + (1 + (dom s).size) := by
    have := congrArg ByteArray.size hb
    rw [ByteArray.size_append, ByteArray.size_append] at this
    exact this
  unfold ok
  rw [h, decide_eq_true (by omega : (0 : Int) ≤ (a : Int)), Bool.true_and]
  cases hA : addrOk ⟨#[]⟩ (loc s) (dom s)
  · have hk : keyT ⟨#[]⟩ (loc s) (dom s) = ⟨#[]⟩ := by unfold keyT; rw [hA]; rfl
    have hne : ((keyT ⟨#[]⟩ (loc s) (dom s)).toList == s.toList) = false := by
      rw [hk, beq_eq_false_iff_ne]
      intro e
      rw [ByteArray.toList_eq, ByteArray.toList_eq] at e
      have := congrArg List.length e
      simp at this
      omega
    rw [hne]
    simp
  · have hd := addr_dom _ _ _ hA
    obtain ⟨-, s1, s2⟩ := addrOk_sizes _ _ _ hA
    rw [decide_eq_true (by omega : s.size ≤ 400), dok, hd]
    cases open_ (dom s) <;> cases ((keyT ⟨#[]⟩ (loc s) (dom s)).toList == s.toList) <;> rfl
theorem ok_no (s : ByteArray) (h : last s.data.toList = -1) : ok s = false := by
  unfold ok
  rw [h]
  rfl
theorem cut_yes (s : ByteArray) (a : Nat) (h : last s.data.toList = (a : Int)) : hasSuffix s.data.toList (⟨#[64]⟩ ++ domP s).data.toList = true ∧ (⟨(trimSuffix s.data.toList (⟨#[64]⟩ ++ domP s).data.toList).toArray⟩ : ByteArray) = loc s := by
  obtain ⟨hb, hd, -⟩ := parts_back s a h
  rw [hd]
  have e : s.data.toList = (loc s).data.toList ++ (⟨#[64]⟩ ++ dom s : ByteArray).data.toList := by
    conv => lhs; rw [hb]
    simp
  generalize (⟨#[64]⟩ ++ dom s : ByteArray).data.toList = x at *
  have hs : hasSuffix s.data.toList x = true := by
    rw [e, hasSuffix]
    simp [List.isSuffixOf]
  refine ⟨hs, ?_⟩
  rw [trimSuffix, if_pos hs, e]
  apply ByteArray.ext
  apply Array.toList_inj.1
  simp
theorem cut_no (s : ByteArray) (h : last s.data.toList = -1) : hasSuffix s.data.toList (⟨#[64]⟩ ++ domP s).data.toList = false := by
  have e : domP s = s := by
    unfold domP
    rw [h]
    simp
  rw [e, Bool.eq_false_iff]
  intro hs
  rw [hasSuffix, List.isSuffixOf_iff_suffix] at hs
  have := hs.length_le
  simp at this
  omega
end Ky
set_option maxHeartbeats 1000000 in
theorem libLastString (s : ByteArray) (w : World) (hs : s.size ≤ 1100000) :
    Calls Tryd.prog 82 #[.string s, .int .u8 64] w fun e w' => e = .returned (.int .i64 (Ky.last s.data.toList)) ∧ Below w.heap.size w w' := by
  have hll : s.data.toList.length = s.size := by simp
  obtain ⟨R, hR⟩ : ∃ R, Ky.last s.data.toList = R := ⟨_, rfl⟩
  rw [hR]
  replace hR : Hid (Ky.lastTo s.data.toList s.size = R) := by rw [← hll]; exact hR
  go_enter Tryd.func82, Tryd.ntmps82
  go_wp2
  go_loopw [5] (fun iv wr => ∃ (c : Nat) (z : Int), c ≤ s.size ∧ iv = .int .i64 z ∧ z + 1 = (c : Int) ∧ Hid (Ky.lastTo s.data.toList c = R) ∧ Below w.heap.size w wr) (fun iv _ => (Lib.intOf iv + 1).toNat)
  case atStart => exact ⟨s.size, (s.size : Int) - 1, Nat.le_refl _, by go_num, by omega, hR, Below.refl _ _⟩
  case round =>
    obtain ⟨c, z, hc, rfl, hz, hRc, hb⟩ := hrel
    clear hR
    by_cases h0 : c = 0
    · subst h0
      obtain rfl : z = -1 := by omega
      have hR0 : Hid (R = -1) := show _ = _ from hRc.out.symm
      go_wp2
      go_ret
      rw [hR0.out]
      exact ⟨rfl, hb⟩
    · obtain ⟨n, rfl⟩ : ∃ n, c = n + 1 := ⟨c - 1, by omega⟩
      obtain rfl : z = (n : Int) := by omega
      have hlt : n < s.size := by omega
      have hge : decide ((0 : Int) ≤ (n : Int)) = true := by simp
      have h8 : s[n].toNat < 256 := UInt8.toNat_lt _
      by_cases h64 : s[n] = 64
      · have hRn : Hid (R = (n : Int)) := show _ = _ from by rw [← hRc.out]; exact Ky.lastTo_yes _ n (by omega) h64
        have hb64 : ((s[n].toNat : Int) == 64) = true := by rw [h64]; rfl
        clear hRc h64
        go_wp2
        go_ret
        rw [hRn.out]
        exact ⟨rfl, hb⟩
      · have hRn : Hid (Ky.lastTo s.data.toList n = R) := show _ = _ from by rw [← hRc.out]; exact (Ky.lastTo_no _ n (by omega) h64).symm
        have hb64 : ((s[n].toNat : Int) == 64) = false := by
          have : s[n].toNat ≠ 64 := fun e => h64 (UInt8.toNat_inj.1 e)
          simp; omega
        clear hRc h64
        go_wp2
        go_roundw
        case rel => exact ⟨n, (n : Int) - 1, by omega, by go_num, by omega, hRn, hb⟩
        case measure => simp [Lib.intOf]
theorem libLastByte (s : ByteArray) (w : World) (hs : s.size ≤ 1100000) :
    Calls Tryd.prog 71 #[.string s, .int .u8 64] w fun e w' => e = .returned (.int .i64 (Ky.last s.data.toList)) ∧ Below w.heap.size w w' := by
  have hA := mkH (libLastString s w hs)
  generalize Ky.last s.data.toList = z at *
  go_enter Tryd.func71, Tryd.ntmps71
  go_wp2_with fail
  refine hA.out.mono ?_
  rintro e w1 ⟨rfl, hb1⟩
  go_wp2
  go_ret
  exact ⟨rfl, hb1⟩
set_option maxHeartbeats 1000000 in
theorem implDomainOf (s : ByteArray) (w : World) (hs : s.size ≤ 1100000) :
    Calls Tryd.prog 52 #[.string s] w fun e w' => e = .returned (.string (Ky.domP s)) ∧ Below w.heap.size w w' := by
  have hA := mkH (libLastByte s w hs)
  have hin := Ky.lastTo_in s.data.toList s.data.toList.length
  have hll : s.data.toList.length = s.size := by simp
  unfold Ky.domP
  obtain ⟨z, hz⟩ : ∃ z, Ky.last s.data.toList = z := ⟨_, rfl⟩
  rw [show Ky.lastTo s.data.toList s.data.toList.length = z from hz, hll] at hin
  rw [hz] at hA ⊢
  clear hz hll
  obtain ⟨k, hk⟩ : ∃ k : Nat, z + 1 = (k : Int) := ⟨(z + 1).toNat, by omega⟩
  have hks : k ≤ s.size := by omega
  rw [hk, Int.toNat_natCast]
  have hw := wrapK (k : Int) (by omega) (by omega)
  have f1 : (k : Int) ≤ (s.size : Int) := by omega
  go_enter Tryd.func52, Tryd.ntmps52
  go_wp2_with fail
  refine hA.out.mono ?_
  rintro e w1 ⟨rfl, hb1⟩
  go_wp2
  go_ret
  exact ⟨rfl, hb1⟩
set_option maxHeartbeats 2000000 in
theorem implIsKey (s : ByteArray) (m : Int) (w : World) (hs : s.size ≤ 1048576) (hm : w.cell? ⟨0, 0, none⟩ = some (.int .i64 m)) :
    Calls Tryd.prog 33 #[.string s] w fun e w' => e = .returned (.bool (Ky.ok s)) ∧ Below w.heap.size w w' := by
  have hlt := bcell_lt hm
  have hO := mkH (implDomainOf s w (by omega))
  have hds := Ky.domP_size s
  have hC := mkH (fun w => Tryd.strings_CutSuffix s (⟨#[64]⟩ ++ Ky.domP s) w (by omega))
  have hN := mkH (fun (w : World) (hm : w.cell? ⟨0, 0, none⟩ = some (.int .i64 m)) => implDomainName (Ky.domP s) m w (by omega) hm)
  have Hm := mkH hm
  have hl1 : ¬ 9223372036854775807 < (ByteArray.mk #[64]).size + (Ky.domP s).size := by
    have : (ByteArray.mk #[64]).size = 1 := rfl
    omega
  have hin := Ky.lastTo_in s.data.toList s.data.toList.length
  have hl2 : (Ky.loc s).size ≤ 1100000 := by unfold Ky.loc; rw [ByteArray.size_extract]; omega
  have hK := mkH (fun (w : World) (hm : w.cell? ⟨0, 0, none⟩ = some (.int .i64 m)) => implKey ⟨#[]⟩ (Ky.loc s) (Ky.domP s) m w (by decide) hl2 (by omega) hm)
  clear hm
  by_cases h0 : Ky.last s.data.toList = -1
  · rw [Ky.ok_no s h0]
    have hno := Ky.cut_no s h0
    rw [hno] at hC
    generalize Ky.domP s = d at *
    generalize Ky.loc s = lo at *
    generalize (ByteArray.mk (trimSuffix s.data.toList (⟨#[64]⟩ ++ d).data.toList).toArray) = r at *
    clear h0 hno hin
    go_enter Tryd.func33, Tryd.ntmps33
    go_wp2_with fail
    refine hO.out.mono ?_
    rintro e w1 ⟨rfl, hb1⟩
    go_wp2_with first | (go_at_call 50; go_must (refine (hC.out _).mono ?_; rintro e w3 ⟨rfl, rfl⟩))
    go_ret
    exact ⟨rfl, hb1⟩
  · obtain ⟨a, ha⟩ : ∃ a : Nat, Ky.last s.data.toList = (a : Int) := ⟨(Ky.last s.data.toList).toNat, by
      have : Ky.last s.data.toList = Ky.lastTo s.data.toList s.data.toList.length := rfl
      omega⟩
    rw [Ky.ok_yes s a ha]
    obtain ⟨c1, c2⟩ := Ky.cut_yes s a ha
    obtain ⟨-, hpd, -⟩ := Ky.parts_back s a ha
    rw [c1, c2] at hC
    rw [← hpd]
    clear c1 c2 ha h0 hin hpd
    generalize Ky.domP s = d at *
    generalize Ky.loc s = lo at *
    generalize keyT ⟨#[]⟩ lo d = kt at *
    generalize Ky.dok d = b1 at *
    obtain ⟨b2, hb2⟩ : ∃ b2, (kt.toList == s.toList) = b2 := ⟨_, rfl⟩
    rw [hb2]
    cases b1
    · go_enter Tryd.func33, Tryd.ntmps33
      go_wp2_with fail
      refine hO.out.mono ?_
      rintro e w1 ⟨rfl, hb1⟩
      go_wp2_with first | (go_at_call 50; go_must (refine (hC.out _).mono ?_; rintro e w3 ⟨rfl, rfl⟩)) | (go_at_call 53; go_must (refine (hN.out _ ((hb1.cell hlt).trans Hm.out)).mono ?_; rintro e w4 ⟨rfl, hb4⟩))
      go_ret
      exact ⟨rfl, hb1.trans (hb4.mono hb1.size)⟩
    · go_enter Tryd.func33, Tryd.ntmps33
      go_wp2_with fail
      refine hO.out.mono ?_
      rintro e w1 ⟨rfl, hb1⟩
      go_wp2_with first | (go_at_call 50; go_must (refine (hC.out _).mono ?_; rintro e w3 ⟨rfl, rfl⟩)) | (go_at_call 53; go_must (refine (hN.out _ ((hb1.cell hlt).trans Hm.out)).mono ?_; rintro e w4 ⟨rfl, hb4⟩)) | (go_at_call 54; go_must (refine (hK.out _ (((hb1.trans (hb4.mono hb1.size)).cell hlt).trans Hm.out)).mono ?_; rintro e w5 ⟨rfl, hb5⟩))
      go_ret
      rw [Bool.true_and]
      exact ⟨rfl, (hb1.trans (hb4.mono hb1.size)).trans (hb5.mono (hb1.trans (hb4.mono hb1.size)).size)⟩
end Go.Proofs.YthgjflgidalmlaaDoor
