
/- Keys of addresses: their last @; the specification's KeyFault. -/
import Derived.Test.YthgjflgidalmlaaDoorBox
import Derived.Test.YthgjflgidalmlaaDoorKyDom
namespace Go.Proofs.YthgjflgidalmlaaDoor
open Go.RowKit Go.Lib
namespace Ky
/-- The last @ among the first bytes, or -1. -/
def lastTo (l : List UInt8) : Nat → Int
  | 0 => -1
  | n + 1 => if l[n]?.getD 0 = 64 then (n : Int) else lastTo l n
def last (l : List UInt8) : Int := lastTo l l.length
theorem lastTo_in (l : List UInt8) : ∀ n, -1 ≤ lastTo l n ∧ lastTo l n < (n : Int)
  | 0 => by simp [lastTo]
  | n + 1 => by
    unfold lastTo
    have := lastTo_in l n
    split <;> omega
theorem lastTo_yes (l : List UInt8) (n : Nat) (h : n < l.length) (h64 : l[n] = 64) : lastTo l (n + 1) = (n : Int) := by
  unfold lastTo
  rw [List.getElem?_eq_getElem h, Option.getD_some, if_pos h64]
theorem lastTo_no (l : List UInt8) (n : Nat) (h : n < l.length) (h64 : l[n] ≠ 64) : lastTo l (n + 1) = lastTo l n := by
  conv => lhs; unfold lastTo
  rw [List.getElem?_eq_getElem h, Option.getD_some, if_neg h64]
/-- What stands ahead of the last @, and behind it. -/
def loc (s : ByteArray) : ByteArray := s.extract 0 (last s.data.toList).toNat
def dom (s : ByteArray) : ByteArray := s.extract ((last s.data.toList).toNat + 1) s.size
def ok (s : ByteArray) : Bool := decide (0 ≤ last s.data.toList) && (decide (s.size ≤ 400) && (addrOk ⟨#[]⟩ (loc s) (dom s) && (((keyT ⟨#[]⟩ (loc s) (dom s)).toList == s.toList) && !open_ (dom s))))
end Ky
set_option maxHeartbeats 1000000 in
theorem specLastAt (s : ByteArray) (w : World) (hs : s.size ≤ 1100000) :
    Calls Tryd.prog 24 #[.string s] w fun e w' => e = .returned (.int .i64 (Ky.last s.data.toList)) ∧ Below w.heap.size w w' := by
  have hll : s.data.toList.length = s.size := by simp
  obtain ⟨R, hR⟩ : ∃ R, Ky.last s.data.toList = R := ⟨_, rfl⟩
  rw [hR]
  replace hR : Hid (Ky.lastTo s.data.toList s.size = R) := by rw [← hll]; exact hR
  go_enter Tryd.func24, Tryd.ntmps24
  go_wp2
  go_loopw [3] (fun iv wr => ∃ (c : Nat) (z : Int), c ≤ s.size ∧ iv = .int .i64 z ∧ z + 1 = (c : Int) ∧ Hid (Ky.lastTo s.data.toList c = R) ∧ Below w.heap.size w wr) (fun iv _ => (Lib.intOf iv + 1).toNat)
  case atStart => exact ⟨s.size, (s.size : Int) - 1, Nat.le_refl _, by go_num, by omega, hR, Below.refl _ _⟩
  case round =>
    obtain ⟨c, z, hc, rfl, hz, hRc, hb⟩ := hrel
    clear hR
    by_cases h0 : c = 0
    · subst h0
      obtain rfl : z = -1 := by omega
      have hR0 : Hid (R = -1) := show _ = _ from hRc.out.symm
      go_wp2
      go_ret
      rw [hR0.out]
      exact ⟨rfl, hb⟩
    · obtain ⟨n, rfl⟩ : ∃ n, c = n + 1 := ⟨c - 1, by omega⟩
      obtain rfl : z = (n : Int) := by omega
      have hlt : n < s.size := by omega
      have hge : decide ((0 : Int) ≤ (n : Int)) = true := by simp
      have h8 : s[n].toNat < 256 := UInt8.toNat_lt _
      by_cases h64 : s[n] = 64
      · have hRn : Hid (R = (n : Int)) := show _ = _ from by rw [← hRc.out]; exact Ky.lastTo_yes _ n (by omega) h64
        have hb64 : ((s[n].toNat : Int) == 64) = true := by rw [h64]; rfl
        clear hRc h64
        go_wp2
        go_ret
        rw [hRn.out]
        exact ⟨rfl, hb⟩
      · have hRn : Hid (Ky.lastTo s.data.toList n = R) := show _ = _ from by rw [← hRc.out]; exact (Ky.lastTo_no _ n (by omega) h64).symm
        have hb64 : ((s[n].toNat : Int) == 64) = false := by
          have : s[n].toNat ≠ 64 := fun e => h64 (UInt8.toNat_inj.1 e)
          simp; omega
        clear hRc h64
        go_wp2
        go_roundw
        case rel => exact ⟨n, (n : Int) - 1, by omega, by go_num, by omega, hRn, hb⟩
        case measure => simp [Lib.intOf]
theorem wrapK (n : Int) (h0 : -9223372036854775808 ≤ n) (h1 : n ≤ 9223372036854775807) : IntKind.i64.wrap n = n := by
  unfold IntKind.wrap
  simp [IntKind.bits, IntKind.signed]
  omega
theorem Ky.parts (s : ByteArray) (a : Nat) (h : Ky.last s.data.toList = (a : Int)) : Ky.loc s = s.extract 0 a ∧ Ky.dom s = s.extract (a + 1) s.size := by
  unfold Ky.loc Ky.dom
  rw [h, Int.toNat_natCast]
  exact ⟨rfl, rfl⟩
theorem addrOk_dom (n l d : ByteArray) (h : addrOk n l d = true) : 0 < d.size := by
  by_cases h0 : 0 < d.size
  · exact h0
  · have : d.data.toList = [] := List.length_eq_zero_iff.1 (by
      have : d.data.toList.length = d.size := by simp
      omega)
    simp only [addrOk, Bool.and_eq_true] at h
    have h2 := h.2.2.2.2.2
    rw [this] at h2
    exact absurd h2 (by decide)
set_option maxHeartbeats 2000000 in
theorem specKeyFault (s : ByteArray) (w : World) (hs : s.size ≤ 1048576) :
    Calls Tryd.prog 11 #[.string s] w fun e w' => e = .returned (.int .i64 (dcode (Ky.ok s))) ∧ Below w.heap.size w w' := by
  have hA := mkH (specLastAt s w (by omega))
  obtain ⟨z, hz⟩ : ∃ z, Ky.last s.data.toList = z := ⟨_, rfl⟩
  have hzin := Ky.lastTo_in s.data.toList s.data.toList.length
  rw [show Ky.lastTo s.data.toList s.data.toList.length = z from hz] at hzin
  have hll : s.data.toList.length = s.size := by simp
  rw [hz] at hA
  unfold Ky.ok
  rw [hz]
  by_cases h0 : 0 ≤ z
  · obtain ⟨a, rfl⟩ : ∃ a : Nat, z = (a : Int) := ⟨z.toNat, by omega⟩
    obtain ⟨e1, e2⟩ := Ky.parts s a hz
    rw [e1, e2, decide_eq_true h0, Bool.true_and]
    have b0 : decide ((a : Int) < 0) = false := by simp
    by_cases h4 : s.size ≤ 400
    · rw [decide_eq_true h4, Bool.true_and]
      have b4 : decide ((400 : Int) < (s.size : Int)) = false := by simp; omega
      have halt : a < s.size := by omega
      have hl1 : (s.extract 0 a).size ≤ 1100000 := by rw [ByteArray.size_extract]; omega
      have hl2 : (s.extract (a + 1) s.size).size ≤ 1100000 := by rw [ByteArray.size_extract]; omega
      have f1 : (a : Int) ≤ (s.size : Int) := by omega
      have f2 : (a : Int) + 1 ≤ (s.size : Int) := by omega
      have hD0 := addrOk_dom ⟨#[]⟩ (s.extract 0 a) (s.extract (a + 1) s.size)
      obtain ⟨lo, hlo⟩ : ∃ lo, s.extract 0 a = lo := ⟨_, rfl⟩
      obtain ⟨dm, hdm⟩ : ∃ dm, s.extract (a + 1) s.size = dm := ⟨_, rfl⟩
      rw [hlo] at hl1
      rw [hdm] at hl2
      rw [hlo, hdm] at hD0 ⊢
      have cF := mkH (fun w => specAddress ⟨#[]⟩ lo dm w (by decide) hl1 hl2)
      have cK := mkH (fun w => specKey ⟨#[]⟩ lo dm w (by decide) hl1 hl2)
      generalize keyT ⟨#[]⟩ lo dm = kt at *
      have hwa := wrapK ((a : Int) + 1) (by omega) (by omega)
      obtain ⟨R, hR⟩ : ∃ R, dcode (addrOk ⟨#[]⟩ lo dm && ((kt.toList == s.toList) && !Ky.open_ dm)) = R := ⟨_, rfl⟩
      rw [hR]
      replace hR := mkH hR
      clear e1 e2 hz h0 hzin
      go_enter Tryd.func11, Tryd.ntmps11
      go_wp2_with fail
      refine hA.out.mono ?_
      rintro e w1 ⟨rfl, hb1⟩
      clear hA
      go_wp2
      refine wp_region_any (by kernel_rfl) ?_
      refine wpAny_take (i := 0) (v := .string s) rfl (by kernel_rfl) (by kernel_rfl) (by kernel_rfl) (fun _ _ _ h => h) (Or.inl ⟨by rfl, ?_⟩) ?_
      · intro w
        go_simp
        all_goals first | done | omega | (intro h; exfalso; omega)
      go_simp
      refine wpAny_take (i := 1) (v := .int .i64 a) rfl (by kernel_rfl) (by kernel_rfl) (by kernel_rfl) (fun _ _ _ h => h) (Or.inl ⟨by rfl, ?_⟩) ?_
      · intro w
        go_simp
        all_goals first | done | omega | (intro h; exfalso; omega)
      go_simp
      refine wpAny_take (i := 2) (v := .string (s.extract 0 a)) rfl (by kernel_rfl) (by kernel_rfl) (by kernel_rfl) (fun _ _ _ h => h) (Or.inl ⟨by rfl, ?_⟩) ?_
      · intro w
        go_simp
        all_goals first | done | omega | (intro h; exfalso; omega)
      go_simp
      refine wpAny_take (i := 3) (v := .string s) rfl (by kernel_rfl) (by kernel_rfl) (by kernel_rfl) (fun _ _ _ h => h) (Or.inl ⟨by rfl, ?_⟩) ?_
      · intro w
        go_simp
        all_goals first | done | omega | (intro h; exfalso; omega)
      go_simp
      refine wpAny_take (i := 4) (v := .int .i64 a) rfl (by kernel_rfl) (by kernel_rfl) (by kernel_rfl) (fun _ _ _ h => h) (Or.inl ⟨by rfl, ?_⟩) ?_
      · intro w
        go_simp
        all_goals first | done | omega | (intro h; exfalso; omega)
      go_simp
      refine wpAny_take (i := 5) (v := .int .i64 ((a : Int) + 1)) rfl (by kernel_rfl) (by kernel_rfl) (by kernel_rfl) (fun _ _ _ h => h) (Or.inl ⟨by rfl, ?_⟩) ?_
      · intro w
        go_simp
        all_goals first | done | omega | (intro h; exfalso; omega)
      go_simp
      refine wpAny_take (i := 6) (v := .string (s.extract (a + 1) s.size)) rfl (by kernel_rfl) (by kernel_rfl) (by kernel_rfl) (fun _ _ _ h => h) (Or.inl ⟨by rfl, ?_⟩) ?_
      · intro w
        go_simp
        all_goals first | done | omega | (intro h; exfalso; omega)
      go_simp
      refine wpAny_take (i := 7) (v := box3 ⟨#[]⟩ (s.extract 0 a) (s.extract (a + 1) s.size)) rfl (by kernel_rfl) (by kernel_rfl) (by kernel_rfl) (fun _ _ _ h => h) (Or.inl ⟨by rfl, ?_⟩) ?_
      · intro w
        go_simp
        all_goals first | done | omega | (intro h; exfalso; omega)
      go_simp
      refine wpAny_ready (rs := [8]) (by kernel_rfl) (by simp) ?_
      refine AllReady.cons rfl (fun K hK => ?_) AllReady.nil
      go_simp
      refine hK _ _ ?_
      clear hK K
      go_simp
      refine wpAny_ready (rs := [9]) (by kernel_rfl) (by simp) ?_
      refine AllReady.cons rfl (fun K hK => ?_) AllReady.nil
      go_simp
      refine hK _ _ ?_
      clear hK K
      go_simp
      refine wpAny_done (by kernel_rfl) ?_ _
      have hbA : Below w.heap.size w (w1.alloc (bx ⟨#[]⟩ lo dm)).drew := (hb1.alloc hb1.size _).drew
      have g0 : (w1.alloc (bx ⟨#[]⟩ lo dm)).drew.cell? ⟨w1.heap.size, 0, none⟩ = some (.string ⟨#[]⟩) := by simp
      have g1 : (w1.alloc (bx ⟨#[]⟩ lo dm)).drew.cell? ⟨w1.heap.size, 1, none⟩ = some (.string lo) := by simp
      have g2 : (w1.alloc (bx ⟨#[]⟩ lo dm)).drew.cell? ⟨w1.heap.size, 2, none⟩ = some (.string dm) := by simp
      have hgl : w1.heap.size < (w1.alloc (bx ⟨#[]⟩ lo dm)).drew.heap.size := by simp
      generalize (w1.alloc (bx ⟨#[]⟩ lo dm)).drew = W at *
      generalize w1.heap.size = gg at *
      clear hlo hdm hwa f1 f2 b0 b4 hb1
      cases hok : addrOk ⟨#[]⟩ lo dm
      · rw [hok] at cF
        have hr : Hid (R = 1) := show _ = _ from by rw [← hR.out, hok]; rfl
        clear hD0 cK hR
        go_wp2_with fail
        refine (cF.out W).mono ?_
        rintro e w2 ⟨rfl, hb2⟩
        simp only [dcode]
        go_wp2
        go_ret
        rw [hr.out]
        exact ⟨rfl, hbA.trans (hb2.mono hbA.size)⟩
      · rw [hok] at cF
        have hd0 := hD0 hok
        have hop := Ky.fst dm hd0
        have h8 : dm[0].toNat < 256 := UInt8.toNat_lt _
        obtain ⟨bk, hbk⟩ : ∃ b, (kt.toList == s.toList) = b := ⟨_, rfl⟩
        obtain ⟨bo, hbo⟩ : ∃ b, ((dm[0].toNat : Int) == 91) = b := ⟨_, rfl⟩
        have hr : Hid (R = dcode (bk && !bo)) := show _ = _ from by rw [← hR.out, hok, Bool.true_and, hop, hbk, hbo]
        clear hop hD0 hok hR
        have hd0I : (0 : Int) < (dm.size : Int) := by omega
        cases bk
        all_goals
          cases bo
          all_goals
            go_wp2_with fail
            refine (cF.out W).mono ?_
            rintro e w2 ⟨rfl, hb2⟩
            simp only [dcode]
            have p0 := (hb2.cell (p := ⟨gg, 0, none⟩) hgl).trans g0
            have p1 := (hb2.cell (p := ⟨gg, 1, none⟩) hgl).trans g1
            have p2 := (hb2.cell (p := ⟨gg, 2, none⟩) hgl).trans g2
            go_wp2_with fail
            refine (cK.out w2).mono ?_
            rintro e w3 ⟨rfl, hb3⟩
            have r2 := (hb3.cell (p := ⟨gg, 2, none⟩) (Nat.lt_of_lt_of_le hgl hb2.size)).trans p2
            go_wp2
            go_ret
            rw [hr.out]
            exact ⟨rfl, hbA.trans ((hb2.trans (hb3.mono hb2.size)).mono hbA.size)⟩
    · rw [decide_eq_false h4, Bool.false_and]
      have b4 : decide ((400 : Int) < (s.size : Int)) = true := by simp; omega
      clear e1 e2 hz h0 hzin
      go_enter Tryd.func11, Tryd.ntmps11
      go_wp2_with fail
      refine hA.out.mono ?_
      rintro e w1 ⟨rfl, hb1⟩
      clear hA
      go_wp2
      go_ret
      exact ⟨rfl, hb1⟩
  · rw [decide_eq_false h0, Bool.false_and]
    have b0 : decide (z < 0) = true := by simp; omega
    clear hz hzin
    go_enter Tryd.func11, Tryd.ntmps11
    go_wp2_with fail
    refine hA.out.mono ?_
    rintro e w1 ⟨rfl, hb1⟩
    clear hA
    go_wp2
    go_ret
    exact ⟨rfl, hb1⟩
end Go.Proofs.YthgjflgidalmlaaDoor
