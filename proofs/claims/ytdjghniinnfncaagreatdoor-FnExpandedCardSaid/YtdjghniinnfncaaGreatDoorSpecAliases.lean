
/- Keys of addresses: their last @; the specification's KeyFault. -/

/- Keys of addresses: the program's KeyFault. -/

/- Domains that begin with no bracket, and aliases: the specification's side. -/
import Derived.Test.YtdjghniinnfncaaGreatDoorKyDom
import Derived.Test.YtdjghniinnfncaaGreatDoorExPlain
namespace Go.Proofs.YtdjghniinnfncaaGreatDoor
open Go.RowKit Go.Lib
namespace Ky
/-- The last @ among the first bytes, or -1. -/
def lastTo (l : List UInt8) : Nat → Int
  | 0 => -1
  | n + 1 => if l[n]?.getD 0 = 64 then (n : Int) else lastTo l n
def last (l : List UInt8) : Int := lastTo l l.length
set_option maxRecDepth 20000 in
theorem lastTo_in (l : List UInt8) : ∀ n, -1 ≤ lastTo l n ∧ lastTo l n < (n : Int)
  | 0 => by simp [lastTo]
  | n + 1 => by
    unfold lastTo
    have := lastTo_in l n
    split <;> omega
set_option maxRecDepth 20000 in
theorem lastTo_yes (l : List UInt8) (n : Nat) (h : n < l.length) (h64 : l[n] = 64) : lastTo l (n + 1) = (n : Int) := by
  unfold lastTo
  rw [List.getElem?_eq_getElem h, Option.getD_some, if_pos h64]
set_option maxRecDepth 20000 in
theorem lastTo_no (l : List UInt8) (n : Nat) (h : n < l.length) (h64 : l[n] ≠ 64) : lastTo l (n + 1) = lastTo l n := by
  conv => lhs; unfold lastTo
  rw [List.getElem?_eq_getElem h, Option.getD_some, if_neg h64]
/-- What stands ahead of the last @, and behind it. -/
def loc (s : ByteArray) : ByteArray := s.extract 0 (last s.data.toList).toNat
def dom (s : ByteArray) : ByteArray := s.extract ((last s.data.toList).toNat + 1) s.size
def ok (s : ByteArray) : Bool := decide (0 ≤ last s.data.toList) && (decide (s.size ≤ 400) && (addrOk ⟨#[]⟩ (loc s) (dom s) && (((keyT ⟨#[]⟩ (loc s) (dom s)).toList == s.toList) && !open_ (dom s))))
end Ky
set_option maxRecDepth 20000 in
set_option maxHeartbeats 1000000 in
theorem specLastAt (s : ByteArray) (w : World) (hs : s.size ≤ 1100000) :
    Calls Tryz.prog 41 #[.string s] w fun e w' => e = .returned (.int .i64 (Ky.last s.data.toList)) ∧ Below w.heap.size w w' := by
  have hll : s.data.toList.length = s.size := by simp
  obtain ⟨R, hR⟩ : ∃ R, Ky.last s.data.toList = R := ⟨_, rfl⟩
  rw [hR]
  replace hR : Hid (Ky.lastTo s.data.toList s.size = R) := by rw [← hll]; exact hR
  go_enter Tryz.func41, Tryz.ntmps41
  go_wp2
  go_loopw [3] (fun iv wr => ∃ (c : Nat) (z : Int), c ≤ s.size ∧ iv = .int .i64 z ∧ z + 1 = (c : Int) ∧ Hid (Ky.lastTo s.data.toList c = R) ∧ Below w.heap.size w wr) (fun iv _ => (Lib.intOf iv + 1).toNat)
  case atStart => exact ⟨s.size, (s.size : Int) - 1, Nat.le_refl _, by go_num, by omega, hR, Below.refl _ _⟩
  case round =>
    obtain ⟨c, z, hc, rfl, hz, hRc, hb⟩ := hrel
    clear hR
    by_cases h0 : c = 0
    · subst h0
      obtain rfl : z = -1 := by omega
      have hR0 : Hid (R = -1) := show _ = _ from hRc.out.symm
      go_wp2
      go_ret
      rw [hR0.out]
      exact ⟨rfl, hb⟩
    · obtain ⟨n, rfl⟩ : ∃ n, c = n + 1 := ⟨c - 1, by omega⟩
      obtain rfl : z = (n : Int) := by omega
      have hlt : n < s.size := by omega
      have hge : decide ((0 : Int) ≤ (n : Int)) = true := by simp
      have h8 : s[n].toNat < 256 := UInt8.toNat_lt _
      by_cases h64 : s[n] = 64
      · have hRn : Hid (R = (n : Int)) := show _ = _ from by rw [← hRc.out]; exact Ky.lastTo_yes _ n (by omega) h64
        have hb64 : ((s[n].toNat : Int) == 64) = true := by rw [h64]; rfl
        clear hRc h64
        go_wp2
        go_ret
        rw [hRn.out]
        exact ⟨rfl, hb⟩
      · have hRn : Hid (Ky.lastTo s.data.toList n = R) := show _ = _ from by rw [← hRc.out]; exact (Ky.lastTo_no _ n (by omega) h64).symm
        have hb64 : ((s[n].toNat : Int) == 64) = false := by
          have : s[n].toNat ≠ 64 := fun e => h64 (UInt8.toNat_inj.1 e)
          simp; omega
        clear hRc h64
        go_wp2
        go_roundw
        case rel => exact ⟨n, (n : Int) - 1, by omega, by go_num, by omega, hRn, hb⟩
        case measure => simp [Lib.intOf]
set_option maxRecDepth 20000 in
theorem wrapK (n : Int) (h0 : -9223372036854775808 ≤ n) (h1 : n ≤ 9223372036854775807) : IntKind.i64.wrap n = n := by
  unfold IntKind.wrap
  simp [IntKind.bits, IntKind.signed]
  omega
set_option maxRecDepth 20000 in
theorem Ky.parts (s : ByteArray) (a : Nat) (h : Ky.last s.data.toList = (a : Int)) : Ky.loc s = s.extract 0 a ∧ Ky.dom s = s.extract (a + 1) s.size := by
  unfold Ky.loc Ky.dom
  rw [h, Int.toNat_natCast]
  exact ⟨rfl, rfl⟩
set_option maxRecDepth 20000 in
theorem addrOk_dom (n l d : ByteArray) (h : addrOk n l d = true) : 0 < d.size := by
  by_cases h0 : 0 < d.size
  · exact h0
  · have : d.data.toList = [] := List.length_eq_zero_iff.1 (by
      have : d.data.toList.length = d.size := by simp
      omega)
    simp only [addrOk, Bool.and_eq_true] at h
    have h2 := h.2.2.2.2.2
    rw [this] at h2
    exact absurd h2 (by decide)
set_option maxRecDepth 20000 in
set_option maxHeartbeats 2000000 in
theorem specKeyFault (s : ByteArray) (w : World) (hs : s.size ≤ 1048576) :
    Calls Tryz.prog 23 #[.string s] w fun e w' => e = .returned (.int .i64 (dcode (Ky.ok s))) ∧ Below w.heap.size w w' := by
  have hA := mkH (specLastAt s w (by omega))
  obtain ⟨z, hz⟩ : ∃ z, Ky.last s.data.toList = z := ⟨_, rfl⟩
  have hzin := Ky.lastTo_in s.data.toList s.data.toList.length
  rw [show Ky.lastTo s.data.toList s.data.toList.length = z from hz] at hzin
  have hll : s.data.toList.length = s.size := by simp
  rw [hz] at hA
  unfold Ky.ok
  rw [hz]
  by_cases h0 : 0 ≤ z
  · obtain ⟨a, rfl⟩ : ∃ a : Nat, z = (a : Int) := ⟨z.toNat, by omega⟩
    obtain ⟨e1, e2⟩ := Ky.parts s a hz
    rw [e1, e2, decide_eq_true h0, Bool.true_and]
    have b0 : decide ((a : Int) < 0) = false := by simp
    by_cases h4 : s.size ≤ 400
    · rw [decide_eq_true h4, Bool.true_and]
      have b4 : decide ((400 : Int) < (s.size : Int)) = false := by simp; omega
      have halt : a < s.size := by omega
      have hl1 : (s.extract 0 a).size ≤ 1100000 := by rw [ByteArray.size_extract]; omega
      have hl2 : (s.extract (a + 1) s.size).size ≤ 1100000 := by rw [ByteArray.size_extract]; omega
      have f1 : (a : Int) ≤ (s.size : Int) := by omega
      have f2 : (a : Int) + 1 ≤ (s.size : Int) := by omega
      have hD0 := addrOk_dom ⟨#[]⟩ (s.extract 0 a) (s.extract (a + 1) s.size)
      obtain ⟨lo, hlo⟩ : ∃ lo, s.extract 0 a = lo := ⟨_, rfl⟩
      obtain ⟨dm, hdm⟩ : ∃ dm, s.extract (a + 1) s.size = dm := ⟨_, rfl⟩
      rw [hlo] at hl1
      rw [hdm] at hl2
      rw [hlo, hdm] at hD0 ⊢
      have cF := mkH (fun w => specAddress ⟨#[]⟩ lo dm w (by decide) hl1 hl2)
      have cK := mkH (fun w => specKey ⟨#[]⟩ lo dm w (by decide) hl1 hl2)
      generalize keyT ⟨#[]⟩ lo dm = kt at *
      have hwa := wrapK ((a : Int) + 1) (by omega) (by omega)
      obtain ⟨R, hR⟩ : ∃ R, dcode (addrOk ⟨#[]⟩ lo dm && ((kt.toList == s.toList) && !Ky.open_ dm)) = R := ⟨_, rfl⟩
      rw [hR]
      replace hR := mkH hR
      clear e1 e2 hz h0 hzin
      go_enter Tryz.func23, Tryz.ntmps23
      go_wp2_with fail
      refine hA.out.mono ?_
      rintro e w1 ⟨rfl, hb1⟩
      clear hA
      go_wp2
      refine wp_region_any (by kernel_rfl) ?_
      refine wpAny_take (i := 0) (v := .string s) rfl (by kernel_rfl) (by kernel_rfl) (by kernel_rfl) (fun _ _ _ h => h) (Or.inl ⟨by rfl, ?_⟩) ?_
      · intro w
        go_simp
        all_goals first | done | omega | (intro h; exfalso; omega)
      go_simp
      refine wpAny_take (i := 1) (v := .int .i64 a) rfl (by kernel_rfl) (by kernel_rfl) (by kernel_rfl) (fun _ _ _ h => h) (Or.inl ⟨by rfl, ?_⟩) ?_
      · intro w
        go_simp
        all_goals first | done | omega | (intro h; exfalso; omega)
      go_simp
      refine wpAny_take (i := 2) (v := .string (s.extract 0 a)) rfl (by kernel_rfl) (by kernel_rfl) (by kernel_rfl) (fun _ _ _ h => h) (Or.inl ⟨by rfl, ?_⟩) ?_
      · intro w
        go_simp
        all_goals first | done | omega | (intro h; exfalso; omega)
      go_simp
      refine wpAny_take (i := 3) (v := .string s) rfl (by kernel_rfl) (by kernel_rfl) (by kernel_rfl) (fun _ _ _ h => h) (Or.inl ⟨by rfl, ?_⟩) ?_
      · intro w
        go_simp
        all_goals first | done | omega | (intro h; exfalso; omega)
      go_simp
      refine wpAny_take (i := 4) (v := .int .i64 a) rfl (by kernel_rfl) (by kernel_rfl) (by kernel_rfl) (fun _ _ _ h => h) (Or.inl ⟨by rfl, ?_⟩) ?_
      · intro w
        go_simp
        all_goals first | done | omega | (intro h; exfalso; omega)
      go_simp
      refine wpAny_take (i := 5) (v := .int .i64 ((a : Int) + 1)) rfl (by kernel_rfl) (by kernel_rfl) (by kernel_rfl) (fun _ _ _ h => h) (Or.inl ⟨by rfl, ?_⟩) ?_
      · intro w
        go_simp
        all_goals first | done | omega | (intro h; exfalso; omega)
      go_simp
      refine wpAny_take (i := 6) (v := .string (s.extract (a + 1) s.size)) rfl (by kernel_rfl) (by kernel_rfl) (by kernel_rfl) (fun _ _ _ h => h) (Or.inl ⟨by rfl, ?_⟩) ?_
      · intro w
        go_simp
        all_goals first | done | omega | (intro h; exfalso; omega)
      go_simp
      refine wpAny_take (i := 7) (v := box3 ⟨#[]⟩ (s.extract 0 a) (s.extract (a + 1) s.size)) rfl (by kernel_rfl) (by kernel_rfl) (by kernel_rfl) (fun _ _ _ h => h) (Or.inl ⟨by rfl, ?_⟩) ?_
      · intro w
        go_simp
        all_goals first | done | omega | (intro h; exfalso; omega)
      go_simp
      refine wpAny_ready (rs := [8]) (by kernel_rfl) (by simp) ?_
      refine AllReady.cons rfl (fun K hK => ?_) AllReady.nil
      go_simp
      refine hK _ _ ?_
      clear hK K
      go_simp
      refine wpAny_ready (rs := [9]) (by kernel_rfl) (by simp) ?_
      refine AllReady.cons rfl (fun K hK => ?_) AllReady.nil
      go_simp
      refine hK _ _ ?_
      clear hK K
      go_simp
      refine wpAny_done (by kernel_rfl) ?_ _
      have hbA : Below w.heap.size w (w1.alloc (bx ⟨#[]⟩ lo dm)).drew := (hb1.alloc hb1.size _).drew
      have g0 : (w1.alloc (bx ⟨#[]⟩ lo dm)).drew.cell? ⟨w1.heap.size, 0, none⟩ = some (.string ⟨#[]⟩) := by simp
      have g1 : (w1.alloc (bx ⟨#[]⟩ lo dm)).drew.cell? ⟨w1.heap.size, 1, none⟩ = some (.string lo) := by simp
      have g2 : (w1.alloc (bx ⟨#[]⟩ lo dm)).drew.cell? ⟨w1.heap.size, 2, none⟩ = some (.string dm) := by simp
      have hgl : w1.heap.size < (w1.alloc (bx ⟨#[]⟩ lo dm)).drew.heap.size := by simp
      generalize (w1.alloc (bx ⟨#[]⟩ lo dm)).drew = W at *
      generalize w1.heap.size = gg at *
      clear hlo hdm hwa f1 f2 b0 b4 hb1
      cases hok : addrOk ⟨#[]⟩ lo dm
      · rw [hok] at cF
        have hr : Hid (R = 1) := show _ = _ from by rw [← hR.out, hok]; rfl
        clear hD0 cK hR
        go_wp2_with fail
        refine (cF.out W).mono ?_
        rintro e w2 ⟨rfl, hb2⟩
        simp only [dcode]
        go_wp2
        go_ret
        rw [hr.out]
        exact ⟨rfl, hbA.trans (hb2.mono hbA.size)⟩
      · rw [hok] at cF
        have hd0 := hD0 hok
        have hop := Ky.fst dm hd0
        have h8 : dm[0].toNat < 256 := UInt8.toNat_lt _
        obtain ⟨bk, hbk⟩ : ∃ b, (kt.toList == s.toList) = b := ⟨_, rfl⟩
        obtain ⟨bo, hbo⟩ : ∃ b, ((dm[0].toNat : Int) == 91) = b := ⟨_, rfl⟩
        have hr : Hid (R = dcode (bk && !bo)) := show _ = _ from by rw [← hR.out, hok, Bool.true_and, hop, hbk, hbo]
        clear hop hD0 hok hR
        have hd0I : (0 : Int) < (dm.size : Int) := by omega
        cases bk
        all_goals
          cases bo
          all_goals
            go_wp2_with fail
            refine (cF.out W).mono ?_
            rintro e w2 ⟨rfl, hb2⟩
            simp only [dcode]
            have p0 := (hb2.cell (p := ⟨gg, 0, none⟩) hgl).trans g0
            have p1 := (hb2.cell (p := ⟨gg, 1, none⟩) hgl).trans g1
            have p2 := (hb2.cell (p := ⟨gg, 2, none⟩) hgl).trans g2
            go_wp2_with fail
            refine (cK.out w2).mono ?_
            rintro e w3 ⟨rfl, hb3⟩
            have r2 := (hb3.cell (p := ⟨gg, 2, none⟩) (Nat.lt_of_lt_of_le hgl hb2.size)).trans p2
            go_wp2
            go_ret
            rw [hr.out]
            exact ⟨rfl, hbA.trans ((hb2.trans (hb3.mono hb2.size)).mono hbA.size)⟩
    · rw [decide_eq_false h4, Bool.false_and]
      have b4 : decide ((400 : Int) < (s.size : Int)) = true := by simp; omega
      clear e1 e2 hz h0 hzin
      go_enter Tryz.func23, Tryz.ntmps23
      go_wp2_with fail
      refine hA.out.mono ?_
      rintro e w1 ⟨rfl, hb1⟩
      clear hA
      go_wp2
      go_ret
      exact ⟨rfl, hb1⟩
  · rw [decide_eq_false h0, Bool.false_and]
    have b0 : decide (z < 0) = true := by simp; omega
    clear hz hzin
    go_enter Tryz.func23, Tryz.ntmps23
    go_wp2_with fail
    refine hA.out.mono ?_
    rintro e w1 ⟨rfl, hb1⟩
    clear hA
    go_wp2
    go_ret
    exact ⟨rfl, hb1⟩
end Go.Proofs.YtdjghniinnfncaaGreatDoor
namespace Go.Proofs.YtdjghniinnfncaaGreatDoor
open Go.RowKit Go.Lib
namespace Ky
set_option maxRecDepth 20000 in
theorem last_get (l : List UInt8) : ∀ (n a : Nat), n ≤ l.length → lastTo l n = (a : Int) → l[a]? = some 64
  | 0, a, _, h => by simp [lastTo] at h
  | n + 1, a, hn, h => by
    unfold lastTo at h
    rw [List.getElem?_eq_getElem (by omega : n < l.length), Option.getD_some] at h
    by_cases h64 : l[n]'(by omega) = 64
    · rw [if_pos h64] at h
      obtain rfl : n = a := by omega
      rw [List.getElem?_eq_getElem (by omega), h64]
    · rw [if_neg h64] at h
      exact last_get l n a (by omega) h
/-- What stands behind the last @, or all. -/
def domP (s : ByteArray) : ByteArray := s.extract (last s.data.toList + 1).toNat s.size
set_option maxRecDepth 20000 in
theorem domP_size (s : ByteArray) : (domP s).size ≤ s.size := by unfold domP; rw [ByteArray.size_extract]; omega
set_option maxRecDepth 20000 in
theorem parts_back (s : ByteArray) (a : Nat) (h : last s.data.toList = (a : Int)) : s = loc s ++ (⟨#[64]⟩ ++ dom s) ∧ domP s = dom s ∧ a < s.size := by
  have hlt : a < s.size := by
    have := (lastTo_in s.data.toList s.data.toList.length).2
    have hl : s.data.toList.length = s.size := by simp
    unfold last at h
    omega
  have hg := last_get s.data.toList _ a (Nat.le_refl _) h
  refine ⟨?_, ?_, hlt⟩
  · unfold loc dom
    rw [h, Int.toNat_natCast]
    apply ByteArray.ext
    apply Array.toList_inj.1
    simp only [ByteArray.data_append, ByteArray.data_extract, Array.toList_append, Array.toList_extract, List.extract_eq_take_drop]
    have hl : s.data.toList.length = s.size := by simp
    have hla : a < s.data.toList.length := by omega
    rw [List.getElem?_eq_getElem hla, Option.some_inj] at hg
    have e1 : s.data.toList = s.data.toList.take a ++ s.data.toList.drop a := (List.take_append_drop a _).symm
    have e2 : s.data.toList.drop a = 64 :: s.data.toList.drop (a + 1) := by rw [List.drop_eq_getElem_cons hla, hg]
    conv => lhs; rw [e1, e2]
    rw [List.take_of_length_le (l := s.data.toList.drop (a + 1)) (by simp)]
    simp
  · unfold domP dom
    rw [h, Int.toNat_natCast, show ((a : Int) + 1).toNat = a + 1 by omega]
set_option maxRecDepth 20000 in
theorem addr_dom (n l d : ByteArray) (h : addrOk n l d = true) : Pl.domI d.data.toList = true := by
  simp only [addrOk, Bool.and_eq_true] at h
  exact h.2.2.2.2.2
set_option maxRecDepth 20000 in
theorem ok_yes (s : ByteArray) (a : Nat) (h : last s.data.toList = (a : Int)) : ok s = (dok (dom s) && ((keyT ⟨#[]⟩ (loc s) (dom s)).toList == s.toList)) := by
  obtain ⟨hb, -, hlt⟩ := parts_back s a h
  have hsz : s.size = (loc s).size + (1 + (dom s).size) := by
    have := congrArg ByteArray.size hb
    rw [ByteArray.size_append, ByteArray.size_append] at this
    exact this
  unfold ok
  rw [h, decide_eq_true (by omega : (0 : Int) ≤ (a : Int)), Bool.true_and]
  cases hA : addrOk ⟨#[]⟩ (loc s) (dom s)
  · have hk : keyT ⟨#[]⟩ (loc s) (dom s) = ⟨#[]⟩ := by unfold keyT; rw [hA]; rfl
    have hne : ((keyT ⟨#[]⟩ (loc s) (dom s)).toList == s.toList) = false := by
      rw [hk, beq_eq_false_iff_ne]
      intro e
      rw [ByteArray.toList_eq, ByteArray.toList_eq] at e
      have := congrArg List.length e
      simp at this
      omega
    rw [hne]
    simp
  · have hd := addr_dom _ _ _ hA
    obtain ⟨-, s1, s2⟩ := addrOk_sizes _ _ _ hA
    rw [decide_eq_true (by omega : s.size ≤ 400), dok, hd]
    cases open_ (dom s) <;> cases ((keyT ⟨#[]⟩ (loc s) (dom s)).toList == s.toList) <;> rfl
set_option maxRecDepth 20000 in
theorem ok_no (s : ByteArray) (h : last s.data.toList = -1) : ok s = false := by
  unfold ok
  rw [h]
  rfl
set_option maxRecDepth 20000 in
theorem cut_yes (s : ByteArray) (a : Nat) (h : last s.data.toList = (a : Int)) : hasSuffix s.data.toList (⟨#[64]⟩ ++ domP s).data.toList = true ∧ (⟨(trimSuffix s.data.toList (⟨#[64]⟩ ++ domP s).data.toList).toArray⟩ : ByteArray) = loc s := by
  obtain ⟨hb, hd, -⟩ := parts_back s a h
  rw [hd]
  have e : s.data.toList = (loc s).data.toList ++ (⟨#[64]⟩ ++ dom s : ByteArray).data.toList := by
    conv => lhs; rw [hb]
    simp
  generalize (⟨#[64]⟩ ++ dom s : ByteArray).data.toList = x at *
  have hs : hasSuffix s.data.toList x = true := by
    rw [e, hasSuffix]
    simp [List.isSuffixOf]
  refine ⟨hs, ?_⟩
  rw [trimSuffix, if_pos hs, e]
  apply ByteArray.ext
  apply Array.toList_inj.1
  simp
set_option maxRecDepth 20000 in
theorem cut_no (s : ByteArray) (h : last s.data.toList = -1) : hasSuffix s.data.toList (⟨#[64]⟩ ++ domP s).data.toList = false := by
  have e : domP s = s := by
    unfold domP
    rw [h]
    simp
  rw [e, Bool.eq_false_iff]
  intro hs
  rw [hasSuffix, List.isSuffixOf_iff_suffix] at hs
  have := hs.length_le
  simp at this
  omega
end Ky
set_option maxRecDepth 20000 in
set_option maxHeartbeats 1000000 in
theorem libLastString (s : ByteArray) (w : World) (hs : s.size ≤ 1100000) :
    Calls Tryz.prog 74 #[.string s, .int .u8 64] w fun e w' => e = .returned (.int .i64 (Ky.last s.data.toList)) ∧ Below w.heap.size w w' := by
  have hll : s.data.toList.length = s.size := by simp
  obtain ⟨R, hR⟩ : ∃ R, Ky.last s.data.toList = R := ⟨_, rfl⟩
  rw [hR]
  replace hR : Hid (Ky.lastTo s.data.toList s.size = R) := by rw [← hll]; exact hR
  go_enter Tryz.func74, Tryz.ntmps74
  go_wp2
  go_loopw [5] (fun iv wr => ∃ (c : Nat) (z : Int), c ≤ s.size ∧ iv = .int .i64 z ∧ z + 1 = (c : Int) ∧ Hid (Ky.lastTo s.data.toList c = R) ∧ Below w.heap.size w wr) (fun iv _ => (Lib.intOf iv + 1).toNat)
  case atStart => exact ⟨s.size, (s.size : Int) - 1, Nat.le_refl _, by go_num, by omega, hR, Below.refl _ _⟩
  case round =>
    obtain ⟨c, z, hc, rfl, hz, hRc, hb⟩ := hrel
    clear hR
    by_cases h0 : c = 0
    · subst h0
      obtain rfl : z = -1 := by omega
      have hR0 : Hid (R = -1) := show _ = _ from hRc.out.symm
      go_wp2
      go_ret
      rw [hR0.out]
      exact ⟨rfl, hb⟩
    · obtain ⟨n, rfl⟩ : ∃ n, c = n + 1 := ⟨c - 1, by omega⟩
      obtain rfl : z = (n : Int) := by omega
      have hlt : n < s.size := by omega
      have hge : decide ((0 : Int) ≤ (n : Int)) = true := by simp
      have h8 : s[n].toNat < 256 := UInt8.toNat_lt _
      by_cases h64 : s[n] = 64
      · have hRn : Hid (R = (n : Int)) := show _ = _ from by rw [← hRc.out]; exact Ky.lastTo_yes _ n (by omega) h64
        have hb64 : ((s[n].toNat : Int) == 64) = true := by rw [h64]; rfl
        clear hRc h64
        go_wp2
        go_ret
        rw [hRn.out]
        exact ⟨rfl, hb⟩
      · have hRn : Hid (Ky.lastTo s.data.toList n = R) := show _ = _ from by rw [← hRc.out]; exact (Ky.lastTo_no _ n (by omega) h64).symm
        have hb64 : ((s[n].toNat : Int) == 64) = false := by
          have : s[n].toNat ≠ 64 := fun e => h64 (UInt8.toNat_inj.1 e)
          simp; omega
        clear hRc h64
        go_wp2
        go_roundw
        case rel => exact ⟨n, (n : Int) - 1, by omega, by go_num, by omega, hRn, hb⟩
        case measure => simp [Lib.intOf]
set_option maxRecDepth 20000 in
theorem libLastByte (s : ByteArray) (w : World) (hs : s.size ≤ 1100000) :
    Calls Tryz.prog 57 #[.string s, .int .u8 64] w fun e w' => e = .returned (.int .i64 (Ky.last s.data.toList)) ∧ Below w.heap.size w w' := by
  have hA := mkH (libLastString s w hs)
  generalize Ky.last s.data.toList = z at *
  go_enter Tryz.func57, Tryz.ntmps57
  go_wp2_with fail
  refine hA.out.mono ?_
  rintro e w1 ⟨rfl, hb1⟩
  go_wp2
  go_ret
  exact ⟨rfl, hb1⟩
set_option maxRecDepth 20000 in
set_option maxHeartbeats 1000000 in
theorem implDomainOf (s : ByteArray) (w : World) (hs : s.size ≤ 1100000) :
    Calls Tryz.prog 36 #[.string s] w fun e w' => e = .returned (.string (Ky.domP s)) ∧ Below w.heap.size w w' := by
  have hA := mkH (libLastByte s w hs)
  have hin := Ky.lastTo_in s.data.toList s.data.toList.length
  have hll : s.data.toList.length = s.size := by simp
  unfold Ky.domP
  obtain ⟨z, hz⟩ : ∃ z, Ky.last s.data.toList = z := ⟨_, rfl⟩
  rw [show Ky.lastTo s.data.toList s.data.toList.length = z from hz, hll] at hin
  rw [hz] at hA ⊢
  clear hz hll
  obtain ⟨k, hk⟩ : ∃ k : Nat, z + 1 = (k : Int) := ⟨(z + 1).toNat, by omega⟩
  have hks : k ≤ s.size := by omega
  rw [hk, Int.toNat_natCast]
  have hw := wrapK (k : Int) (by omega) (by omega)
  have f1 : (k : Int) ≤ (s.size : Int) := by omega
  go_enter Tryz.func36, Tryz.ntmps36
  go_wp2_with fail
  refine hA.out.mono ?_
  rintro e w1 ⟨rfl, hb1⟩
  go_wp2
  go_ret
  exact ⟨rfl, hb1⟩
set_option maxRecDepth 20000 in
set_option maxHeartbeats 2000000 in
theorem implIsKey (s : ByteArray) (m : Int) (w : World) (hs : s.size ≤ 1048576) (hm : w.cell? ⟨0, 0, none⟩ = some (.int .i64 m)) :
    Calls Tryz.prog 19 #[.string s] w fun e w' => e = .returned (.bool (Ky.ok s)) ∧ Below w.heap.size w w' := by
  have hlt := bcell_lt hm
  have hO := mkH (implDomainOf s w (by omega))
  have hds := Ky.domP_size s
  have hC := mkH (fun w => Tryz.strings_CutSuffix s (⟨#[64]⟩ ++ Ky.domP s) w (by omega))
  have hN := mkH (fun (w : World) (hm : w.cell? ⟨0, 0, none⟩ = some (.int .i64 m)) => implDomainName (Ky.domP s) m w (by omega) hm)
  have Hm := mkH hm
  have hl1 : ¬ 9223372036854775807 < (ByteArray.mk #[64]).size + (Ky.domP s).size := by
    have : (ByteArray.mk #[64]).size = 1 := rfl
    omega
  have hin := Ky.lastTo_in s.data.toList s.data.toList.length
  have hl2 : (Ky.loc s).size ≤ 1100000 := by unfold Ky.loc; rw [ByteArray.size_extract]; omega
  have hK := mkH (fun (w : World) (hm : w.cell? ⟨0, 0, none⟩ = some (.int .i64 m)) => implKey ⟨#[]⟩ (Ky.loc s) (Ky.domP s) m w (by decide) hl2 (by omega) hm)
  clear hm
  by_cases h0 : Ky.last s.data.toList = -1
  · rw [Ky.ok_no s h0]
    have hno := Ky.cut_no s h0
    rw [hno] at hC
    generalize Ky.domP s = d at *
    generalize Ky.loc s = lo at *
    generalize (ByteArray.mk (trimSuffix s.data.toList (⟨#[64]⟩ ++ d).data.toList).toArray) = r at *
    clear h0 hno hin
    go_enter Tryz.func19, Tryz.ntmps19
    go_wp2_with fail
    refine hO.out.mono ?_
    rintro e w1 ⟨rfl, hb1⟩
    go_wp2_with first | (go_at_call 37; go_must (refine (hC.out _).mono ?_; rintro e w3 ⟨rfl, rfl⟩))
    go_ret
    exact ⟨rfl, hb1⟩
  · obtain ⟨a, ha⟩ : ∃ a : Nat, Ky.last s.data.toList = (a : Int) := ⟨(Ky.last s.data.toList).toNat, by
      have : Ky.last s.data.toList = Ky.lastTo s.data.toList s.data.toList.length := rfl
      omega⟩
    rw [Ky.ok_yes s a ha]
    obtain ⟨c1, c2⟩ := Ky.cut_yes s a ha
    obtain ⟨-, hpd, -⟩ := Ky.parts_back s a ha
    rw [c1, c2] at hC
    rw [← hpd]
    clear c1 c2 ha h0 hin hpd
    generalize Ky.domP s = d at *
    generalize Ky.loc s = lo at *
    generalize keyT ⟨#[]⟩ lo d = kt at *
    generalize Ky.dok d = b1 at *
    obtain ⟨b2, hb2⟩ : ∃ b2, (kt.toList == s.toList) = b2 := ⟨_, rfl⟩
    rw [hb2]
    cases b1
    · go_enter Tryz.func19, Tryz.ntmps19
      go_wp2_with fail
      refine hO.out.mono ?_
      rintro e w1 ⟨rfl, hb1⟩
      go_wp2_with first | (go_at_call 37; go_must (refine (hC.out _).mono ?_; rintro e w3 ⟨rfl, rfl⟩)) | (go_at_call 38; go_must (refine (hN.out _ ((hb1.cell hlt).trans Hm.out)).mono ?_; rintro e w4 ⟨rfl, hb4⟩))
      go_ret
      exact ⟨rfl, hb1.trans (hb4.mono hb1.size)⟩
    · go_enter Tryz.func19, Tryz.ntmps19
      go_wp2_with fail
      refine hO.out.mono ?_
      rintro e w1 ⟨rfl, hb1⟩
      go_wp2_with first | (go_at_call 37; go_must (refine (hC.out _).mono ?_; rintro e w3 ⟨rfl, rfl⟩)) | (go_at_call 38; go_must (refine (hN.out _ ((hb1.cell hlt).trans Hm.out)).mono ?_; rintro e w4 ⟨rfl, hb4⟩)) | (go_at_call 39; go_must (refine (hK.out _ (((hb1.trans (hb4.mono hb1.size)).cell hlt).trans Hm.out)).mono ?_; rintro e w5 ⟨rfl, hb5⟩))
      go_ret
      rw [Bool.true_and]
      exact ⟨rfl, (hb1.trans (hb4.mono hb1.size)).trans (hb5.mono (hb1.trans (hb4.mono hb1.size)).size)⟩
end Go.Proofs.YtdjghniinnfncaaGreatDoor
namespace Go.Proofs.YtdjghniinnfncaaGreatDoor
open Go.RowKit Go.Lib Go.Maps
namespace Ky
def aok (a : GAlias) : Bool := ok a.name && (decide (a.toF.length ≤ 100) && a.toF.all ok)
def asok (F : List GAlias) : Bool := decide (F.length ≤ 100) && F.all aok
set_option maxRecDepth 20000 in
theorem all_drop {α : Type} (K : α → Bool) (F : List α) (k : Nat) (h : k < F.length) : (F.drop k).all K = (K F[k] && (F.drop (k + 1)).all K) := by
  rw [List.drop_eq_getElem_cons h, List.all_cons]
set_option maxRecDepth 20000 in
theorem all_end {α : Type} (K : α → Bool) (F : List α) (k : Nat) (h : F.length ≤ k) : (F.drop k).all K = true := by
  rw [List.drop_eq_nil_of_le h, List.all_nil]
end Ky
set_option maxRecDepth 20000 in
theorem code_bne (b : Bool) : (dcode b != 0) = !b := by cases b <;> rfl
set_option maxRecDepth 20000 in
set_option maxHeartbeats 4000000 in
theorem specAliases (o : Option Addr) (F : List GAlias) (cap lo : Nat) (w : World) (hF : GAliassL lo w.heap.size w o F) (hlF : F.length ≤ 1048576) (hfit : ∀ n ∈ F, n.fits 1048576) :
    Calls Tryz.prog 22 #[.slice o F.length cap] w fun e w' => e = .returned (.bool (Ky.asok F)) ∧ Below w.heap.size w w' := by
  obtain ⟨R, hR⟩ : ∃ R, Ky.asok F = R := ⟨_, rfl⟩
  rw [hR]
  by_cases h1 : F.length ≤ 100
  · have b1 : decide ((100 : Int) < (F.length : Int)) = false := by simp; omega
    rw [Ky.asok, decide_eq_true h1, Bool.true_and] at hR
    replace hR : Hid ((F.drop 0).all Ky.aok = R) := hR
    have HF := mkHid hF
    have Hfit := mkHid hfit
    clear hF hfit
    go_enter Tryz.func22, Tryz.ntmps22
    go_wp2
    generalize hG : w.heap.size = G at *
    go_loopw [3] (fun iv wr => ∃ i : Nat, i ≤ F.length ∧ iv = .int .i64 i ∧ Hid ((F.drop i).all Ky.aok = R) ∧ Below G w wr) (fun iv _ => F.length - (Lib.intOf iv).toNat)
    case atStart => exact ⟨0, Nat.zero_le _, rfl, hR, hG ▸ Below.refl _ _⟩
    case round =>
      clear hR
      obtain ⟨i, hi', rfl, hR, hb⟩ := hrel
      by_cases hlt : i < F.length
      · obtain ⟨a, v1, rfl, ha0, ha, hA0, hI⟩ := HF.out i hlt
        have hA := hA0.same (Same.of_below (lo := lo) hb (Nat.le_refl _)) (by rw [add_blockG]; exact ha0) (by rw [add_blockG]; exact ha)
        obtain ⟨⟨a1, e1, rfl, t1⟩⟩ := hI
        have hst : Hid (R = (Ky.aok F[i] && (F.drop (i + 1)).all Ky.aok)) := show _ = _ from by rw [← hR.out]; exact Ky.all_drop _ _ _ hlt
        obtain ⟨f1, f2, f3⟩ := Hfit.out F[i] (List.getElem_mem hlt)
        have c0 := hA.c0
        have c1 := hA.c1
        have HA0 := mkHid hA0
        have T1 := mkHid t1
        have Hf3 := mkHid f3
        have cK := mkHid (specKeyFault F[i].name wr f1)
        obtain ⟨rest, hrest⟩ : ∃ b, (F.drop (i + 1)).all Ky.aok = b := ⟨_, rfl⟩
        rw [hrest] at hst
        have hsz := hb.size
        have Hha : Hid (lo ≤ (a.add (i * 2)).block ∧ (a.add (i * 2)).block < G) := ⟨by rw [add_blockG]; exact ha0, by rw [add_blockG]; exact ha⟩
        replace hrest := mkHid hrest
        clear hA hA0 t1 f3 hR
        generalize F[i] = n at *
        cases hn : Ky.ok n.name
        · rw [hn] at cK
          have hr : Hid (R = false) := show _ = _ from by rw [hst.out, Ky.aok, hn, Bool.false_and, Bool.false_and]
          clear hn
          go_wp2_with fail
          refine cK.out.mono ?_
          rintro e w1 ⟨rfl, hb1⟩
          simp only [dcode]
          go_wp2
          go_ret
          rw [hr.out]
          first | exact ⟨rfl, hb.trans (hb1.mono (hG ▸ hsz))⟩ | (rw [hG]; exact ⟨rfl, hb.trans (hb1.mono (hG ▸ hsz))⟩)
        · rw [hn] at cK
          go_wp2_with fail
          refine cK.out.mono ?_
          rintro e w1 ⟨rfl, hb1⟩
          simp only [dcode]
          have hbw := hb.trans (hb1.mono (hG ▸ hsz))
          have hA1 := HA0.out.same (Same.of_below (lo := lo) hbw (Nat.le_refl _)) Hha.out.1 Hha.out.2
          have d1 := hA1.c1
          clear cK hb1 hA1 hb c0 c1
          by_cases h2 : n.toF.length ≤ 100
          · have b2 : decide ((100 : Int) < (n.toF.length : Int)) = false := by simp; omega
            have hin0 : Hid (((n.toF.drop 0).all Ky.ok && rest) = R) := show _ = _ from by rw [hst.out, Ky.aok, hn, decide_eq_true h2, Bool.true_and, Bool.true_and, List.drop_zero]
            clear hst hn
            go_wp2
            clear d1
            go_loopw [4] (fun kv wr => ∃ k : Nat, k ≤ n.toF.length ∧ kv = .int .i64 k ∧ Hid (((n.toF.drop k).all Ky.ok && rest) = R) ∧ Below G w wr) (fun kv _ => n.toF.length - (Lib.intOf kv).toNat)
            case atStart => exact ⟨0, Nat.zero_le _, rfl, hin0, hbw⟩
            case round =>
              clear hin0 hbw
              obtain ⟨k, hk, rfl, hRk, hb⟩ := hrel
              have hA1 := HA0.out.same (Same.of_below (lo := lo) hb (Nat.le_refl _)) Hha.out.1 Hha.out.2
              have d1 := hA1.c1
              have hsz := hb.size
              by_cases hkl : k < n.toF.length
              · obtain ⟨b, rfl, hb0, hb1, ck⟩ := (T1.out.below hb (Nat.le_refl _)) k hkl
                have cT := mkHid (specKeyFault n.toF[k] wr (Hf3.out _ (List.getElem_mem hkl)))
                have hst : Hid (R = (Ky.ok n.toF[k] && (n.toF.drop (k + 1)).all Ky.ok && rest)) := show _ = _ from by rw [← hRk.out, Ky.all_drop _ _ _ hkl]
                clear hRk hA1
                generalize n.toF[k] = t at *
                cases ht : Ky.ok t
                · rw [ht] at cT
                  have hr : Hid (R = false) := show _ = _ from by rw [hst.out, ht]; rfl
                  clear ht
                  go_wp2_with fail
                  refine cT.out.mono ?_
                  rintro e w2 ⟨rfl, hb2⟩
                  simp only [dcode]
                  go_wp2
                  go_ret
                  rw [hr.out]
                  first | exact ⟨rfl, hb.trans (hb2.mono (hG ▸ hsz))⟩ | (rw [hG]; exact ⟨rfl, hb.trans (hb2.mono (hG ▸ hsz))⟩)
                · rw [ht] at cT
                  have hr : Hid (((n.toF.drop (k + 1)).all Ky.ok && rest) = R) := show _ = _ from by rw [hst.out, ht, Bool.true_and]
                  clear ht
                  go_wp2_with fail
                  refine cT.out.mono ?_
                  rintro e w2 ⟨rfl, hb2⟩
                  simp only [dcode]
                  go_wp2
                  go_roundw
                  case rel => exact ⟨k + 1, by omega, by go_num, hr, hb.trans (hb2.mono (hG ▸ hsz))⟩
                  case measure => simp [Lib.intOf]; omega
              · have hr : Hid (rest = R) := show _ = _ from by rw [← hRk.out, Ky.all_end _ _ _ (by omega), Bool.true_and]
                clear hRk
                go_wp2
                go_roundw
                case rel => exact ⟨i + 1, by omega, by go_num, show _ = _ from hrest.out.trans hr.out, hb⟩
                case measure => simp [Lib.intOf]; omega
          · have b2 : decide ((100 : Int) < (n.toF.length : Int)) = true := by simp; omega
            have hr : Hid (R = false) := show _ = _ from by rw [hst.out, Ky.aok, hn, decide_eq_false h2, Bool.false_and, Bool.and_false, Bool.false_and]
            clear hst hn
            go_wp2
            go_ret
            rw [hr.out]
            first | exact ⟨rfl, hbw⟩ | (rw [hG]; exact ⟨rfl, hbw⟩)
      · have hr : Hid (R = true) := show _ = _ from by rw [← hR.out]; exact Ky.all_end _ _ _ (by omega)
        go_wp2
        go_ret
        rw [hr.out]
        first | exact ⟨rfl, hb⟩ | (rw [hG]; exact ⟨rfl, hb⟩)
  · have b1 : decide ((100 : Int) < (F.length : Int)) = true := by simp; omega
    have hr : Hid (R = false) := show _ = _ from by rw [← hR, Ky.asok, decide_eq_false h1, Bool.false_and]
    clear hF hfit hR h1
    go_enter Tryz.func22, Tryz.ntmps22
    go_wp2
    go_ret
    rw [hr.out]
    exact ⟨rfl, Below.refl _ _⟩
end Go.Proofs.YtdjghniinnfncaaGreatDoor
