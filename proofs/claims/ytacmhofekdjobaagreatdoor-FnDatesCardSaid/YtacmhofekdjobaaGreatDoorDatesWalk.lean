
/- The walk of the law on dates. -/
import Derived.Test.YtacmhofekdjobaaGreatDoorDateBoth
import Derived.Test.YtacmhofekdjobaaGreatDoorDrawDate
namespace Go.Proofs.YtacmhofekdjobaaGreatDoor
open Go.RowKit Go.Lib
set_option maxRecDepth 20000 in
theorem row3 {w : World} {b : Nat} {x y z : Value} {t : TypeId} {f : Nat × Nat} (h : w.heap[b]? = some (.cells #[x, y, z] t f)) : w.cell? ⟨b, 0, none⟩ = some x ∧ w.cell? ⟨b, 1, none⟩ = some y ∧ w.cell? ⟨b, 2, none⟩ = some z := by
  refine ⟨?_, ?_, ?_⟩ <;> simp [World.cell?, h]
set_option maxRecDepth 20000 in
set_option maxHeartbeats 4000000 in
theorem walkDates (o : Option Addr) (c : List UInt8) (cp : Nat) (w : World) (hc : Code w.heap.size w o c) (hl : c.length ≤ maxLen) (hM : MTab w) (hN : DTab w) (hP : PTab w) :
    Calls Tryz.prog 3 #[.slice o c.length cp] w fun e w' => e = .returned (.bool true) ∧ Below w.heap.size w w' := by
  unfold maxLen at hl
  by_cases hbig : 1048576 < c.length
  · clear hc hM hN hP
    go_enter Tryz.func3, Tryz.ntmps3
    go_wp2
    go_ret
    exact ⟨rfl, Below.refl _ _⟩
  have hD := drawDate o c cp w hc (by omega)
  have HM := mkH hM
  have HN := mkH hN
  have HP := mkH hP
  clear hc hM hN hP
  go_enter Tryz.func3, Tryz.ntmps3
  go_wp2_with fail
  refine hD.mono ?_
  rintro e w1 ⟨x, z, rfl, hb1⟩
  clear hD
  have Hb1 := mkH hb1
  clear hb1
  have cI := mkH (implDate x z w1 (HM.out.on Hb1.out) (HN.out.on Hb1.out) (ptab_on HP.out Hb1.out))
  go_wp2_with fail
  refine cI.out.mono ?_
  rintro e w2 ⟨rfl, hb2⟩
  have Hb2 := mkH (Hb1.out.trans (hb2.mono Hb1.out.size))
  clear cI hb2 Hb1
  have cS := mkH (specDate x z w2)
  go_wp2_with fail
  refine cS.out.mono ?_
  rintro e w3 ⟨rfl, hb3⟩
  have Hb3 := mkH (Hb2.out.trans (hb3.mono Hb2.out.size))
  clear cS hb3 Hb2
  cases hok : okD x z
  · have e1 : fullT x z = ⟨#[]⟩ := by rw [fullT, hok]; rfl
    have cT := mkH (implStamp x z w3 (HM.out.on Hb3.out) (ptab_on HP.out Hb3.out))
    rw [show stampT x z = ⟨#[]⟩ by rw [stampT, hok]; rfl] at cT
    rw [e1]
    go_wp2_with fail
    refine cT.out.mono ?_
    rintro e w4 ⟨rfl, hb4⟩
    go_wp2
    go_ret
    exact ⟨rfl, Hb3.out.trans (hb4.mono Hb3.out.size)⟩
  · obtain ⟨o1, o2, o3, o4, o5, o6⟩ := okD_yes hok
    have hj : ((3 + (x + 60 * z) / 86400) % 7).toNat < 7 := by omega
    have hsz : (fullT x z).size = 31 := by
      rw [fullT, if_pos hok, ByteArray.size_append, ByteArray.size_append, Pl.day_size _ hj, date_size _ _ _ rfl o5 o6]
      rfl
    have hne : (fullT x z).toList.isEmpty = false := by
      rw [ByteArray.toList_eq, List.isEmpty_eq_false_iff]
      intro e
      have := congrArg List.length e
      rw [Array.length_toList] at this
      have h31 : (fullT x z).data.size = 31 := hsz
      simp [h31] at this
    have hnn : ((fullT x z).toList != (fullT x z).toList) = false := by simp
    have cF := mkH (readFull x z w3 hok (HM.out.on Hb3.out) (HN.out.on Hb3.out))
    generalize fullT x z = F at *
    clear hj
    go_wp2_with fail
    refine cF.out.mono ?_
    rintro e w4 ⟨rfl, hb4⟩
    have Hb4 := mkH (Hb3.out.trans (hb4.mono Hb3.out.size))
    clear cF hb4 Hb3
    obtain ⟨V, hV⟩ : ∃ V, V = w4.alloc (Obj.cells #[.bool true, .int .i64 x, .int .i64 z] 27) := ⟨_, rfl⟩
    have hr0 : V.heap[w4.heap.size]? = some (Obj.cells #[.bool true, .int .i64 x, .int .i64 z] 27 (0, 0)) := by rw [hV]; exact heap_alloc_at _ _
    have hVs : V.heap.size = w4.heap.size + 1 := by rw [hV]; simp
    have HbV := mkH (show Below w.heap.size w V from by rw [hV]; exact Hb4.out.alloc Hb4.out.size _)
    have Hr0 := mkH hr0
    have HV := mkH hV.symm
    have cT := mkH (implStamp x z V (HM.out.on HbV.out) (ptab_on HP.out HbV.out))
    rw [show stampT x z = dateT (x + 60 * z) z ⟨#[45]⟩ by rw [stampT, if_pos hok]] at cT
    have hts := date_size (x + 60 * z) z ⟨#[45]⟩ rfl o5 o6
    have hbl := stamp_blanks (x + 60 * z) z o5 o6
    clear hr0 hV hsz
    go_wp2_with fail
    rw [HV.out]
    refine cT.out.mono ?_
    rintro e w5 ⟨rfl, hb5⟩
    have Hb5 := mkH (HbV.out.trans (hb5.mono HbV.out.size))
    have Hr5 := mkH (show w5.heap[w4.heap.size]? = some (Obj.cells #[.bool true, .int .i64 x, .int .i64 z] 27 (0, 0)) from (hb5.block _ (by omega)).trans Hr0.out)
    have h5s : w4.heap.size < w5.heap.size := by have := hb5.size; omega
    clear cT hb5 HbV Hr0 HV
    generalize hS : dateT (x + 60 * z) z ⟨#[45]⟩ = S at *
    obtain ⟨cap, W, hcv, hh, hbW⟩ := bytesOf (P := Tryz.prog) 9 22 Tryz.underlying9 Tryz.underlying22 Tryz.underlying5 S w5
    have hSl : S.data.toList.length = 26 := by simpa using hts
    have hh2 : HoldsB w5.heap.size (S.data.toList.set 2 32) (W.setCell ⟨w5.heap.size, 2, none⟩ (.int .u8 32)) := hh.set 2 (by omega) 32
    have hh3 : HoldsB w5.heap.size ((S.data.toList.set 2 32).set 6 32) ((W.setCell ⟨w5.heap.size, 2, none⟩ (.int .u8 32)).setCell ⟨w5.heap.size, 6, none⟩ (.int .u8 32)) := hh2.set 6 (by rw [List.length_set]; omega) 32
    rw [hbl] at hh3
    have hLs : (dateT (x + 60 * z) z ⟨#[32]⟩).data.toList.length = 26 := by
      have := date_size (x + 60 * z) z ⟨#[32]⟩ rfl o5 o6
      simpa using this
    have hbk := hh3.back (P := Tryz.prog) (cap := cap) 22 9 Tryz.underlying22 Tryz.underlying5 Tryz.underlying9
    rw [hLs, show (ByteArray.mk (dateT (x + 60 * z) z ⟨#[32]⟩).data.toList.toArray) = dateT (x + 60 * z) z ⟨#[32]⟩ from back_list _] at hbk
    obtain ⟨c2, f2⟩ := hh 2 (by omega)
    obtain ⟨c6, f6⟩ := hh2 6 (by rw [List.length_set]; omega)
    have HbW := mkH (Hb5.out.trans (hbW.mono Hb5.out.size))
    have HrW := mkH ((hbW.block _ h5s).trans Hr5.out)
    clear hh hh2 hh3 hbl hLs
    rw [hts] at hcv
    go_wp2_with fail
    obtain ⟨X, hX⟩ : ∃ X, X = (W.setCell ⟨w5.heap.size, 2, none⟩ (.int .u8 32)).setCell ⟨w5.heap.size, 6, none⟩ (.int .u8 32) := ⟨_, rfl⟩
    have hbX : Below w5.heap.size W X := by
      rw [hX]
      exact ((Below.refl w5.heap.size W).setCell (p := ⟨w5.heap.size, 2, none⟩) (Nat.le_refl _) _).setCell (p := ⟨w5.heap.size, 6, none⟩) (Nat.le_refl _) _
    have HbX := mkH (HbW.out.trans (hbX.mono Hb5.out.size))
    have HrX := mkH ((hbX.block _ h5s).trans HrW.out)
    have hXs : w4.heap.size < X.heap.size := by have := hbX.size; have := hbW.size; omega
    rw [← hX]
    have cG := mkH (readStamp x z X hok (HM.out.on HbX.out) (HN.out.on HbX.out))
    clear hcv c2 f2 c6 f6 hbk hX hbX hbW HbW HrW Hb5 Hr5
    generalize dateT (x + 60 * z) z ⟨#[32]⟩ = Y at *
    refine cG.out.mono ?_
    rintro e w6 ⟨rfl, hb6⟩
    have Hb6 := mkH (HbX.out.trans (hb6.mono HbX.out.size))
    have Hr6 := mkH ((hb6.block _ hXs).trans HrX.out)
    have h6s : w4.heap.size < w6.heap.size := by have := hb6.size; omega
    clear cG hb6 HbX HrX hXs
    obtain ⟨V2, hV2⟩ : ∃ V, V = w6.alloc (Obj.cells #[.bool true, .int .i64 x, .int .i64 z] 27) := ⟨_, rfl⟩
    have hq0 : V2.heap[w6.heap.size]? = some (Obj.cells #[.bool true, .int .i64 x, .int .i64 z] 27 (0, 0)) := by rw [hV2]; exact heap_alloc_at _ _
    have hq1 : V2.heap[w4.heap.size]? = some (Obj.cells #[.bool true, .int .i64 x, .int .i64 z] 27 (0, 0)) := by rw [hV2, heap_alloc_old _ _ _ h6s]; exact Hr6.out
    have HbV2 := mkH (show Below w.heap.size w V2 from by rw [hV2]; exact Hb6.out.alloc Hb6.out.size _)
    have HV2 := mkH hV2.symm
    clear hV2 Hb6 Hr6
    have xx : (x == x) = true := by simp
    have zz : (z == z) = true := by simp
    by_cases hlate : x ≤ 253402214399
    · have y1 : decide (x ≤ 253402214399) = true := decide_eq_true hlate
      have d1 := mkH (fun w => implDayOf (x + 86400) w (by omega) (by omega))
      have d2 := mkH (fun w => implDayOf x w (by omega) (by omega))
      have e86 : (x + 86400) / 86400 = x / 86400 + 1 := by omega
      have hdd : 0 ≤ x / 86400 ∧ x / 86400 ≤ 2932896 := by omega
      rw [e86] at d1
      generalize x / 86400 = dq at *
      have w86 := wrap_in (x + 86400) (by omega) (by omega)
      have wdq := wrap_in (dq + 1) (by omega) (by omega)
      have dne : (dq + 1 != dq + 1) = false := by simp
      clear hok
      go_wp2_with fail
      rw [HV2.out]
      refine (d1.out _).mono ?_
      rintro e w7 ⟨rfl, rfl⟩
      go_wp2_with fail
      refine (d2.out _).mono ?_
      rintro e w8 ⟨rfl, rfl⟩
      obtain ⟨a0, a1, a2⟩ := row3 hq0
      obtain ⟨b0, b1, b2⟩ := row3 hq1
      go_wp2
      go_ret
      exact ⟨rfl, HbV2.out⟩
    · have y1 : decide (x ≤ 253402214399) = false := decide_eq_false hlate
      obtain ⟨a0, a1, a2⟩ := row3 hq0
      obtain ⟨b0, b1, b2⟩ := row3 hq1
      clear hok
      rw [← HV2.out] at a0 a1 a2 b0 b1 b2
      go_wp2
      go_ret
      rw [HV2.out]
      exact ⟨rfl, HbV2.out⟩
end Go.Proofs.YtacmhofekdjobaaGreatDoor
