
/- The specification's Bounce. -/
import Derived.Test.YtnchmfghmbgldaaDoorSpecKDomain
import Derived.Test.YtnchmfghmbgldaaDoorWriteHead
namespace Go.Proofs.YtnchmfghmbgldaaDoor
open Go.RowKit Go.Lib Go.Maps
namespace Ky
theorem hd_le : ∀ (F : List (ByteArray × ByteArray)) (p : List UInt8), p.length ≤ 100000 → (Pl.hd p F).length ≤ 100000
  | [], p, h => h
  | f :: r, p, h => by
    rw [Pl.hd]
    split
    · split
      · simp
      · exact hd_le r _ (by omega)
    · simp
def hdT (F : List (ByteArray × ByteArray)) : ByteArray := ⟨(Pl.hd [] F).toArray⟩
theorem hdT_size (F : List (ByteArray × ByteArray)) : (hdT F).size ≤ 100000 := by
  have := hd_le F [] (by simp)
  show (Pl.hd [] F).toArray.size ≤ 100000
  simpa using this
def bF (l t : ByteArray) : List (ByteArray × ByteArray) := [(⟨#[70, 114, 111, 109]⟩, ⟨#[32, 60, 109, 97, 105, 108, 101, 114, 64]⟩ ++ l ++ ⟨#[62]⟩), (⟨#[84, 111]⟩, ⟨#[32, 60]⟩ ++ t ++ ⟨#[62]⟩), (⟨#[83, 117, 98, 106, 101, 99, 116]⟩, ⟨#[32, 85, 110, 100, 101, 108, 105, 118, 101, 114, 101, 100]⟩)]
def bok (l t m : ByteArray) : Bool := dok l && (ok t && decide (m.size ≤ 100000))
theorem dok_le (d : ByteArray) (h : dok d = true) : d.size ≤ 255 := by
  simp only [dok, Bool.and_eq_true, Pl.domI, decide_eq_true_eq] at h
  have : d.data.toList.length = d.size := by simp
  omega
theorem ok_le (s : ByteArray) (h : ok s = true) : s.size ≤ 400 := by
  simp only [ok, Bool.and_eq_true, decide_eq_true_eq] at h
  exact h.2.1
theorem short (m : ByteArray) (h : m.size ≤ 2000) : m.extract 0 2000 = m := by
  apply ByteArray.ext
  rw [ByteArray.data_extract]
  have : m.data.size = m.size := rfl
  rw [Array.extract_eq_self_of_le (by omega)]
end Ky
theorem hp_allocK (w : World) (o : Obj) : (w.alloc o).heap[w.heap.size]? = some o := by
  show (w.heap.push o)[w.heap.size]? = some o
  simp
abbrev plBounce (l t m : ByteArray) : ByteArray := if Ky.bok l t m = true then Ky.hdT (Ky.bF l t) ++ ⟨#[13, 10]⟩ ++ m.extract 0 2000 else ⟨#[]⟩
theorem fld_three (w : World) (l t : ByteArray) (b : Nat) (v1 v2 : ByteArray) (h1 : v1 = ⟨#[32, 60, 109, 97, 105, 108, 101, 114, 64]⟩ ++ l ++ ⟨#[62]⟩) (h2 : v2 = ⟨#[32, 60]⟩ ++ t ++ ⟨#[62]⟩)
    (hh : w.heap[b]? = some (.cells #[.string ⟨#[70, 114, 111, 109]⟩, .string v1, .string ⟨#[84, 111]⟩, .string v2, .string ⟨#[83, 117, 98, 106, 101, 99, 116]⟩, .string ⟨#[32, 85, 110, 100, 101, 108, 105, 118, 101, 114, 101, 100]⟩] 28)) : Fld w.heap.size w (some ⟨b, 0, none⟩) (Ky.bF l t) := by
  have hb : b < w.heap.size := by
    by_cases h : b < w.heap.size
    · exact h
    · rw [Array.getElem?_eq_none (by omega)] at hh; cases hh
  subst h1 h2
  intro i hi
  have hi3 : i < 3 := hi
  match i, hi3 with
  | 0, _ => exact ⟨_, rfl, hb, by simp [Addr.add, World.cell?, hh, Ky.bF], by simp [Addr.add, World.cell?, hh, Ky.bF]⟩
  | 1, _ => exact ⟨_, rfl, hb, by simp [Addr.add, World.cell?, hh, Ky.bF], by simp [Addr.add, World.cell?, hh, Ky.bF]⟩
  | 2, _ => exact ⟨_, rfl, hb, by simp [Addr.add, World.cell?, hh, Ky.bF], by simp [Addr.add, World.cell?, hh, Ky.bF]⟩
theorem bF_size (l t : ByteArray) (hl : l.size ≤ 255) (ht : t.size ≤ 400) : ∀ f ∈ Ky.bF l t, f.1.size ≤ 1048576 ∧ f.2.size ≤ 1048576 := by
  intro f hf
  simp only [Ky.bF, List.mem_cons, List.not_mem_nil, or_false] at hf
  rcases hf with rfl | rfl | rfl
  · refine ⟨show 4 ≤ 1048576 by decide, ?_⟩
    simp only [ByteArray.size_append]
    show 9 + l.size + 1 ≤ _
    omega
  · refine ⟨show 2 ≤ 1048576 by decide, ?_⟩
    simp only [ByteArray.size_append]
    show 2 + t.size + 1 ≤ _
    omega
  · exact ⟨by decide, by decide⟩
set_option maxHeartbeats 4000000 in
theorem specBounce (l t m : ByteArray) (w : World) (hl : l.size ≤ 1048576) (ht : t.size ≤ 1048576) (hm : m.size ≤ 1048576) :
    Calls Tryd.prog 4 #[.string l, .string t, .string m] w fun e w' => e = .returned (.string (plBounce l t m)) ∧ Below w.heap.size w w' := by
  have cD := mkHid (specKDomain l w (by omega))
  have cK := mkHid (fun w => specKeyFault t w ht)
  obtain ⟨R, hR⟩ : ∃ R, plBounce l t m = R := ⟨_, rfl⟩
  rw [hR]
  replace hR := mkHid hR
  cases x1 : Ky.dok l
  · rw [x1] at cD
    have hr : Hid (R = ⟨#[]⟩) := show _ = _ from by rw [← hR.out, plBounce, Ky.bok, x1]; rfl
    clear x1
    go_enter Tryd.func4, Tryd.ntmps4
    go_wp2_with fail
    refine cD.out.mono ?_
    rintro e w1 ⟨rfl, hb1⟩
    go_wp2
    go_ret
    rw [hr.out]
    exact ⟨rfl, hb1⟩
  rw [x1] at cD
  cases x2 : Ky.ok t
  · rw [x2] at cK
    have hr : Hid (R = ⟨#[]⟩) := show _ = _ from by rw [← hR.out, plBounce, Ky.bok, x1, x2]; rfl
    clear x1 x2
    go_enter Tryd.func4, Tryd.ntmps4
    go_wp2_with fail
    refine cD.out.mono ?_
    rintro e w1 ⟨rfl, hb1⟩
    go_wp2_with fail
    refine (cK.out w1).mono ?_
    rintro e w2 ⟨rfl, hb2⟩
    simp only [dcode]
    go_wp2
    go_ret
    rw [hr.out]
    exact ⟨rfl, hb1.trans (hb2.mono hb1.size)⟩
  rw [x2] at cK
  by_cases x3 : m.size ≤ 100000
  · have y3 : decide ((100000 : Int) < (m.size : Int)) = false := by simp; omega
    have hr : Hid (R = Ky.hdT (Ky.bF l t) ++ ⟨#[13, 10]⟩ ++ m.extract 0 2000) := show _ = _ from by rw [← hR.out, plBounce, Ky.bok, x1, x2, decide_eq_true x3]; rfl
    have hl2 := Ky.dok_le l x1
    have ht2 := Ky.ok_le t x2
    obtain ⟨u1, hu1⟩ : ∃ u, (⟨#[32, 60, 109, 97, 105, 108, 101, 114, 64]⟩ : ByteArray) ++ l ++ ⟨#[62]⟩ = u := ⟨_, rfl⟩
    obtain ⟨u2, hu2⟩ : ∃ u, (⟨#[32, 60]⟩ : ByteArray) ++ t ++ ⟨#[62]⟩ = u := ⟨_, rfl⟩
    have cW : Hid (∀ W : World, Calls Tryd.prog 8 #[.slice (some ⟨W.heap.size, 0, none⟩) 3 3] (W.alloc (.cells #[.string ⟨#[70, 114, 111, 109]⟩, .string u1, .string ⟨#[84, 111]⟩, .string u2, .string ⟨#[83, 117, 98, 106, 101, 99, 116]⟩, .string ⟨#[32, 85, 110, 100, 101, 108, 105, 118, 101, 114, 101, 100]⟩] 28)) fun e w' => e = .returned (.string (Ky.hdT (Ky.bF l t))) ∧ Below W.heap.size W w') := fun W => (specWriteHead (some ⟨W.heap.size, 0, none⟩) (Ky.bF l t) 3 (W.alloc (.cells #[.string ⟨#[70, 114, 111, 109]⟩, .string u1, .string ⟨#[84, 111]⟩, .string u2, .string ⟨#[83, 117, 98, 106, 101, 99, 116]⟩, .string ⟨#[32, 85, 110, 100, 101, 108, 105, 118, 101, 114, 101, 100]⟩] 28)) (fld_three _ l t _ u1 u2 hu1.symm hu2.symm (hp_allocK W _)) (show 3 ≤ 200 by decide) (bF_size l t hl2 ht2)).mono fun e w' ⟨h1, h2⟩ => ⟨h1, ((Below.refl W.heap.size W).alloc (Nat.le_refl _) _).trans (h2.mono (by simp))⟩
    have hHs := Ky.hdT_size (Ky.bF l t)
    generalize Ky.hdT (Ky.bF l t) = H at *
    have hu1s : (⟨#[32, 60, 109, 97, 105, 108, 101, 114, 64]⟩ : ByteArray).size = 9 := rfl
    clear x1 x2 hR
    by_cases x4 : m.size ≤ 2000
    · have y4 : decide ((2000 : Int) < (m.size : Int)) = false := by simp; omega
      rw [Ky.short m x4] at hr
      go_enter Tryd.func4, Tryd.ntmps4
      go_wp2_with fail
      refine cD.out.mono ?_
      rintro e w1 ⟨rfl, hb1⟩
      go_wp2_with fail
      refine (cK.out w1).mono ?_
      rintro e w2 ⟨rfl, hb2⟩
      simp only [dcode]
      go_wp2_with fail
      refine (cW.out w2).mono ?_
      rintro e w3 ⟨rfl, hb3⟩
      go_wp2
      go_ret
      rw [hr.out]
      exact ⟨rfl, (hb1.trans (hb2.mono hb1.size)).trans (hb3.mono (Nat.le_trans hb1.size hb2.size))⟩
    · have y4 : decide ((2000 : Int) < (m.size : Int)) = true := by simp; omega
      have f4 : (2000 : Int) ≤ (m.size : Int) := by omega
      have hms : (m.extract 0 2000).size ≤ 2000 := by rw [ByteArray.size_extract]; omega
      go_enter Tryd.func4, Tryd.ntmps4
      go_wp2_with fail
      refine cD.out.mono ?_
      rintro e w1 ⟨rfl, hb1⟩
      go_wp2_with fail
      refine (cK.out w1).mono ?_
      rintro e w2 ⟨rfl, hb2⟩
      simp only [dcode]
      go_wp2_with fail
      refine (cW.out w2).mono ?_
      rintro e w3 ⟨rfl, hb3⟩
      go_wp2
      go_ret
      rw [hr.out]
      exact ⟨rfl, (hb1.trans (hb2.mono hb1.size)).trans (hb3.mono (Nat.le_trans hb1.size hb2.size))⟩
  · have y3 : decide ((100000 : Int) < (m.size : Int)) = true := by simp; omega
    have hr : Hid (R = ⟨#[]⟩) := show _ = _ from by rw [← hR.out, plBounce, Ky.bok, x1, x2, decide_eq_false x3]; rfl
    clear x1 x2
    go_enter Tryd.func4, Tryd.ntmps4
    go_wp2_with fail
    refine cD.out.mono ?_
    rintro e w1 ⟨rfl, hb1⟩
    go_wp2_with fail
    refine (cK.out w1).mono ?_
    rintro e w2 ⟨rfl, hb2⟩
    simp only [dcode]
    go_wp2
    go_ret
    rw [hr.out]
    exact ⟨rfl, hb1.trans (hb2.mono hb1.size)⟩
end Go.Proofs.YtnchmfghmbgldaaDoor
