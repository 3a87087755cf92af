/- Marks on a list of Mail that was handed in. (By tools/gen/marks.py.) -/
import Derived.Test.YtkklaiphpccldaaWeakBase
import Derived.Test.YtkklaiphpccldaaGenMail
namespace Go.Proofs.Ytkklaiphpccldaa
open Go.RowKit Go.Lib Go.Maps
structure WMail (lo hi : Nat) (w : World) (A : Addr) : Prop where
  b1 : lo ≤ A.block
  b2 : A.block < hi
  c0 : ∃ z, w.cell? A = some (.int .i64 z)
  c1 : ∃ z, w.cell? ⟨A.block, A.off + 1, none⟩ = some (.int .i64 z)
  c2 : ∃ z, w.cell? ⟨A.block, A.off + 2, none⟩ = some (.int .i64 z)
  c3 : ∃ o n c, w.cell? ⟨A.block, A.off + 3, none⟩ = some (.slice o n c) ∧ n ≤ 1048576 ∧ WStr lo hi w o n
  c4 : ∃ z, w.cell? ⟨A.block, A.off + 4, none⟩ = some (.string z)
def WMails (lo hi : Nat) (w : World) (o : Option Addr) (n : Nat) : Prop := ∀ i, i < n → ∃ a, o = some a ∧ WMail lo hi w (a.add (i * 5))
theorem WMail.kp {lo hi : Nat} {w w' : World} {A : Addr} (h : WMail lo hi w A) (hk : Kp lo hi w w') : WMail lo hi w' A := by
  refine ⟨h.b1, h.b2, ?_, ?_, ?_, ?_, ?_⟩
  · obtain ⟨z, e⟩ := h.c0
    exact hk.int _ _ e
  · obtain ⟨z, e⟩ := h.c1
    exact hk.int _ _ e
  · obtain ⟨z, e⟩ := h.c2
    exact hk.int _ _ e
  · obtain ⟨o, n, c, e, hn, hw⟩ := h.c3
    exact ⟨o, n, c, hk.sli _ _ _ _ e, hn, hw.kp hk⟩
  · obtain ⟨z, e⟩ := h.c4
    exact hk.str _ _ e
theorem WMails.kp {lo hi : Nat} {w w' : World} {o : Option Addr} {n : Nat} (h : WMails lo hi w o n) (hk : Kp lo hi w w') : WMails lo hi w' o n := by
  intro i hi
  obtain ⟨a, ho, h1⟩ := h i hi
  exact ⟨a, ho, h1.kp hk⟩
theorem GMailsL.weak {lo hi : Nat} {w : World} {o : Option Addr} {F : List GMail} (h : GMailsL lo hi w o F) (hf : ∀ f ∈ F, f.fits 1048576) : WMails lo hi w o F.length := by
  intro i hi
  obtain ⟨a, v3, ho, h1, h2, h3, h4⟩ := h i hi
  have hfi := hf _ (List.getElem_mem hi)
  obtain ⟨⟨a3, k3, e3, t3⟩⟩ := h4
  obtain ⟨f3_0, f3_1, f4_0⟩ := hfi
  refine ⟨a, ho, by rw [add_blockG]; exact h1, by rw [add_blockG]; exact h2, ?_, ?_, ?_, ?_, ?_⟩
  · exact ⟨_, h3.c0⟩
  · exact ⟨_, h3.c1⟩
  · exact ⟨_, h3.c2⟩
  · exact ⟨a3, _, k3, by rw [h3.c3, e3], f3_0, t3.weak⟩
  · exact ⟨_, h3.c4⟩
set_option maxHeartbeats 4000000 in
set_option maxRecDepth 20000 in
theorem wkMails (o : Option Addr) (n cap k0 lo hi : Nat) (w : World) (h : WMails lo hi w o n) (ht : Thaw lo hi w) (hh : hi ≤ w.heap.size) (hn : n ≤ 1048576) (h0 : 0 < k0) (hk : k0 ≤ 4000000000000) :
    Calls Try.prog 20 #[.slice o n cap, .int .i64 k0] w fun e w' => ∃ k : Nat, e = .returned (.int .i64 k) ∧ Hid (k0 ≤ k ∧ k ≤ k0 + n * 1048580) ∧ Hid (Kp lo hi w w') := by
  have H := mkHid h
  have HT := mkHid ht
  have HH := mkHid hh
  clear h ht hh
  go_enter Try.func20, Try.ntmps20
  go_wp2
  go_loopw [1, 5] (fun m i wr => ∃ k q : Nat, k ≤ n ∧ i = .int .i64 k ∧ m = .int .i64 (q : Int) ∧ Hid (k0 ≤ q ∧ q ≤ k0 + k * 1048580) ∧ Hid (Kp lo hi w wr)) (fun _ i _ => n - (Lib.intOf i).toNat)
  case atStart => exact ⟨0, k0, Nat.zero_le _, rfl, rfl, ⟨Nat.le_refl _, by omega⟩, Kp.refl _ _ _⟩
  case round =>
    obtain ⟨k, q, hk, rfl, rfl, hq, hkp⟩ := hrel
    have hqb : q ≤ 6000000000000 := by have := hq.out; omega
    have hq0 : 0 < q := by have := hq.out; omega
    by_cases hlt : k < n
    · have hqn : Hid (k0 ≤ q ∧ q ≤ k0 + k * 1048580) := hq
      obtain ⟨a, rfl, hA⟩ := (H.out.kp hkp.out) k hlt
      have hTh := HT.out.kp hkp.out HH.out
      have hbl := mkHid (Nat.le_trans HH.out hkp.out.size)
      clear H HT HH hq
      have HA := mkHid hA
      have Hb1 := mkHid hA.b1
      have Hb2 := mkHid hA.b2
      have HTh := mkHid hTh
      have HK := mkHid (Kp.refl lo hi wr)
      clear hA hTh
      have F0 := HA.out.kp HK.out
      obtain ⟨y0, d0⟩ := F0.c0
      have z0 := (HTh.out.kp HK.out hbl.out) (a.add (k * 5)) Hb1.out Hb2.out
      replace HK := mkHid (HK.out.trans (Kp.setI d0 Hb1.out Hb2.out ((q : Int))))
      clear F0
      have F1 := HA.out.kp HK.out
      obtain ⟨y1, d1⟩ := F1.c1
      have z1 := (HTh.out.kp HK.out hbl.out) ⟨(a.add (k * 5)).block, (a.add (k * 5)).off + 1, none⟩ Hb1.out Hb2.out
      replace HK := mkHid (HK.out.trans (Kp.setI d1 Hb1.out Hb2.out ((q : Int) + 1)))
      clear F1
      have F2 := HA.out.kp HK.out
      obtain ⟨y2, d2⟩ := F2.c2
      have z2 := (HTh.out.kp HK.out hbl.out) ⟨(a.add (k * 5)).block, (a.add (k * 5)).off + 2, none⟩ Hb1.out Hb2.out
      replace HK := mkHid (HK.out.trans (Kp.setI d2 Hb1.out Hb2.out ((q : Int) + 1 + 1)))
      clear F2
      have F3 := HA.out.kp HK.out
      obtain ⟨o3, n3, c3, d3, hn3, hw3⟩ := F3.c3
      have cS3 := mkHid (wkStr o3 n3 c3 (q + 1 + 1 + 1) lo hi _ hw3 (HTh.out.kp HK.out hbl.out) (Nat.le_trans hbl.out HK.out.size) hn3 (by omega) (by omega))
      simp only [show (((q + 1 + 1 + 1 : Nat)) : Int) = (q : Int) + 1 + 1 + 1 by omega] at cS3
      clear F3 hw3
      go_wp2_with fail
      refine cS3.out.mono ?_
      rintro e w3 ⟨r3, rfl, hr3, hk3⟩
      have hr3a := hr3.out.1
      have hr3b : r3 ≤ q + 1 + 1 + 1 + 1048576 := by have := hr3.out.2; omega
      replace HK := mkHid (HK.out.trans hk3.out)
      clear cS3 hr3 hk3 hn3 d3 d0 z0 d1 z1 d2 z2
      have cT4 := mkHid (fun w => markText (r3) w (by omega) (by omega))
      go_wp2_with fail
      refine (cT4.out _).mono ?_
      rintro e w4 ⟨rfl, hb4⟩
      replace HK := mkHid (HK.out.trans (Kp.below hb4))
      clear cT4 hb4
      have F4 := HA.out.kp HK.out
      obtain ⟨y4, d4⟩ := F4.c4
      have z4 := (HTh.out.kp HK.out hbl.out) ⟨(a.add (k * 5)).block, (a.add (k * 5)).off + 4, none⟩ Hb1.out Hb2.out
      obtain ⟨mt4, hmt4⟩ : ∃ m, m = (⟨(Pl.mark (r3)).toArray⟩ : ByteArray) := ⟨_, rfl⟩
      rw [← hmt4]
      clear hmt4
      replace HK := mkHid (HK.out.trans (Kp.setS d4 Hb1.out Hb2.out mt4))
      clear F4
      replace HK := mkHid (hkp.out.trans HK.out)
      have hqe : Hid (k0 ≤ r3 + 1 ∧ r3 + 1 ≤ k0 + (k + 1) * 1048580) := by show _ ∧ _; have := hqn.out; omega
      clear hkp HA HTh Hb1 Hb2 hbl hqn
      go_wp2
      go_roundw
      case rel => exact ⟨k + 1, r3 + 1, by omega, by go_num, by go_num, hqe, HK⟩
      case measure => simp [Lib.intOf]; omega
    · have hq2 : Hid (k0 ≤ q ∧ q ≤ k0 + n * 1048580) := by show _ ∧ _; have := hq.out; have hkn : k = n := (by omega); subst hkn; exact this
      go_wp2
      go_ret
      exact ⟨q, rfl, hq2, hkp⟩
end Go.Proofs.Ytkklaiphpccldaa
