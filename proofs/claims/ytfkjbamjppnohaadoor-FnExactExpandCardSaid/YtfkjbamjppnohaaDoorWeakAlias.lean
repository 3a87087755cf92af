
/- Marks on a list of Alias that was handed in. (By tools/gen/marks.py.) -/
import Derived.Test.YtfkjbamjppnohaaDoorWeakBase
import Derived.Test.YtfkjbamjppnohaaDoorGenAlias
namespace Go.Proofs.YtfkjbamjppnohaaDoor
open Go.RowKit Go.Lib Go.Maps
structure WAlias (lo hi : Nat) (w : World) (A : Addr) : Prop where
  b1 : lo ≤ A.block
  b2 : A.block < hi
  c0 : ∃ z, w.cell? A = some (.string z)
  c1 : ∃ o n c, w.cell? ⟨A.block, A.off + 1, none⟩ = some (.slice o n c) ∧ n ≤ 1048576 ∧ WStr lo hi w o n
def WAliass (lo hi : Nat) (w : World) (o : Option Addr) (n : Nat) : Prop := ∀ i, i < n → ∃ a, o = some a ∧ WAlias lo hi w (a.add (i * 2))
theorem WAlias.kp {lo hi : Nat} {w w' : World} {A : Addr} (h : WAlias lo hi w A) (hk : Kp lo hi w w') : WAlias lo hi w' A := by
  refine ⟨h.b1, h.b2, ?_, ?_⟩
  · obtain ⟨z, e⟩ := h.c0
    exact hk.str _ _ e
  · obtain ⟨o, n, c, e, hn, hw⟩ := h.c1
    exact ⟨o, n, c, hk.sli _ _ _ _ e, hn, hw.kp hk⟩
theorem WAliass.kp {lo hi : Nat} {w w' : World} {o : Option Addr} {n : Nat} (h : WAliass lo hi w o n) (hk : Kp lo hi w w') : WAliass lo hi w' o n := by
  intro i hi
  obtain ⟨a, ho, h1⟩ := h i hi
  exact ⟨a, ho, h1.kp hk⟩
theorem GAliassL.weak {lo hi : Nat} {w : World} {o : Option Addr} {F : List GAlias} (h : GAliassL lo hi w o F) (hf : ∀ f ∈ F, f.fits 1048576) : WAliass lo hi w o F.length := by
  intro i hi
  obtain ⟨a, v1, ho, h1, h2, h3, h4⟩ := h i hi
  have hfi := hf _ (List.getElem_mem hi)
  obtain ⟨⟨a1, k1, e1, t1⟩⟩ := h4
  obtain ⟨f0_0, f1_0, f1_1⟩ := hfi
  refine ⟨a, ho, by rw [add_blockG]; exact h1, by rw [add_blockG]; exact h2, ?_, ?_⟩
  · exact ⟨_, h3.c0⟩
  · exact ⟨a1, _, k1, by rw [h3.c1, e1], f1_0, t1.weak⟩
set_option maxHeartbeats 4000000 in
set_option maxRecDepth 20000 in
theorem wkAliass (o : Option Addr) (n cap k0 lo hi : Nat) (w : World) (h : WAliass lo hi w o n) (ht : Thaw lo hi w) (hh : hi ≤ w.heap.size) (hn : n ≤ 1048576) (h0 : 0 < k0) (hk : k0 ≤ 4000000000000) :
    Calls Tryd.prog 10 #[.slice o n cap, .int .i64 k0] w fun e w' => ∃ k : Nat, e = .returned (.int .i64 k) ∧ Hid (k0 ≤ k ∧ k ≤ k0 + n * 1048577) ∧ Hid (Kp lo hi w w') := by
  have H := mkHid h
  have HT := mkHid ht
  have HH := mkHid hh
  clear h ht hh
  go_enter Tryd.func10, Tryd.ntmps10
  go_wp2
  go_loopw [1, 5] (fun m i wr => ∃ k q : Nat, k ≤ n ∧ i = .int .i64 k ∧ m = .int .i64 (q : Int) ∧ Hid (k0 ≤ q ∧ q ≤ k0 + k * 1048577) ∧ Hid (Kp lo hi w wr)) (fun _ i _ => n - (Lib.intOf i).toNat)
  case atStart => exact ⟨0, k0, Nat.zero_le _, rfl, rfl, ⟨Nat.le_refl _, by omega⟩, Kp.refl _ _ _⟩
  case round =>
    obtain ⟨k, q, hk, rfl, rfl, hq, hkp⟩ := hrel
    have hqb : q ≤ 6000000000000 := by have := hq.out; omega
    have hq0 : 0 < q := by have := hq.out; omega
    by_cases hlt : k < n
    · have hqn : Hid (k0 ≤ q ∧ q ≤ k0 + k * 1048577) := hq
      obtain ⟨a, rfl, hA⟩ := (H.out.kp hkp.out) k hlt
      have hTh := HT.out.kp hkp.out HH.out
      have hbl := mkHid (Nat.le_trans HH.out hkp.out.size)
      clear H HT HH hq
      have HA := mkHid hA
      have Hb1 := mkHid hA.b1
      have Hb2 := mkHid hA.b2
      have HTh := mkHid hTh
      have HK := mkHid (Kp.refl lo hi wr)
      clear hA hTh
      have cT0 := mkHid (fun w => markText (q) w (by omega) (by omega))
      go_wp2_with fail
      refine (cT0.out _).mono ?_
      rintro e w0 ⟨rfl, hb0⟩
      replace HK := mkHid (HK.out.trans (Kp.below hb0))
      clear cT0 hb0
      have F0 := HA.out.kp HK.out
      obtain ⟨y0, d0⟩ := F0.c0
      have z0 := (HTh.out.kp HK.out hbl.out) (a.add (k * 2)) Hb1.out Hb2.out
      obtain ⟨mt0, hmt0⟩ : ∃ m, m = (⟨(Pl.mark (q)).toArray⟩ : ByteArray) := ⟨_, rfl⟩
      rw [← hmt0]
      clear hmt0
      replace HK := mkHid (HK.out.trans (Kp.setS d0 Hb1.out Hb2.out mt0))
      clear F0
      have F1 := HA.out.kp HK.out
      obtain ⟨o1, n1, c1, d1, hn1, hw1⟩ := F1.c1
      have cS1 := mkHid (wkStr o1 n1 c1 (q + 1) lo hi _ hw1 (HTh.out.kp HK.out hbl.out) (Nat.le_trans hbl.out HK.out.size) hn1 (by omega) (by omega))
      simp only [show (((q + 1 : Nat)) : Int) = (q : Int) + 1 by omega] at cS1
      clear F1 hw1
      go_wp2_with fail
      refine cS1.out.mono ?_
      rintro e w1 ⟨r1, rfl, hr1, hk1⟩
      have hr1a := hr1.out.1
      have hr1b : r1 ≤ q + 1 + 1048576 := by have := hr1.out.2; omega
      replace HK := mkHid (HK.out.trans hk1.out)
      clear cS1 hr1 hk1 hn1 d1 d0 z0
      replace HK := mkHid (hkp.out.trans HK.out)
      have hqe : Hid (k0 ≤ r1 ∧ r1 ≤ k0 + (k + 1) * 1048577) := by show _ ∧ _; have := hqn.out; omega
      clear hkp HA HTh Hb1 Hb2 hbl hqn
      go_wp2
      go_roundw
      case rel => exact ⟨k + 1, r1, by omega, by go_num, by go_num, hqe, HK⟩
      case measure => simp [Lib.intOf]; omega
    · have hq2 : Hid (k0 ≤ q ∧ q ≤ k0 + n * 1048577) := by show _ ∧ _; have := hq.out; have hkn : k = n := (by omega); subst hkn; exact this
      go_wp2
      go_ret
      exact ⟨q, rfl, hq2, hkp⟩
end Go.Proofs.YtfkjbamjppnohaaDoor
