
/- Marks on a list of FilterNode that was handed in. (By tools/gen/marks.py.) -/
import Derived.Test.YtonnmbkfjiddnaaWeakBase
import Derived.Test.YtonnmbkfjiddnaaGenArgFilterNode
namespace Go.Proofs.Ytonnmbkfjiddnaa
open Go.RowKit Go.Lib Go.Maps
structure WFilterNode (lo hi : Nat) (w : World) (A : Addr) : Prop where
  b1 : lo ≤ A.block
  b2 : A.block < hi
  c0 : ∃ z, w.cell? A = some (.int .i64 z)
  c1 : ∃ z, w.cell? ⟨A.block, A.off + 1, none⟩ = some (.int .i64 z)
  c2 : ∃ z, w.cell? ⟨A.block, A.off + 2, none⟩ = some (.int .i64 z)
  c3 : ∃ z, w.cell? ⟨A.block, A.off + 3, none⟩ = some (.string z)
  c4 : ∃ o n c, w.cell? ⟨A.block, A.off + 4, none⟩ = some (.slice o n c) ∧ n ≤ 1048576 ∧ WStr lo hi w o n
  c5 : ∃ o n c, w.cell? ⟨A.block, A.off + 5, none⟩ = some (.slice o n c) ∧ n ≤ 1048576 ∧ WStr lo hi w o n
  c6 : ∃ o n c, w.cell? ⟨A.block, A.off + 6, none⟩ = some (.slice o n c) ∧ n ≤ 1048576 ∧ WInt lo hi w o n
def WFilterNodes (lo hi : Nat) (w : World) (o : Option Addr) (n : Nat) : Prop := ∀ i, i < n → ∃ a, o = some a ∧ WFilterNode lo hi w (a.add (i * 7))
theorem WFilterNode.kp {lo hi : Nat} {w w' : World} {A : Addr} (h : WFilterNode lo hi w A) (hk : Kp lo hi w w') : WFilterNode lo hi w' A := by
  refine ⟨h.b1, h.b2, ?_, ?_, ?_, ?_, ?_, ?_, ?_⟩
  · obtain ⟨z, e⟩ := h.c0
    exact hk.int _ _ e
  · obtain ⟨z, e⟩ := h.c1
    exact hk.int _ _ e
  · obtain ⟨z, e⟩ := h.c2
    exact hk.int _ _ e
  · obtain ⟨z, e⟩ := h.c3
    exact hk.str _ _ e
  · obtain ⟨o, n, c, e, hn, hw⟩ := h.c4
    exact ⟨o, n, c, hk.sli _ _ _ _ e, hn, hw.kp hk⟩
  · obtain ⟨o, n, c, e, hn, hw⟩ := h.c5
    exact ⟨o, n, c, hk.sli _ _ _ _ e, hn, hw.kp hk⟩
  · obtain ⟨o, n, c, e, hn, hw⟩ := h.c6
    exact ⟨o, n, c, hk.sli _ _ _ _ e, hn, hw.kp hk⟩
theorem WFilterNodes.kp {lo hi : Nat} {w w' : World} {o : Option Addr} {n : Nat} (h : WFilterNodes lo hi w o n) (hk : Kp lo hi w w') : WFilterNodes lo hi w' o n := by
  intro i hi
  obtain ⟨a, ho, h1⟩ := h i hi
  exact ⟨a, ho, h1.kp hk⟩
theorem GFilterNodesL.weak {lo hi : Nat} {w : World} {o : Option Addr} {F : List GFilterNode} (h : GFilterNodesL lo hi w o F) (hf : ∀ f ∈ F, f.fits 1048576) : WFilterNodes lo hi w o F.length := by
  intro i hi
  obtain ⟨a, v4, v5, v6, ho, h1, h2, h3, h4⟩ := h i hi
  have hfi := hf _ (List.getElem_mem hi)
  obtain ⟨⟨a4, k4, e4, t4⟩, ⟨a5, k5, e5, t5⟩, ⟨a6, k6, e6, t6⟩⟩ := h4
  obtain ⟨f3_0, f4_0, f4_1, f5_0, f5_1, f6_0⟩ := hfi
  refine ⟨a, ho, by rw [add_blockG]; exact h1, by rw [add_blockG]; exact h2, ?_, ?_, ?_, ?_, ?_, ?_, ?_⟩
  · exact ⟨_, h3.c0⟩
  · exact ⟨_, h3.c1⟩
  · exact ⟨_, h3.c2⟩
  · exact ⟨_, h3.c3⟩
  · exact ⟨a4, _, k4, by rw [h3.c4, e4], f4_0, t4.weak⟩
  · exact ⟨a5, _, k5, by rw [h3.c5, e5], f5_0, t5.weak⟩
  · exact ⟨a6, _, k6, by rw [h3.c6, e6], f6_0, t6.weak⟩
set_option maxHeartbeats 4000000 in
set_option maxRecDepth 20000 in
theorem wkFilterNodes (o : Option Addr) (n cap k0 lo hi : Nat) (w : World) (h : WFilterNodes lo hi w o n) (ht : Thaw lo hi w) (hh : hi ≤ w.heap.size) (hn : n ≤ 1048576) (h0 : 0 < k0) (hk : k0 ≤ 1000000000000) :
    Calls Try.prog 10 #[.slice o n cap, .int .i64 k0] w fun e w' => ∃ k : Nat, e = .returned (.int .i64 k) ∧ Hid (k0 ≤ k ∧ k ≤ k0 + n * 3145732) ∧ Hid (Kp lo hi w w') := by
  have H := mkHid h
  have HT := mkHid ht
  have HH := mkHid hh
  clear h ht hh
  go_enter Try.func10, Try.ntmps10
  go_wp2
  go_loopw [1, 5] (fun m i wr => ∃ k q : Nat, k ≤ n ∧ i = .int .i64 k ∧ m = .int .i64 (q : Int) ∧ Hid (k0 ≤ q ∧ q ≤ k0 + k * 3145732) ∧ Hid (Kp lo hi w wr)) (fun _ i _ => n - (Lib.intOf i).toNat)
  case atStart => exact ⟨0, k0, Nat.zero_le _, rfl, rfl, ⟨Nat.le_refl _, by omega⟩, Kp.refl _ _ _⟩
  case round =>
    obtain ⟨k, q, hk, rfl, rfl, hq, hkp⟩ := hrel
    have hqb : q ≤ 6000000000000 := by have := hq.out; omega
    have hq0 : 0 < q := by have := hq.out; omega
    by_cases hlt : k < n
    · have hqn : Hid (k0 ≤ q ∧ q ≤ k0 + k * 3145732) := hq
      obtain ⟨a, rfl, hA⟩ := (H.out.kp hkp.out) k hlt
      have hTh := HT.out.kp hkp.out HH.out
      have hbl := mkHid (Nat.le_trans HH.out hkp.out.size)
      clear H HT HH hq
      have HA := mkHid hA
      have Hb1 := mkHid hA.b1
      have Hb2 := mkHid hA.b2
      have HTh := mkHid hTh
      have HK := mkHid (Kp.refl lo hi wr)
      clear hA hTh
      have F0 := HA.out.kp HK.out
      obtain ⟨y0, d0⟩ := F0.c0
      have z0 := (HTh.out.kp HK.out hbl.out) (a.add (k * 7)) Hb1.out Hb2.out
      replace HK := mkHid (HK.out.trans (Kp.setI d0 Hb1.out Hb2.out ((q : Int))))
      clear F0
      have F1 := HA.out.kp HK.out
      obtain ⟨y1, d1⟩ := F1.c1
      have z1 := (HTh.out.kp HK.out hbl.out) ⟨(a.add (k * 7)).block, (a.add (k * 7)).off + 1, none⟩ Hb1.out Hb2.out
      replace HK := mkHid (HK.out.trans (Kp.setI d1 Hb1.out Hb2.out ((q : Int) + 1)))
      clear F1
      have F2 := HA.out.kp HK.out
      obtain ⟨y2, d2⟩ := F2.c2
      have z2 := (HTh.out.kp HK.out hbl.out) ⟨(a.add (k * 7)).block, (a.add (k * 7)).off + 2, none⟩ Hb1.out Hb2.out
      replace HK := mkHid (HK.out.trans (Kp.setI d2 Hb1.out Hb2.out ((q : Int) + 1 + 1)))
      clear F2
      have cT3 := mkHid (fun w => markText (q + 1 + 1 + 1) w (by omega) (by omega))
      simp only [show (((q + 1 + 1 + 1 : Nat)) : Int) = (q : Int) + 1 + 1 + 1 by omega] at cT3
      go_wp2_with fail
      refine (cT3.out _).mono ?_
      rintro e w3 ⟨rfl, hb3⟩
      replace HK := mkHid (HK.out.trans (Kp.below hb3))
      clear cT3 hb3 d0 z0 d1 z1 d2 z2
      have F3 := HA.out.kp HK.out
      obtain ⟨y3, d3⟩ := F3.c3
      have z3 := (HTh.out.kp HK.out hbl.out) ⟨(a.add (k * 7)).block, (a.add (k * 7)).off + 3, none⟩ Hb1.out Hb2.out
      obtain ⟨mt3, hmt3⟩ : ∃ m, m = (⟨(Pl.mark (q + 1 + 1 + 1)).toArray⟩ : ByteArray) := ⟨_, rfl⟩
      rw [← hmt3]
      clear hmt3
      replace HK := mkHid (HK.out.trans (Kp.setS d3 Hb1.out Hb2.out mt3))
      clear F3
      have F4 := HA.out.kp HK.out
      obtain ⟨o4, n4, c4, d4, hn4, hw4⟩ := F4.c4
      have cS4 := mkHid (wkStr o4 n4 c4 (q + 1 + 1 + 1 + 1) lo hi _ hw4 (HTh.out.kp HK.out hbl.out) (Nat.le_trans hbl.out HK.out.size) hn4 (by omega) (by omega))
      simp only [show (((q + 1 + 1 + 1 + 1 : Nat)) : Int) = (q : Int) + 1 + 1 + 1 + 1 by omega] at cS4
      clear F4 hw4
      go_wp2_with fail
      refine cS4.out.mono ?_
      rintro e w4 ⟨r4, rfl, hr4, hk4⟩
      have hr4a := hr4.out.1
      have hr4b : r4 ≤ q + 1 + 1 + 1 + 1 + 1048576 := by have := hr4.out.2; omega
      replace HK := mkHid (HK.out.trans hk4.out)
      clear cS4 hr4 hk4 hn4 d4 d3 z3
      have F5 := HA.out.kp HK.out
      obtain ⟨o5, n5, c5, d5, hn5, hw5⟩ := F5.c5
      have cS5 := mkHid (wkStr o5 n5 c5 (r4) lo hi _ hw5 (HTh.out.kp HK.out hbl.out) (Nat.le_trans hbl.out HK.out.size) hn5 (by omega) (by omega))
      clear F5 hw5
      go_wp2_with fail
      refine cS5.out.mono ?_
      rintro e w5 ⟨r5, rfl, hr5, hk5⟩
      have hr5a := hr5.out.1
      have hr5b : r5 ≤ r4 + 1048576 := by have := hr5.out.2; omega
      replace HK := mkHid (HK.out.trans hk5.out)
      clear cS5 hr5 hk5 hn5 d5
      have F6 := HA.out.kp HK.out
      obtain ⟨o6, n6, c6, d6, hn6, hw6⟩ := F6.c6
      have cS6 := mkHid (wkInt o6 n6 c6 (r5) lo hi _ hw6 (HTh.out.kp HK.out hbl.out) (Nat.le_trans hbl.out HK.out.size) hn6 (by omega) (by omega))
      clear F6 hw6
      go_wp2_with fail
      refine cS6.out.mono ?_
      rintro e w6 ⟨r6, rfl, hr6, hk6⟩
      have hr6a := hr6.out.1
      have hr6b : r6 ≤ r5 + 1048576 := by have := hr6.out.2; omega
      replace HK := mkHid (HK.out.trans hk6.out)
      clear cS6 hr6 hk6 hn6 d6
      replace HK := mkHid (hkp.out.trans HK.out)
      have hqe : Hid (k0 ≤ r6 ∧ r6 ≤ k0 + (k + 1) * 3145732) := by show _ ∧ _; have := hqn.out; omega
      clear hkp HA HTh Hb1 Hb2 hbl hqn
      go_wp2
      go_roundw
      case rel => exact ⟨k + 1, r6, by omega, by go_num, by go_num, hqe, HK⟩
      case measure => simp [Lib.intOf]; omega
    · have hq2 : Hid (k0 ≤ q ∧ q ≤ k0 + n * 3145732) := by show _ ∧ _; have := hq.out; have hkn : k = n := (by omega); subst hkn; exact this
      go_wp2
      go_ret
      exact ⟨q, rfl, hq2, hkp⟩
end Go.Proofs.Ytonnmbkfjiddnaa
