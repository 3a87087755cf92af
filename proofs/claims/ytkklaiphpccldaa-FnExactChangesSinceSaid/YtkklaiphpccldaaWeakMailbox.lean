/- Marks on a list of Mailbox that was handed in. (By tools/gen/marks.py.) -/
import Derived.Test.YtkklaiphpccldaaWeakBase
import Derived.Test.YtkklaiphpccldaaGenMailbox
import Derived.Test.YtkklaiphpccldaaWeakMail
import Derived.Test.YtkklaiphpccldaaWeakGone
namespace Go.Proofs.Ytkklaiphpccldaa
open Go.RowKit Go.Lib Go.Maps
structure WMailbox (lo hi : Nat) (w : World) (A : Addr) : Prop where
  b1 : lo ≤ A.block
  b2 : A.block < hi
  c0 : ∃ z, w.cell? A = some (.string z)
  c1 : ∃ z, w.cell? ⟨A.block, A.off + 1, none⟩ = some (.int .i64 z)
  c2 : ∃ z, w.cell? ⟨A.block, A.off + 2, none⟩ = some (.int .i64 z)
  c3 : ∃ z, w.cell? ⟨A.block, A.off + 3, none⟩ = some (.int .i64 z)
  c4 : ∃ o n c, w.cell? ⟨A.block, A.off + 4, none⟩ = some (.slice o n c) ∧ n ≤ 1048576 ∧ WMails lo hi w o n
  c5 : ∃ o n c, w.cell? ⟨A.block, A.off + 5, none⟩ = some (.slice o n c) ∧ n ≤ 1048576 ∧ WGones lo hi w o n
def WMailboxs (lo hi : Nat) (w : World) (o : Option Addr) (n : Nat) : Prop := ∀ i, i < n → ∃ a, o = some a ∧ WMailbox lo hi w (a.add (i * 6))
theorem WMailbox.kp {lo hi : Nat} {w w' : World} {A : Addr} (h : WMailbox lo hi w A) (hk : Kp lo hi w w') : WMailbox lo hi w' A := by
  refine ⟨h.b1, h.b2, ?_, ?_, ?_, ?_, ?_, ?_⟩
  · obtain ⟨z, e⟩ := h.c0
    exact hk.str _ _ e
  · obtain ⟨z, e⟩ := h.c1
    exact hk.int _ _ e
  · obtain ⟨z, e⟩ := h.c2
    exact hk.int _ _ e
  · obtain ⟨z, e⟩ := h.c3
    exact hk.int _ _ e
  · obtain ⟨o, n, c, e, hn, hw⟩ := h.c4
    exact ⟨o, n, c, hk.sli _ _ _ _ e, hn, hw.kp hk⟩
  · obtain ⟨o, n, c, e, hn, hw⟩ := h.c5
    exact ⟨o, n, c, hk.sli _ _ _ _ e, hn, hw.kp hk⟩
theorem WMailboxs.kp {lo hi : Nat} {w w' : World} {o : Option Addr} {n : Nat} (h : WMailboxs lo hi w o n) (hk : Kp lo hi w w') : WMailboxs lo hi w' o n := by
  intro i hi
  obtain ⟨a, ho, h1⟩ := h i hi
  exact ⟨a, ho, h1.kp hk⟩
theorem GMailboxsL.weak {lo hi : Nat} {w : World} {o : Option Addr} {F : List GMailbox} (h : GMailboxsL lo hi w o F) (hf : ∀ f ∈ F, f.fits 1048576) : WMailboxs lo hi w o F.length := by
  intro i hi
  obtain ⟨a, v4, v5, ho, h1, h2, h3, h4⟩ := h i hi
  have hfi := hf _ (List.getElem_mem hi)
  obtain ⟨⟨a4, k4, e4, t4⟩, ⟨a5, k5, e5, t5⟩⟩ := h4
  obtain ⟨f0_0, f4_0, f4_1, f5_0, f5_1⟩ := hfi
  refine ⟨a, ho, by rw [add_blockG]; exact h1, by rw [add_blockG]; exact h2, ?_, ?_, ?_, ?_, ?_, ?_⟩
  · exact ⟨_, h3.c0⟩
  · exact ⟨_, h3.c1⟩
  · exact ⟨_, h3.c2⟩
  · exact ⟨_, h3.c3⟩
  · exact ⟨a4, _, k4, by rw [h3.c4, e4], f4_0, t4.weak f4_1⟩
  · exact ⟨a5, _, k5, by rw [h3.c5, e5], f5_0, t5.weak f5_1⟩
set_option maxHeartbeats 4000000 in
set_option maxRecDepth 20000 in
theorem wkMailboxAt (b : GMailbox) (v4 v5 : Value) (k0 lo hi : Nat) (w : World) (hI : GMailboxIn lo hi w b v4 v5) (hh : hi ≤ w.heap.size) (hf : b.fits 1048576) (ht : Thaw lo hi w) (h0 : 0 < k0) (hk : k0 ≤ 1000000000000) :
    Calls Try.prog 10 #[GMailboxV b v4 v5, .int .i64 k0] w fun e w' => ∃ k : Nat, e = .returned (.int .i64 k) ∧ Hid (Kp lo hi w w') := by
  obtain ⟨⟨a4, c4, rfl, t4⟩, ⟨a5, c5, rfl, t5⟩⟩ := hI
  obtain ⟨f0_0, f4_0, f4_1, f5_0, f5_1⟩ := hf
  obtain ⟨W, hW⟩ : ∃ W, W = w.alloc (.cells #[.string b.name, .int .i64 b.validity, .int .i64 b.nextUid, .int .i64 b.topMod, .slice a4 b.mails.length c4, .slice a5 b.gones.length c5] 34) := ⟨_, rfl⟩
  have bW : Below w.heap.size w W := by rw [hW]; exact (Below.refl _ _).alloc (Nat.le_refl _) _
  have hWs : w.heap.size < W.heap.size := by rw [hW]; simp
  have HT := mkHid (Thaw.kp ht (Kp.below bW) hh)
  have HK := mkHid (Kp.refl lo hi W)
  have HBW := mkHid bW
  have HW4 := mkHid ((t4.weak f4_1).kp (Kp.below bW))
  have q4 : W.cell? ⟨w.heap.size, 4, none⟩ = some (.slice a4 b.mails.length c4) := by rw [hW]; simp
  have HW5 := mkHid ((t5.weak f5_1).kp (Kp.below bW))
  have q5 : W.cell? ⟨w.heap.size, 5, none⟩ = some (.slice a5 b.gones.length c5) := by rw [hW]; simp
  have HWe := mkHid hW
  clear hW bW ht t4 t5
  unfold GMailboxV
  go_enter Try.func10, Try.ntmps10
  have cS4 := mkHid (wkMails a4 b.mails.length c4 k0 lo hi W (HW4.out.kp HK.out) (HT.out.kp HK.out (Nat.le_trans hh (Nat.le_of_lt hWs))) (Nat.le_trans hh (Nat.le_trans (Nat.le_of_lt hWs) HK.out.size)) f4_0 (by omega) (by omega))
  go_wp2_with fail
  rw [← HWe.out]
  refine cS4.out.mono ?_
  rintro e w4 ⟨r4, rfl, hr4, hk4⟩
  have hr4a : 0 < r4 := by have := hr4.out.1; omega
  have hr4b : r4 ≤ k0 + 1099515822080 := by have := hr4.out.2; omega
  replace HK := mkHid (HK.out.trans hk4.out)
  replace q5 := hk4.out.sli _ _ _ _ q5
  clear cS4 hk4 hr4
  have cS5 := mkHid (wkGones a5 b.gones.length c5 r4 lo hi w4 (HW5.out.kp HK.out) (HT.out.kp HK.out (Nat.le_trans hh (Nat.le_of_lt hWs))) (Nat.le_trans hh (Nat.le_trans (Nat.le_of_lt hWs) HK.out.size)) f5_0 (by omega) (by omega))
  go_wp2_with fail
  refine cS5.out.mono ?_
  rintro e w5 ⟨r5, rfl, hr5, hk5⟩
  have hr5a : 0 < r5 := by have := hr5.out.1; omega
  have hr5b : r5 ≤ r4 + 2097152 := by have := hr5.out.2; omega
  replace HK := mkHid (HK.out.trans hk5.out)
  clear cS5 hk5 hr5
  have HF := mkHid ((Kp.below HBW.out).trans HK.out)
  go_wp2
  go_ret
  exact ⟨r5, rfl, HF⟩
end Go.Proofs.Ytkklaiphpccldaa
