/- Marks on a list of Gone that was handed in. (By tools/gen/marks.py.) -/
import Derived.Test.YtkklaiphpccldaaWeakBase
import Derived.Test.YtkklaiphpccldaaGenGone
namespace Go.Proofs.Ytkklaiphpccldaa
open Go.RowKit Go.Lib Go.Maps
structure WGone (lo hi : Nat) (w : World) (A : Addr) : Prop where
  b1 : lo ≤ A.block
  b2 : A.block < hi
  c0 : ∃ z, w.cell? A = some (.int .i64 z)
  c1 : ∃ z, w.cell? ⟨A.block, A.off + 1, none⟩ = some (.int .i64 z)
def WGones (lo hi : Nat) (w : World) (o : Option Addr) (n : Nat) : Prop := ∀ i, i < n → ∃ a, o = some a ∧ WGone lo hi w (a.add (i * 2))
theorem WGone.kp {lo hi : Nat} {w w' : World} {A : Addr} (h : WGone lo hi w A) (hk : Kp lo hi w w') : WGone lo hi w' A := by
  refine ⟨h.b1, h.b2, ?_, ?_⟩
  · obtain ⟨z, e⟩ := h.c0
    exact hk.int _ _ e
  · obtain ⟨z, e⟩ := h.c1
    exact hk.int _ _ e
theorem WGones.kp {lo hi : Nat} {w w' : World} {o : Option Addr} {n : Nat} (h : WGones lo hi w o n) (hk : Kp lo hi w w') : WGones lo hi w' o n := by
  intro i hi
  obtain ⟨a, ho, h1⟩ := h i hi
  exact ⟨a, ho, h1.kp hk⟩
theorem GGonesL.weak {lo hi : Nat} {w : World} {o : Option Addr} {F : List GGone} (h : GGonesL lo hi w o F) (hf : ∀ f ∈ F, f.fits 1048576) : WGones lo hi w o F.length := by
  intro i hi
  obtain ⟨a, ho, h1, h2, h3⟩ := h i hi
  have hfi := hf _ (List.getElem_mem hi)
  refine ⟨a, ho, by rw [add_blockG]; exact h1, by rw [add_blockG]; exact h2, ?_, ?_⟩
  · exact ⟨_, h3.c0⟩
  · exact ⟨_, h3.c1⟩
set_option maxHeartbeats 4000000 in
set_option maxRecDepth 20000 in
theorem wkGones (o : Option Addr) (n cap k0 lo hi : Nat) (w : World) (h : WGones lo hi w o n) (ht : Thaw lo hi w) (hh : hi ≤ w.heap.size) (hn : n ≤ 1048576) (h0 : 0 < k0) (hk : k0 ≤ 4000000000000) :
    Calls Try.prog 21 #[.slice o n cap, .int .i64 k0] w fun e w' => ∃ k : Nat, e = .returned (.int .i64 k) ∧ Hid (k0 ≤ k ∧ k ≤ k0 + n * 2) ∧ Hid (Kp lo hi w w') := by
  have H := mkHid h
  have HT := mkHid ht
  have HH := mkHid hh
  clear h ht hh
  go_enter Try.func21, Try.ntmps21
  go_wp2
  go_loopw [1, 5] (fun m i wr => ∃ k q : Nat, k ≤ n ∧ i = .int .i64 k ∧ m = .int .i64 (q : Int) ∧ Hid (k0 ≤ q ∧ q ≤ k0 + k * 2) ∧ Hid (Kp lo hi w wr)) (fun _ i _ => n - (Lib.intOf i).toNat)
  case atStart => exact ⟨0, k0, Nat.zero_le _, rfl, rfl, ⟨Nat.le_refl _, by omega⟩, Kp.refl _ _ _⟩
  case round =>
    obtain ⟨k, q, hk, rfl, rfl, hq, hkp⟩ := hrel
    have hqb : q ≤ 6000000000000 := by have := hq.out; omega
    have hq0 : 0 < q := by have := hq.out; omega
    by_cases hlt : k < n
    · have hqn : Hid (k0 ≤ q ∧ q ≤ k0 + k * 2) := hq
      obtain ⟨a, rfl, hA⟩ := (H.out.kp hkp.out) k hlt
      have hTh := HT.out.kp hkp.out HH.out
      have hbl := mkHid (Nat.le_trans HH.out hkp.out.size)
      clear H HT HH hq
      have HA := mkHid hA
      have Hb1 := mkHid hA.b1
      have Hb2 := mkHid hA.b2
      have HTh := mkHid hTh
      have HK := mkHid (Kp.refl lo hi wr)
      clear hA hTh
      have F0 := HA.out.kp HK.out
      obtain ⟨y0, d0⟩ := F0.c0
      have z0 := (HTh.out.kp HK.out hbl.out) (a.add (k * 2)) Hb1.out Hb2.out
      replace HK := mkHid (HK.out.trans (Kp.setI d0 Hb1.out Hb2.out ((q : Int))))
      clear F0
      have F1 := HA.out.kp HK.out
      obtain ⟨y1, d1⟩ := F1.c1
      have z1 := (HTh.out.kp HK.out hbl.out) ⟨(a.add (k * 2)).block, (a.add (k * 2)).off + 1, none⟩ Hb1.out Hb2.out
      replace HK := mkHid (HK.out.trans (Kp.setI d1 Hb1.out Hb2.out ((q : Int) + 1)))
      clear F1
      replace HK := mkHid (hkp.out.trans HK.out)
      have hqe : Hid (k0 ≤ q + 1 + 1 ∧ q + 1 + 1 ≤ k0 + (k + 1) * 2) := by show _ ∧ _; have := hqn.out; omega
      clear hkp HA HTh Hb1 Hb2 hbl hqn
      go_wp2
      go_roundw
      case rel => exact ⟨k + 1, q + 1 + 1, by omega, by go_num, by go_num, hqe, HK⟩
      case measure => simp [Lib.intOf]; omega
    · have hq2 : Hid (k0 ≤ q ∧ q ≤ k0 + n * 2) := by show _ ∧ _; have := hq.out; have hkn : k = n := (by omega); subst hkn; exact this
      go_wp2
      go_ret
      exact ⟨q, rfl, hq2, hkp⟩
end Go.Proofs.Ytkklaiphpccldaa
