
/- A source of draws: words and bytes. -/
import Derived.Test.YtgibjilghnnnmaaDoorDraw
namespace Go.Proofs.YtgibjilghnnnmaaDoor
open Go.RowKit Go.Lib
set_option maxHeartbeats 2000000 in
theorem srcWord (g : Nat) (o : Option Addr) (c : List UInt8) (cp a z : Nat) (w : World) (h : Src w g o c.length cp a z) (hc : Code g w o c) (ha : a ≤ 900000) (hl : c.length ≤ 1048576) :
    Calls Tryd.prog 9 #[.pointer (some ⟨g, 0, none⟩)] w fun e w' => ∃ (t : ByteArray) (a' : Nat), e = .returned (.string t) ∧ t.size ≤ 6 ∧ a' ≤ a + 7 ∧ Src w' g o c.length cp a' z ∧ w.grownBy w' (some g) := by
  obtain ⟨i0, hi, hy0, hy1, hy2⟩ := info_parts Tryd.info5
  have hgl := h.lt
  have HC : Hid (Code g w o c) := hc
  have hbA : Below w.heap.size w (w.alloc (.cells #[] 5)) := (Below.refl _ _).alloc (Nat.le_refl _) _
  have Hs0 : Hid (Src (w.alloc (.cells #[] 5)) g o c.length cp a z) := h.below hbA
  have Hg0 : Hid (w.grownBy (w.alloc (.cells #[] 5)) (some g)) := gr_below hbA
  have Hown0 : Hid (Own w.heap.size (.slice (some ⟨w.heap.size, 0, none⟩) 0 0) [] (w.alloc (.cells #[] 5))) := Own.made w.heap.size w (Nat.le_refl _)
  clear h hc hbA
  have hN := srcN g o c cp a z 6 _ Hs0.out (HC.out.grown Hg0.out (Nat.le_refl _)) (by omega) hl (by omega) (by omega)
  go_enter Tryd.func9, Tryd.ntmps9
  go_wp2_with fail
  refine hN.mono ?_
  rintro e w1 ⟨v, rfl, hv, hs1, hg1⟩
  have Hs1 : Hid (Src w1 g o c.length cp (a + 1) z) := hs1
  have Hg1 : Hid (w.grownBy w1 (some g)) := gr_trans Hg0.out hg1
  have Hown1 : Hid (Own w.heap.size (.slice (some ⟨w.heap.size, 0, none⟩) 0 0) [] w1) := Own.gr Hown0.out hg1 hgl
  have hsz1 := Hg1.out.size
  clear hN hs1 hg1 Hs0 Hg0 Hown0
  go_wp2
  go_loopw [3, 4] (fun u i wr => ∃ (k : Nat) (p : List UInt8) (a' : Nat), i = .int .i64 k ∧ p.length + k ≤ 6 ∧ a' + k ≤ a + 7 ∧ Hid (Src wr g o c.length cp a' z) ∧ Hid (w.grownBy wr (some g)) ∧ Own w.heap.size u p wr) (fun _ i _ => (Lib.intOf i).toNat)
  case atStart => exact ⟨1 + v, [], a + 1, by go_num, by simp; omega, by omega, Hs1, Hg1, Hown1.out⟩
  case round =>
    clear Hs1 Hg1 Hown1
    obtain ⟨k, p, a', rfl, hpk, hak, Hs, Hg, hown⟩ := hrel
    by_cases hk : 0 < k
    · have hN := srcN g o c cp a' z 26 wr Hs.out (HC.out.grown Hg.out (Nat.le_refl _)) (by omega) hl (by omega) (by omega)
      go_wp2_with fail
      refine hN.mono ?_
      rintro e w2 ⟨v2, rfl, hv2, hs2, hg2⟩
      have Hs2 : Hid (Src w2 g o c.length cp (a' + 1) z) := hs2
      have Hg2 : Hid (w.grownBy w2 (some g)) := gr_trans Hg.out hg2
      have hown2 := hown.gr hg2 hgl
      clear hN hs2 hg2 hown Hs Hg
      have hv3 : v2 < 26 := by omega
      go_wp2_with (at_builtin; go_must (refine wp_app (W := w2) rfl _ _ 22 rfl i0 Tryd.underlying22 hi hy0 hy1 hy2 w.heap.size u3 p rfl hown2 _ [_] rfl 1 1 rfl rfl (by simp; omega) Hg2.out.size (Below.refl _ _) ?_; intro v4 w4 hown4 hb4))
      have Hs4 : Hid (Src w4 g o c.length cp (a' + 1) z) := Hs2.out.belowB hb4 hgl
      have Hg4 : Hid (w.grownBy w4 (some g)) := gr_belowB Hg2.out hb4
      go_roundw
      case rel => exact ⟨k - 1, _, a' + 1, by go_num, by simp; omega, by omega, Hs4, Hg4, hown4⟩
      case measure => simp [Lib.intOf]; omega
    · have hbk := hown.back (P := Tryd.prog) 22 9 Tryd.underlying22 Tryd.underlying5 Tryd.underlying9
      have hps : (⟨p.toArray⟩ : ByteArray).size ≤ 6 := by show p.toArray.size ≤ 6; rw [List.size_toArray]; omega
      go_wp2
      go_ret
      exact ⟨_, a', rfl, hps, by omega, Hs.out, Hg.out⟩
theorem by_byte (n : Int) (h0 : 0 ≤ n) (h1 : n < 256) : ∃ b : UInt8, (b.toNat : Int) = n := ⟨UInt8.ofNat n.toNat, by simp [UInt8.toNat_ofNat']; omega⟩
end Go.Proofs.YtgibjilghnnnmaaDoor
