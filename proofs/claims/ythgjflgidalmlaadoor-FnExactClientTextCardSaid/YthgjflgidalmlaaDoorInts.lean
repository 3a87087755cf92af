
/- Lists of numbers that were handed in; the law's helpers over them, and over texts. -/
import Derived.Test.YthgjflgidalmlaaDoorTexts
namespace Go.Proofs.YthgjflgidalmlaaDoor
open Go.RowKit Go.Lib Go.Maps
/-- The slice of numbers at o, in blocks below B. -/
def Ints (B : Nat) (w : World) (o : Option Addr) (ps : List Int) : Prop := ∀ k (h : k < ps.length), ∃ a, o = some a ∧ a.block < B ∧ w.cell? (a.add k) = some (.int .i64 ps[k])
theorem Ints.below {B : Nat} {w w' : World} {o : Option Addr} {ps : List Int} (h : Ints B w o ps) (hb : Below B w w') : Ints B w' o ps := by
  intro k hk
  obtain ⟨a, rfl, ha, hc⟩ := h k hk
  refine ⟨a, rfl, ha, ?_⟩
  rw [← hc]
  have e : (a.add k).block = a.block := by unfold Addr.add; split <;> rfl
  exact hb.cell (by rw [e]; exact ha)
theorem Ints.mono {B B' : Nat} {w : World} {o : Option Addr} {ps : List Int} (h : Ints B w o ps) (hB : B ≤ B') : Ints B' w o ps := by
  intro k hk
  obtain ⟨a, rfl, ha, hc⟩ := h k hk
  exact ⟨a, rfl, by omega, hc⟩
theorem Tryd.info2 : (Tryd.prog.info? 2).map (fun i => (i.zero, i.size, i.bytes)) = some (some (.int .i64 0), 1, 8) := by kernel_rfl
set_option maxHeartbeats 1000000 in
theorem lawSzTextsB (o : Option Addr) (F : List ByteArray) (cap m : Nat) (w : World) (hF : Tx w.heap.size w o F) (hlen : F.length ≤ maxLen) (hsz : ∀ t ∈ F, t.size ≤ maxLen) (hm : m ≤ 1048576) :
    Calls Tryd.prog 22 #[.slice o F.length cap, .int .i64 m] w fun e w' => ∃ r : Int, e = .returned (.int .i64 r) ∧ (r = -1 ∨ (0 ≤ r ∧ r ≤ m ∧ F.length ≤ 1048576 ∧ ∀ t ∈ F, t.size ≤ 1048576)) ∧ Below w.heap.size w w' := by
  have HF : Hid (Tx w.heap.size w o F) := hF
  have Hsz : Hid (∀ t ∈ F, t.size ≤ maxLen) := hsz
  clear hF hsz
  unfold maxLen at hlen
  by_cases h0 : m < F.length
  · go_enter Tryd.func22, Tryd.ntmps22
    go_wp2
    go_ret
    exact ⟨-1, rfl, .inl rfl, Below.refl _ _⟩
  · obtain ⟨r0, hr0⟩ : ∃ r0 : Nat, m - F.length = r0 := ⟨_, rfl⟩
    have hr1 : (m : Int) - (F.length : Int) = (r0 : Int) := by omega
    go_enter Tryd.func22, Tryd.ntmps22
    clear hr0 h0
    have hr2 : r0 ≤ m := by omega
    have hlm : F.length ≤ 1048576 := by omega
    go_wp2
    clear hr1
    go_loopw [1, 5] (fun l i wr => ∃ (k r : Nat), k ≤ F.length ∧ i = .int .i64 k ∧ l = .int .i64 r ∧ r ≤ r0 ∧ Hid (∀ j (h : j < F.length), j < k → F[j].size ≤ 1048576) ∧ wr = w) (fun _ i _ => F.length - (Lib.intOf i).toNat)
    case atStart => exact ⟨0, r0, Nat.zero_le _, rfl, rfl, Nat.le_refl _, fun j h h0 => absurd h0 (Nat.not_lt_zero _), rfl⟩
    case round =>
      obtain ⟨k, r, hk, rfl, rfl, hr, hall, rfl⟩ := hrel
      by_cases hlt : k < F.length
      · obtain ⟨a, rfl, ha, hc0⟩ := HF.out k hlt
        have hkz := Hsz.out F[k] (List.getElem_mem hlt)
        unfold maxLen at hkz
        have Hk : Hid (F[k].size ≤ r → F[k].size ≤ 1048576) := show _ → _ from fun h => by omega
        generalize hf : F[k] = f at hc0 hkz Hk
        have Hf : Hid (F[k] = f) := hf
        clear hf
        by_cases hs : r < f.size
        · go_wp2
          go_ret
          exact ⟨-1, rfl, .inl rfl, Below.refl _ _⟩
        · obtain ⟨r1, hr1⟩ : ∃ r1 : Nat, r - f.size = r1 := ⟨_, rfl⟩
          have hr3 : (r : Int) - (f.size : Int) = (r1 : Int) := by omega
          have hr4 : r1 ≤ r := by omega
          have Hks : Hid (f.size ≤ 1048576) := Hk.out (by omega)
          clear hr1 Hk
          go_wp2
          go_roundw
          case rel =>
            refine ⟨k + 1, r1, by omega, by go_num, by first | rfl | (rw [hr3]), by omega, ?_, trivial⟩
            intro j h hj
            by_cases hjk : j < k
            · exact hall.out j h hjk
            · have : j = k := by omega
              subst this
              rw [Hf.out]; exact Hks.out
          case measure => simp [Lib.intOf]; omega
      · have Hall : Hid (∀ t ∈ F, t.size ≤ 1048576) := by
          intro t ht
          obtain ⟨j, hj, rfl⟩ := List.getElem_of_mem ht
          exact hall.out j hj (by omega)
        go_wp2
        go_ret
        exact ⟨r, rfl, .inr ⟨by omega, by omega, hlm, Hall.out⟩, Below.refl _ _⟩
end Go.Proofs.YthgjflgidalmlaaDoor
