
/- The program's coder: texts and nodes of its own. -/
import Derived.Test.YtonnmbkfjiddnaaCompSpec3
namespace Go.Proofs.Ytonnmbkfjiddnaa
open Go.RowKit Go.Lib Go.Maps
theorem spot_noneC {w : World} {p : Addr} {v : Value} (h : w.cell? p = some v) : p.spot = none := by
  unfold World.cell? at h
  split at h
  · cases hs : p.spot with
    | none => rfl
    | some x => simp [hs] at h
  · cases h
/-- A list of texts copied. -/
theorem libCloneT (ps : List ByteArray) (o : Option Addr) (cap : Nat) (w : World) (hT : Tx w.heap.size w o ps) (hlen : ps.length ≤ 1048576) :
    Calls Try.prog 75 #[.slice o ps.length cap] w fun e w' => ∃ v', e = .returned v' ∧ OwnX w.heap.size v' ps w' ∧ Below w.heap.size w w' := by
  cases o with
  | none =>
    have hp : ps = [] := by
      cases ps with
      | nil => rfl
      | cons y t => obtain ⟨a, h1, -⟩ := hT 0 (by simp); cases h1
    subst hp
    refine (Try.slices_Clone_string_nil 0 cap w).mono ?_
    rintro e w' ⟨rfl, rfl⟩
    exact ⟨_, rfl, OwnX.nil _ _, Below.refl _ _⟩
  | some a =>
    cases ps with
    | nil =>
      refine (Try.slices_Clone_string_zero a cap w).mono ?_
      rintro e w' ⟨v', rfl, h1, -, h2⟩
      exact ⟨v', rfl, h1, h2⟩
    | cons y t =>
      have hn : a = ⟨a.block, a.off, none⟩ := by
        obtain ⟨a', h1, -, h2⟩ := hT 0 (by simp)
        cases h1
        have h3 := spot_noneC h2
        rw [show a.add 0 = a from rfl] at h3
        obtain ⟨b, f, s⟩ := a
        simp only at h3
        subst h3
        rfl
      have ha : some a = some ⟨a.block, a.off, none⟩ := congrArg some hn
      rw [ha]
      refine (Try.slices_Clone_string a.block a.off (y :: t).length cap (y :: t) w (Nat.le_refl _) (by omega) ?_).mono ?_
      · intro j hj
        obtain ⟨a', h1, -, h2⟩ := hT j hj
        cases h1
        have h3 : a.add j = ⟨a.block, a.off + j, none⟩ := by
          cases j with
          | zero => exact hn
          | succ j => rfl
        rw [h3] at h2
        rw [h2, List.getD_eq_getElem?_getD, List.getElem?_eq_getElem hj]
        rfl
      · rintro e w' ⟨v', rfl, h1, -, h2⟩
        rw [List.take_length] at h1
        exact ⟨v', rfl, h1, h2⟩
set_option maxHeartbeats 4000000 in
theorem implOwnTexts (ps : List ByteArray) (o : Option Addr) (cap : Nat) (w : World) (hT : Tx w.heap.size w o ps) (hlen : ps.length ≤ 1048576) (hsz : ∀ t ∈ ps, t.size ≤ 1048576) :
    Calls Try.prog 59 #[.slice o ps.length cap] w fun e w' => ∃ v', e = .returned v' ∧ OwnX w.heap.size v' ps w' ∧ Below w.heap.size w w' := by
  have k1 := mkHid (libCloneT ps o cap w hT hlen)
  have Hsz := mkHid hsz
  clear hT hsz
  go_enter Try.func59, Try.ntmps59
  go_wp2_with (go_at_call 75; fail)
  refine k1.out.mono ?_
  rintro e w1 ⟨v', rfl, hO, hb⟩
  obtain ⟨oo, oc, rfl⟩ := hO.shape
  have HO := mkHid hO
  have Hb := mkHid hb
  clear hO hb k1
  go_wp2
  go_loopw [9] (fun iv wr => ∃ k : Nat, k ≤ ps.length ∧ iv = .int .i64 k ∧ Hid (OwnX w.heap.size (.slice oo ps.length oc) ps wr) ∧ Hid (Below w.heap.size w wr)) (fun iv _ => ps.length - (Lib.intOf iv).toNat)
  case atStart => exact ⟨0, Nat.zero_le _, rfl, HO, Hb⟩
  case round =>
    clear HO Hb
    obtain ⟨k, hkk, rfl, hO, hb⟩ := hrel
    by_cases hlt : k < ps.length
    · have hq : ∃ q, oo = some ⟨q, 0, none⟩ := by
        rcases hO.out.2 with ⟨h1, h0⟩ | ⟨q, cap', cur, h1, -⟩
        · omega
        · simp only [Value.slice.injEq] at h1
          exact ⟨q, h1.1⟩
      obtain ⟨q, rfl⟩ := hq
      have hc : wr.cell? ⟨q, k, none⟩ = some (.string ps[k]) := by
        have := World.ownsRow.cells hO.out (g := q) rfl k (.string ps[k]) (by unfold strCellsX; rw [List.getElem?_map, List.getElem?_eq_getElem hlt]; rfl)
        rw [add_off] at this
        exact this
      have k2 := mkHid (libClone ps[k] wr (by have := Hsz.out _ (List.getElem_mem hlt); omega))
      have hset : Hid ((strCellsX ps).set k (.string ps[k]) = strCellsX ps) := by
        show _ = _
        unfold strCellsX
        apply List.ext_getElem
        · simp
        · intro i h1 h2
          rw [List.getElem_set]
          split
          · rename_i h; subst h; simp
          · rfl
      have hadd := add_off q k
      generalize ps[k] = t at *
      go_wp2_with (go_at_call 58; fail)
      refine k2.out.mono ?_
      rintro e w2 ⟨rfl, hb2⟩
      have hO2 := hO.out.below hb2
      have hlo : w.heap.size ≤ q := (World.ownsRow.lt hO2 q rfl).1
      have d0 := World.ownsRow.cells hO2 (g := q) rfl k (.string t) (by rw [← hset.out, List.getElem?_set_self (by unfold strCellsX; rw [List.length_map]; exact hlt)])
      rw [add_off] at d0
      have z0 := World.ownsRow.frozenAt hO2 k
      have hst := (World.ownsRow.stored hO2 k (.string t)).1
      rw [hset.out] at hst
      have HO3 : Hid (OwnX w.heap.size (.slice (some ⟨q, 0, none⟩) ps.length oc) ps (w2.setCell ⟨q, k, none⟩ (.string t))) := hst
      have Hb3 := mkHid ((hb.out.trans (hb2.mono (by have := hb.out.size; omega))).setCell (p := ⟨q, k, none⟩) hlo (.string t))
      clear hO2 hst hb2 hO hb hc k2 hset
      go_wp2
      go_roundw
      case rel => exact ⟨k + 1, by omega, by go_num, HO3, Hb3⟩
      case measure => simp [Lib.intOf]; omega
    · go_wp2
      go_ret
      exact ⟨_, rfl, hO.out, hb.out⟩
end Go.Proofs.Ytonnmbkfjiddnaa
