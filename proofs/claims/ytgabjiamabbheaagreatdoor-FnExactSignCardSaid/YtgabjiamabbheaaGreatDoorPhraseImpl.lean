
/- The walks of the two Phrase. -/
import Derived.Test.YtgabjiamabbheaaGreatDoorPhraseQuote
namespace Go.Proofs.YtgabjiamabbheaaGreatDoor
open Go.RowKit Go.Lib
set_option maxRecDepth 20000 in
theorem part_size (sep : ByteArray) (sv : Nat) : ∀ (k : Nat) (s q : ByteArray), q ∈ splitB sep sv k s → q.size ≤ s.size
  | 0, s, q, h => by
    rw [splitB_zero, List.mem_singleton] at h
    rw [h]; exact Nat.le_refl _
  | k + 1, s, q, h => by
    unfold splitB at h
    split at h
    · rw [List.mem_singleton] at h
      rw [h]; exact Nat.le_refl _
    · rcases List.mem_cons.1 h with h | h
      · rw [h, ByteArray.size_extract]; omega
      · have := part_size sep sv k _ q h
        rw [ByteArray.size_extract] at this
        omega
set_option maxRecDepth 20000 in
theorem parts_all (d : UInt8) (hd : Pl.atom d = false) (s : ByteArray) : ((splitB ⟨#[d]⟩ 0 (countB s ⟨#[d]⟩) s).all fun q => Pl.okA q.data.toList) = Pl.scan d false s.data.toList := by
  rw [← Pl.scan_all d hd, ← Pl.split_sp]
  have := splitB_data ⟨#[d]⟩ 0 (countB s ⟨#[d]⟩) s
  rw [show (ByteArray.mk #[d]).data.toList = [d] from rfl] at this
  rw [show count s.data.toList [d] = countB s ⟨#[d]⟩ from rfl, ← this, List.all_map]
  rfl
set_option maxRecDepth 20000 in
theorem bcell_lt {w : World} {a : Addr} {v : Value} (h : w.cell? a = some v) : a.block < w.heap.size := by
  by_cases hb : a.block < w.heap.size
  · exact hb
  · have e : w.heap[a.block]? = none := Array.getElem?_eq_none (by omega)
    simp [World.cell?, e] at h
set_option maxRecDepth 20000 in
set_option maxHeartbeats 1000000 in
theorem implAreAtoms (d : UInt8) (hd : Pl.atom d = false) (s : ByteArray) (m : Int) (w : World) (hs : s.size ≤ 100000) (hm : w.cell? ⟨0, 0, none⟩ = some (.int .i64 m)) :
    Calls Tryz.prog 132 #[.string s, .string ⟨#[d]⟩] w fun e w' => e = .returned (.bool (Pl.scan d false s.data.toList)) ∧ Below w.heap.size w w' := by
  have h1 : (ByteArray.mk #[d]).size = 1 := rfl
  have hsp := Tryz.strings_Split s ⟨#[d]⟩ m w (by omega) hm (by omega)
  have hln := splitB_all ⟨#[d]⟩ (by omega) 0 _ s rfl
  have hsz := part_size ⟨#[d]⟩ 0 (countB s ⟨#[d]⟩) s
  have hcl := countB_le ⟨#[d]⟩ (by omega) s.size s (Nat.le_refl _)
  rw [← parts_all d hd]
  rw [← hln] at hsp
  generalize hP : splitB ⟨#[d]⟩ 0 (countB s ⟨#[d]⟩) s = parts at hsp hln hsz ⊢
  obtain ⟨A, hA⟩ : ∃ A, (parts.all fun q => Pl.okA q.data.toList) = A := ⟨_, rfl⟩
  rw [hA]
  have HA : Hid (((parts.drop 0).all fun q => Pl.okA q.data.toList) = A) := hA
  have Hsz := (show Hid (∀ q, q ∈ parts → q.size ≤ s.size) from fun q hq => hsz q hq)
  have hn : parts.length ≤ 100001 := by omega
  obtain ⟨W1, hW1⟩ : ∃ W1, w.alloc (.cells (parts.map Value.string).toArray 9) = W1 := ⟨_, rfl⟩
  have hcell : Hid (∀ k (h : k < parts.length), W1.cell? ⟨w.heap.size, k, none⟩ = some (.string parts[k])) := show ∀ k (h : k < parts.length), _ from by
    intro k h
    rw [← hW1]
    simp [h]
  have hbW : Below w.heap.size w W1 := by rw [← hW1]; exact (Below.refl _ _).alloc (Nat.le_refl _) _
  rw [hW1] at hsp
  have hadd := fun k => add_off w.heap.size k
  clear hd hA hP hsz hln hcl hm hW1
  go_enter Tryz.func132, Tryz.ntmps132
  go_wp2_with fail
  refine hsp.mono ?_
  rintro e w1 ⟨rfl, rfl⟩
  clear hsp
  go_wp2
  go_loopw [6, 11] (fun _ i wr => ∃ k : Nat, k ≤ parts.length ∧ i = .int .i64 k ∧ Hid (((parts.drop k).all fun q => Pl.okA q.data.toList) = A) ∧ wr = w1) (fun _ i _ => parts.length - (Lib.intOf i).toNat)
  case atStart => exact ⟨0, Nat.zero_le _, rfl, HA, rfl⟩
  case round =>
    clear HA
    obtain ⟨k, hk, rfl, hp, rfl⟩ := hrel
    by_cases hlt : k < parts.length
    · have hc := hcell.out k hlt
      have hq := Hsz.out parts[k] (List.getElem_mem _)
      have hst : Hid (((parts.drop k).all fun q => Pl.okA q.data.toList) = (Pl.okA parts[k].data.toList && ((parts.drop (k + 1)).all fun q => Pl.okA q.data.toList))) := show _ = _ from by
        rw [List.drop_eq_getElem_cons hlt, List.all_cons]
      generalize parts[k] = q at hc hq hst
      have hall := fun w => implAllOf kindAtom q w (by omega)
      by_cases h0 : q.size = 0
      · have hE : q.toList.isEmpty = true := by
          rw [ByteArray.toList_eq, List.isEmpty_iff]
          exact List.length_eq_zero_iff.1 (by rw [Pl.len_list]; exact h0)
        have hB : Hid (A = false) := show _ = _ from by
          rw [← hp.out, hst.out]
          rw [ByteArray.toList_eq] at hE
          simp [Pl.okA, hE]
        clear hp hst
        go_wp2
        go_ret
        exact ⟨by rw [hB.out]; rfl, hbW⟩
      · have hE : q.toList.isEmpty = false := by
          rw [ByteArray.toList_eq, List.isEmpty_eq_false_iff]
          intro e
          exact h0 (by rw [← Pl.len_list, e]; rfl)
        cases hall2 : q.data.toList.all Pl.atom <;> simp only [hall2] at hall
        · have hB : Hid (A = false) := show _ = _ from by
            rw [← hp.out, hst.out, Pl.okA, hall2, Bool.and_false, Bool.false_and]
          clear hp hst hall2
          go_wp2_with (go_at_call 109; go_must (refine (hall _).mono ?_; rintro e w2 ⟨rfl, rfl⟩))
          go_ret
          exact ⟨by rw [hB.out]; rfl, hbW⟩
        · have hB : Hid (((parts.drop (k + 1)).all fun q => Pl.okA q.data.toList) = A) := show _ = _ from by
            have := hst.out
            rw [ByteArray.toList_eq] at hE
            rw [hp.out, Pl.okA, hall2, hE, Bool.not_false, Bool.true_and, Bool.true_and] at this
            exact this.symm
          clear hp hst hall2
          go_wp2_with (go_at_call 109; go_must (refine (hall _).mono ?_; rintro e w2 ⟨rfl, rfl⟩))
          go_roundw
          case rel => exact ⟨k + 1, by omega, by go_num, hB, trivial⟩
          case measure => simp [Lib.intOf]; omega
    · have H0 : Hid (A = true) := show _ = _ from by rw [← hp.out, List.drop_eq_nil_of_le (by omega)]; rfl
      clear hp
      go_wp2
      go_ret
      exact ⟨by rw [H0.out]; rfl, hbW⟩
end Go.Proofs.YtgabjiamabbheaaGreatDoor
