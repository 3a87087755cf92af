/- The walks of the two CharsetOf. -/
import Derived.Test.YtpnebokcddgahajRDoorName
import Derived.Test.YtpnebokcddgahajRDoorBytes
import Derived.WalkKit
import Derived.WalkSmall
import Derived.WalkLawsBesides
import Derived.WalkSpells
namespace Go.Proofs.YtpnebokcddgahajRDoor
open Go.RowKit
set_option maxHeartbeats 1000000 in
theorem implLowered (s : ByteArray) (w : World) (hs : s.size ≤ 100000) :
    Calls Tryd.prog 29 #[.string s] w fun e w' => e = .returned (.string ⟨(lower s.data.toList).toArray⟩) ∧ Below w.heap.size w w' := by
  obtain ⟨cap, W, hcv, hh, hbW⟩ := bytesOf (P := Tryd.prog) 9 30 Tryd.underlying9 Tryd.underlying30 Tryd.underlying5 s w
  go_enter Tryd.func29, Tryd.ntmps29
  go_wp2
  clear hcv
  go_loopw [10] (fun i wr => ∃ k : Nat, k ≤ s.size ∧ i = .int .i64 k ∧ HoldsB w.heap.size (lowTo s.data.toList k) wr ∧ Below w.heap.size w wr) (fun i _ => s.size - (RowKit.intOf i).toNat)
  case atStart => exact ⟨0, by omega, rfl, by rw [lowTo_zero]; exact hh, hbW⟩
  case round =>
    obtain ⟨k, hk, rfl, hold, hb⟩ := hrel
    have hll : s.data.toList.length = s.size := by simp
    by_cases hlt : k < s.size
    · obtain ⟨hc, hf⟩ := hold k (by rw [lowTo_len]; omega)
      rw [lowTo_get _ _ (by omega)] at hc
      have hset := lowTo_set s.data.toList k (by omega)
      have hsame := lowTo_same s.data.toList k (by omega)
      have hst := fun c => hold.set k (by rw [lowTo_len]; omega) c
      generalize s.data.toList[k] = c at hc hset hsame
      have h8 : c.toNat < 256 := UInt8.toNat_lt _
      by_cases hc1 : 65 ≤ c.toNat ∧ c.toNat ≤ 90
      · have hv := small_yes c hc1
        have hst' := mkH (hst (small c))
        rw [hset, hv] at hst'
        obtain ⟨h65, h90⟩ := hc1
        clear hset hsame hst hold hv hll
        have hb' := hb.setCell (p := ⟨w.heap.size, k, none⟩) (Nat.le_refl _) (.int .u8 ((c.toNat : Int) + 32))
        have hb'' := mkH hb'
        clear hb'
        go_wp2
        rw [show (c.toNat : Int) - 65 + 97 = (c.toNat : Int) + 32 by omega]
        go_roundw
        case rel => exact ⟨k + 1, by omega, by go_num, hst'.out, hb''.out⟩
        case measure => simp [RowKit.intOf]; omega
      · have hv := mkH (hsame (small_no c hc1))
        clear hset hsame hst hll
        by_cases h65 : 65 ≤ c.toNat
        · have h90 : 90 < c.toNat := by omega
          clear hc1
          go_wp2
          go_roundw
          case rel => exact ⟨k + 1, by omega, by go_num, by rw [← hv.out]; exact hold, hb⟩
          case measure => simp [RowKit.intOf]; omega
        · clear hc1
          go_wp2
          go_roundw
          case rel => exact ⟨k + 1, by omega, by go_num, by rw [← hv.out]; exact hold, hb⟩
          case measure => simp [RowKit.intOf]; omega
    · rw [lowTo_all _ _ (by omega)] at hold
      have hlen : (lower s.data.toList).length = s.size := by simp [lower]
      have hbk := hold.back (P := Tryd.prog) (cap := cap) 30 9 Tryd.underlying30 Tryd.underlying5 Tryd.underlying9
      rw [hlen] at hbk
      clear hlen hll hold
      go_wp2
      go_ret
      exact ⟨rfl, hb⟩
theorem Tryd.info5 : (Tryd.prog.info? 5).map (fun i => (i.zero, i.size, i.bytes)) = some (some (.int .u8 0), 1, 1) := by kernel_rfl
set_option maxHeartbeats 400000 in
theorem specSmall (c : UInt8) (w : World) :
    Calls Tryd.prog 44 #[.int .u8 (c.toNat : Int)] w fun e w' => e = .returned (.int .u8 ((small c).toNat : Int)) ∧ w = w' := by
  have h8 : c.toNat < 256 := UInt8.toNat_lt _
  by_cases hc : 65 ≤ c.toNat ∧ c.toNat ≤ 90
  · rw [small_yes c hc]
    obtain ⟨h65, h90⟩ := hc
    go_enter Tryd.func44, Tryd.ntmps44
    go_wp2
    go_ret
    exact ⟨rfl, rfl⟩
  · rw [small_no c hc]
    by_cases h65 : 65 ≤ c.toNat
    · have h90 : 90 < c.toNat := by omega
      clear hc
      go_enter Tryd.func44, Tryd.ntmps44
      go_wp2
      go_ret
      exact ⟨rfl, rfl⟩
    · clear hc
      go_enter Tryd.func44, Tryd.ntmps44
      go_wp2
      go_ret
      exact ⟨rfl, rfl⟩
set_option maxHeartbeats 400000 in
theorem specLower (s : ByteArray) (w : World) (hs : s.size ≤ 100000) :
    Calls Tryd.prog 28 #[.string s] w fun e w' => e = .returned (.string ⟨(lower s.data.toList).toArray⟩) ∧ Below w.heap.size w w' := by
  obtain ⟨i0, hi, hz0, hz1, hz2⟩ := info_parts Tryd.info5
  go_enter Tryd.func28, Tryd.ntmps28
  go_wp2
  go_loopw [3, 4] (fun v i wr => ∃ k : Nat, k ≤ s.size ∧ i = .int .i64 k ∧ Own w.heap.size v (lower (s.data.toList.take k)) wr ∧ Below w.heap.size w wr) (fun _ i _ => s.size - (RowKit.intOf i).toNat)
  case atStart => exact ⟨0, Nat.zero_le _, rfl, Own.made _ _ (Nat.le_refl _), (Below.refl _ _).alloc (Nat.le_refl _) _⟩
  case round =>
    obtain ⟨k, hk, rfl, hown, hb⟩ := hrel
    by_cases hlt : k < s.size
    · have hll : s.data.toList.length = s.size := by simp
      have hlen : (lower (s.data.toList.take k)).length = k := by simp only [lower, List.length_map, List.length_take]; omega
      have hstep : Hid (lower (s.data.toList.take k) ++ [small s[k]] = lower (s.data.toList.take (k + 1))) := by
        rw [List.take_succ_eq_append_getElem (by omega), lower, lower, List.map_append]; exact rfl
      have h8 : (small s[k]).toNat < 256 := UInt8.toNat_lt _
      generalize lower (s.data.toList.take k) = p at *
      clear hll
      go_wp2_with fail
      refine (specSmall s[k] _).mono ?_
      rintro e w2 ⟨rfl, rfl⟩
      generalize small s[k] = c at *
      go_wp2_with (at_builtin; go_must (refine wp_app (W := w) rfl _ _ 30 rfl i0 Tryd.underlying30 hi hz0 hz1 hz2 w.heap.size u3 p rfl hown _ [c] rfl 1 1 rfl rfl (by simp; omega) (Nat.le_refl _) hb ?_; intro v' w' hown' hb'))
      go_roundw
      case rel => exact ⟨k + 1, by omega, by go_num, by rw [← hstep.out]; exact hown', hb'⟩
      case measure => simp [RowKit.intOf]; omega
    · rw [List.take_of_length_le (by simp; omega)] at hown
      have hbk := hown.back (P := Tryd.prog) 30 9 Tryd.underlying30 Tryd.underlying5 Tryd.underlying9
      go_wp2
      go_ret
      exact ⟨rfl, hb⟩
/-- The number of a name, from a row on. -/
def setFrom (k : Nat) (x : List UInt8) : Int := match (tab.drop k).find? (fun r => r.1 == x) with | some r => r.2 | none => 0
theorem setFrom_step (k : Nat) (x : List UInt8) (h : k < tab.length) : setFrom k x = if tab[k].1 = x then tab[k].2 else setFrom (k + 1) x := by
  unfold setFrom
  rw [List.drop_eq_getElem_cons h, List.find?_cons]
  by_cases e : tab[k].1 = x
  · rw [if_pos e, beq_iff_eq.2 e]
  · rw [if_neg e, beq_eq_false_iff_ne.2 e]
theorem setFrom_long (x : List UInt8) (h : 20 < x.length) : setFrom 0 x = 0 := by
  have e : (tab.drop 0).find? (fun r => r.1 == x) = none := by
    rw [List.find?_eq_none]
    intro r hr e
    have e := beq_iff_eq.1 e
    have hall : ∀ r ∈ tab, r.1.length ≤ 20 := by decide
    have := hall r hr
    rw [e] at this
    omega
  unfold setFrom
  rw [e]
set_option maxHeartbeats 1000000 in
theorem specOf (s : ByteArray) (w : World) (hs : s.size ≤ 1048576) :
    Calls Tryd.prog 12 #[.string s] w fun e w' => e = .returned (.int .i64 (setFrom 0 (lower s.data.toList))) ∧ Below w.heap.size w w' := by
  by_cases h20 : 20 < s.size
  · rw [setFrom_long _ (by simpa [lower] using h20)]
    go_enter Tryd.func12, Tryd.ntmps12
    go_wp2
    go_ret
    exact ⟨rfl, Below.refl _ _⟩
  have hlw := mkH (specLower s w (by omega))
  generalize lower s.data.toList = x at *
  go_enter Tryd.func12, Tryd.ntmps12
  go_wp2_with fail
  refine hlw.out.mono ?_
  rintro e w1 ⟨rfl, hb⟩
  by_cases n0 : x = [117, 115, 45, 97, 115, 99, 105, 105]
  · subst n0
    go_wp2
    go_ret
    exact ⟨rfl, hb⟩
  by_cases n1 : x = [97, 115, 99, 105, 105]
  · subst n1
    go_wp2
    go_ret
    exact ⟨rfl, hb⟩
  by_cases n2 : x = [105, 115, 111, 45, 56, 56, 53, 57, 45, 49]
  · subst n2
    go_wp2
    go_ret
    exact ⟨rfl, hb⟩
  by_cases n3 : x = [108, 97, 116, 105, 110, 49]
  · subst n3
    go_wp2
    go_ret
    exact ⟨rfl, hb⟩
  by_cases n4 : x = [105, 115, 111, 45, 56, 56, 53, 57, 45, 49, 53]
  · subst n4
    go_wp2
    go_ret
    exact ⟨rfl, hb⟩
  by_cases n5 : x = [108, 97, 116, 105, 110, 57]
  · subst n5
    go_wp2
    go_ret
    exact ⟨rfl, hb⟩
  by_cases n6 : x = [117, 116, 102, 45, 56]
  · subst n6
    go_wp2
    go_ret
    exact ⟨rfl, hb⟩
  by_cases n7 : x = [117, 116, 102, 56]
  · subst n7
    go_wp2
    go_ret
    exact ⟨rfl, hb⟩
  by_cases n8 : x = [117, 116, 102, 45, 49, 54, 98, 101]
  · subst n8
    go_wp2
    go_ret
    exact ⟨rfl, hb⟩
  have q0 : (x == [117, 115, 45, 97, 115, 99, 105, 105]) = false := beq_eq_false_iff_ne.2 n0
  have q1 : (x == [97, 115, 99, 105, 105]) = false := beq_eq_false_iff_ne.2 n1
  have q2 : (x == [105, 115, 111, 45, 56, 56, 53, 57, 45, 49]) = false := beq_eq_false_iff_ne.2 n2
  have q3 : (x == [108, 97, 116, 105, 110, 49]) = false := beq_eq_false_iff_ne.2 n3
  have q4 : (x == [105, 115, 111, 45, 56, 56, 53, 57, 45, 49, 53]) = false := beq_eq_false_iff_ne.2 n4
  have q5 : (x == [108, 97, 116, 105, 110, 57]) = false := beq_eq_false_iff_ne.2 n5
  have q6 : (x == [117, 116, 102, 45, 56]) = false := beq_eq_false_iff_ne.2 n6
  have q7 : (x == [117, 116, 102, 56]) = false := beq_eq_false_iff_ne.2 n7
  have q8 : (x == [117, 116, 102, 45, 49, 54, 98, 101]) = false := beq_eq_false_iff_ne.2 n8
  have e : setFrom 0 x = 0 := by
    simp [setFrom, tab, Ne.symm n0, Ne.symm n1, Ne.symm n2, Ne.symm n3, Ne.symm n4, Ne.symm n5, Ne.symm n6, Ne.symm n7, Ne.symm n8]
  have He := mkH e
  clear e n0 n1 n2 n3 n4 n5 n6 n7 n8
  go_wp2
  go_ret
  rw [He.out]
  exact ⟨rfl, hb⟩
set_option maxHeartbeats 1000000 in
theorem implOf (s : ByteArray) (w : World) (hs : s.size ≤ 1048576) (t : TypeId) (fr : Nat × Nat) (h0 : w.heap[0]? = some (.cells arr t fr)) (hz : 0 < w.heap.size) :
    Calls Tryd.prog 13 #[.string s] w fun e w' => e = .returned (.int .i64 (setFrom 0 (lower s.data.toList))) ∧ Below w.heap.size w w' := by
  by_cases hlong : 100000 < s.size
  · rw [setFrom_long _ (by simp [lower]; omega)]
    go_enter Tryd.func13, Tryd.ntmps13
    go_wp2
    go_ret
    exact ⟨rfl, Below.refl _ _⟩
  have hlw := mkH (implLowered s w (by omega))
  generalize lower s.data.toList = x at *
  have hc0 : decide ((100000 : Int) < (s.size : Int)) = false := by simp; omega
  go_enter Tryd.func13, Tryd.ntmps13
  go_wp2_with (first | (go_at_call 18; go_in) | fail)
  refine hlw.out.mono ?_
  rintro e w1 ⟨rfl, hb1⟩
  have h01 : w1.heap[0]? = some (.cells arr t fr) := (hb1.block 0 hz).trans h0
  clear h0
  go_wp2_with (refine wpList_load_row rfl 48 _ rfl 0 rfl t arr fr _ h01 Tryd.underlying48 rfl (by kernel_rfl) ?_)
  clear h01
  go_loopw [10] (fun i wr => ∃ k : Nat, k ≤ 9 ∧ i = .int .i64 k ∧ Hid (setFrom k x = setFrom 0 x) ∧ Below w.heap.size w wr) (fun i _ => 9 - (RowKit.intOf i).toNat)
  case atStart => exact ⟨0, by omega, rfl, rfl, hb1⟩
  case round =>
    obtain ⟨k, hk, rfl, hp, hb⟩ := hrel
    have hbs := hb.size
    by_cases hlt : k < 9
    · obtain rfl | rfl | rfl | rfl | rfl | rfl | rfl | rfl | rfl : k = 0 ∨ k = 1 ∨ k = 2 ∨ k = 3 ∨ k = 4 ∨ k = 5 ∨ k = 6 ∨ k = 7 ∨ k = 8 := by omega
      · have hst : setFrom 0 x = if [117, 115, 45, 97, 115, 99, 105, 105] = x then (1 : Int) else setFrom 1 x := setFrom_step 0 x (by decide)
        have hidx := idx0 wr
        by_cases e : [117, 115, 45, 97, 115, 99, 105, 105] = x
        · rw [if_pos e] at hst
          have hq : ([117, 115, 45, 97, 115, 99, 105, 105] == x) = true := beq_iff_eq.2 e
          have Hr : Hid (setFrom 0 x = 1) := hp.out.symm.trans hst
          clear hst e hp
          go_wp2
          go_ret
          rw [Hr.out]
          exact ⟨rfl, hb.alloc hbs _⟩
        · rw [if_neg e] at hst
          have hq : ([117, 115, 45, 97, 115, 99, 105, 105] == x) = false := beq_eq_false_iff_ne.2 e
          have Hr : Hid (setFrom 1 x = setFrom 0 x) := hst.symm.trans hp.out
          clear hst e hp
          go_wp2
          go_roundw
          case rel => exact ⟨1, by omega, by go_num, Hr, hb.alloc hbs _⟩
          case measure => simp [RowKit.intOf]
      · have hst : setFrom 1 x = if [97, 115, 99, 105, 105] = x then (1 : Int) else setFrom 2 x := setFrom_step 1 x (by decide)
        have hidx := idx1 wr
        by_cases e : [97, 115, 99, 105, 105] = x
        · rw [if_pos e] at hst
          have hq : ([97, 115, 99, 105, 105] == x) = true := beq_iff_eq.2 e
          have Hr : Hid (setFrom 0 x = 1) := hp.out.symm.trans hst
          clear hst e hp
          go_wp2
          go_ret
          rw [Hr.out]
          exact ⟨rfl, hb.alloc hbs _⟩
        · rw [if_neg e] at hst
          have hq : ([97, 115, 99, 105, 105] == x) = false := beq_eq_false_iff_ne.2 e
          have Hr : Hid (setFrom 2 x = setFrom 0 x) := hst.symm.trans hp.out
          clear hst e hp
          go_wp2
          go_roundw
          case rel => exact ⟨2, by omega, by go_num, Hr, hb.alloc hbs _⟩
          case measure => simp [RowKit.intOf]
      · have hst : setFrom 2 x = if [105, 115, 111, 45, 56, 56, 53, 57, 45, 49] = x then (2 : Int) else setFrom 3 x := setFrom_step 2 x (by decide)
        have hidx := idx2 wr
        by_cases e : [105, 115, 111, 45, 56, 56, 53, 57, 45, 49] = x
        · rw [if_pos e] at hst
          have hq : ([105, 115, 111, 45, 56, 56, 53, 57, 45, 49] == x) = true := beq_iff_eq.2 e
          have Hr : Hid (setFrom 0 x = 2) := hp.out.symm.trans hst
          clear hst e hp
          go_wp2
          go_ret
          rw [Hr.out]
          exact ⟨rfl, hb.alloc hbs _⟩
        · rw [if_neg e] at hst
          have hq : ([105, 115, 111, 45, 56, 56, 53, 57, 45, 49] == x) = false := beq_eq_false_iff_ne.2 e
          have Hr : Hid (setFrom 3 x = setFrom 0 x) := hst.symm.trans hp.out
          clear hst e hp
          go_wp2
          go_roundw
          case rel => exact ⟨3, by omega, by go_num, Hr, hb.alloc hbs _⟩
          case measure => simp [RowKit.intOf]
      · have hst : setFrom 3 x = if [108, 97, 116, 105, 110, 49] = x then (2 : Int) else setFrom 4 x := setFrom_step 3 x (by decide)
        have hidx := idx3 wr
        by_cases e : [108, 97, 116, 105, 110, 49] = x
        · rw [if_pos e] at hst
          have hq : ([108, 97, 116, 105, 110, 49] == x) = true := beq_iff_eq.2 e
          have Hr : Hid (setFrom 0 x = 2) := hp.out.symm.trans hst
          clear hst e hp
          go_wp2
          go_ret
          rw [Hr.out]
          exact ⟨rfl, hb.alloc hbs _⟩
        · rw [if_neg e] at hst
          have hq : ([108, 97, 116, 105, 110, 49] == x) = false := beq_eq_false_iff_ne.2 e
          have Hr : Hid (setFrom 4 x = setFrom 0 x) := hst.symm.trans hp.out
          clear hst e hp
          go_wp2
          go_roundw
          case rel => exact ⟨4, by omega, by go_num, Hr, hb.alloc hbs _⟩
          case measure => simp [RowKit.intOf]
      · have hst : setFrom 4 x = if [105, 115, 111, 45, 56, 56, 53, 57, 45, 49, 53] = x then (3 : Int) else setFrom 5 x := setFrom_step 4 x (by decide)
        have hidx := idx4 wr
        by_cases e : [105, 115, 111, 45, 56, 56, 53, 57, 45, 49, 53] = x
        · rw [if_pos e] at hst
          have hq : ([105, 115, 111, 45, 56, 56, 53, 57, 45, 49, 53] == x) = true := beq_iff_eq.2 e
          have Hr : Hid (setFrom 0 x = 3) := hp.out.symm.trans hst
          clear hst e hp
          go_wp2
          go_ret
          rw [Hr.out]
          exact ⟨rfl, hb.alloc hbs _⟩
        · rw [if_neg e] at hst
          have hq : ([105, 115, 111, 45, 56, 56, 53, 57, 45, 49, 53] == x) = false := beq_eq_false_iff_ne.2 e
          have Hr : Hid (setFrom 5 x = setFrom 0 x) := hst.symm.trans hp.out
          clear hst e hp
          go_wp2
          go_roundw
          case rel => exact ⟨5, by omega, by go_num, Hr, hb.alloc hbs _⟩
          case measure => simp [RowKit.intOf]
      · have hst : setFrom 5 x = if [108, 97, 116, 105, 110, 57] = x then (3 : Int) else setFrom 6 x := setFrom_step 5 x (by decide)
        have hidx := idx5 wr
        by_cases e : [108, 97, 116, 105, 110, 57] = x
        · rw [if_pos e] at hst
          have hq : ([108, 97, 116, 105, 110, 57] == x) = true := beq_iff_eq.2 e
          have Hr : Hid (setFrom 0 x = 3) := hp.out.symm.trans hst
          clear hst e hp
          go_wp2
          go_ret
          rw [Hr.out]
          exact ⟨rfl, hb.alloc hbs _⟩
        · rw [if_neg e] at hst
          have hq : ([108, 97, 116, 105, 110, 57] == x) = false := beq_eq_false_iff_ne.2 e
          have Hr : Hid (setFrom 6 x = setFrom 0 x) := hst.symm.trans hp.out
          clear hst e hp
          go_wp2
          go_roundw
          case rel => exact ⟨6, by omega, by go_num, Hr, hb.alloc hbs _⟩
          case measure => simp [RowKit.intOf]
      · have hst : setFrom 6 x = if [117, 116, 102, 45, 56] = x then (4 : Int) else setFrom 7 x := setFrom_step 6 x (by decide)
        have hidx := idx6 wr
        by_cases e : [117, 116, 102, 45, 56] = x
        · rw [if_pos e] at hst
          have hq : ([117, 116, 102, 45, 56] == x) = true := beq_iff_eq.2 e
          have Hr : Hid (setFrom 0 x = 4) := hp.out.symm.trans hst
          clear hst e hp
          go_wp2
          go_ret
          rw [Hr.out]
          exact ⟨rfl, hb.alloc hbs _⟩
        · rw [if_neg e] at hst
          have hq : ([117, 116, 102, 45, 56] == x) = false := beq_eq_false_iff_ne.2 e
          have Hr : Hid (setFrom 7 x = setFrom 0 x) := hst.symm.trans hp.out
          clear hst e hp
          go_wp2
          go_roundw
          case rel => exact ⟨7, by omega, by go_num, Hr, hb.alloc hbs _⟩
          case measure => simp [RowKit.intOf]
      · have hst : setFrom 7 x = if [117, 116, 102, 56] = x then (4 : Int) else setFrom 8 x := setFrom_step 7 x (by decide)
        have hidx := idx7 wr
        by_cases e : [117, 116, 102, 56] = x
        · rw [if_pos e] at hst
          have hq : ([117, 116, 102, 56] == x) = true := beq_iff_eq.2 e
          have Hr : Hid (setFrom 0 x = 4) := hp.out.symm.trans hst
          clear hst e hp
          go_wp2
          go_ret
          rw [Hr.out]
          exact ⟨rfl, hb.alloc hbs _⟩
        · rw [if_neg e] at hst
          have hq : ([117, 116, 102, 56] == x) = false := beq_eq_false_iff_ne.2 e
          have Hr : Hid (setFrom 8 x = setFrom 0 x) := hst.symm.trans hp.out
          clear hst e hp
          go_wp2
          go_roundw
          case rel => exact ⟨8, by omega, by go_num, Hr, hb.alloc hbs _⟩
          case measure => simp [RowKit.intOf]
      · have hst : setFrom 8 x = if [117, 116, 102, 45, 49, 54, 98, 101] = x then (5 : Int) else setFrom 9 x := setFrom_step 8 x (by decide)
        have hidx := idx8 wr
        by_cases e : [117, 116, 102, 45, 49, 54, 98, 101] = x
        · rw [if_pos e] at hst
          have hq : ([117, 116, 102, 45, 49, 54, 98, 101] == x) = true := beq_iff_eq.2 e
          have Hr : Hid (setFrom 0 x = 5) := hp.out.symm.trans hst
          clear hst e hp
          go_wp2
          go_ret
          rw [Hr.out]
          exact ⟨rfl, hb.alloc hbs _⟩
        · rw [if_neg e] at hst
          have hq : ([117, 116, 102, 45, 49, 54, 98, 101] == x) = false := beq_eq_false_iff_ne.2 e
          have Hr : Hid (setFrom 9 x = setFrom 0 x) := hst.symm.trans hp.out
          clear hst e hp
          go_wp2
          go_roundw
          case rel => exact ⟨9, by omega, by go_num, Hr, hb.alloc hbs _⟩
          case measure => simp [RowKit.intOf]
    · have hk' : k = 9 := by omega
      subst hk'
      have Hr : Hid (setFrom 0 x = 0) := hp.out.symm
      clear hp
      go_wp2
      go_ret
      rw [Hr.out]
      exact ⟨rfl, hb⟩
set_option maxHeartbeats 400000 in
theorem ofWalk (s : ByteArray) (w : World) (hs : s.size ≤ maxLen) (t : TypeId) (fr : Nat × Nat) (h0 : w.heap[0]? = some (.cells arr t fr)) :
    Calls Tryd.prog 5 #[.string s] w fun e w' => e = .returned (.bool true) ∧ Below w.heap.size w w' := by
  unfold maxLen at hs
  by_cases hbig : 1048576 < s.size
  · go_enter Tryd.func5, Tryd.ntmps5
    go_wp2
    go_ret
    exact ⟨rfl, Below.refl _ _⟩
  · have hz : 0 < w.heap.size := by
      by_cases hz : 0 < w.heap.size
      · exact hz
      · rw [Array.getElem?_eq_none (by omega)] at h0; cases h0
    have hsp := mkH (fun W => specOf s W (by omega))
    have him := mkH (fun W => implOf s W (by omega) t fr)
    generalize setFrom 0 (lower s.data.toList) = n at *
    go_enter Tryd.func5, Tryd.ntmps5
    go_wp2_with fail
    refine (hsp.out _).mono ?_
    rintro e w1 ⟨rfl, hb1⟩
    have hs1 := hb1.size
    go_wp2_with fail
    refine (him.out _ ((hb1.block 0 hz).trans h0) (by omega)).mono ?_
    rintro e w2 ⟨rfl, hb2⟩
    have hbF := mkH (hb1.trans (hb2.mono hs1))
    go_wp2
    go_ret
    exact ⟨rfl, hbF.out⟩
end Go.Proofs.YtpnebokcddgahajRDoor
