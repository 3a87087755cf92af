
/- The specification's cut of a text at a byte, and its number. -/
import Derived.Test.YtdlbkedjkkapgaaDoorOwnX
namespace Go.Proofs.YtdlbkedjkkapgaaDoor
open Go.RowKit Go.Lib Go.Maps
namespace Cu
def cut (d : UInt8) : List UInt8 → List UInt8 → List (List UInt8)
  | acc, [] => [acc]
  | acc, c :: r => if c = d then acc :: cut d [] r else cut d (acc ++ [c]) r
def mk (l : List UInt8) : ByteArray := ⟨l.toArray⟩
theorem cut_len (d : UInt8) : ∀ (l acc : List UInt8), (cut d acc l).length ≤ l.length + 1
  | [], _ => by simp [cut]
  | c :: r, acc => by
    rw [cut]
    split
    · have := cut_len d r []
      simp only [List.length_cons]
      omega
    · have := cut_len d r (acc ++ [c])
      simp only [List.length_cons]
      omega
theorem cut_ne (d : UInt8) : ∀ (l acc : List UInt8), cut d acc l ≠ []
  | [], _ => by simp [cut]
  | c :: r, acc => by
    rw [cut]
    split
    · simp
    · exact cut_ne d r _
theorem cut_mem (d : UInt8) : ∀ (l acc p : List UInt8), p ∈ cut d acc l → p.length ≤ acc.length + l.length
  | [], acc, p, h => by
    rw [cut, List.mem_singleton] at h
    rw [h]
    simp
  | c :: r, acc, p, h => by
    rw [cut] at h
    split at h
    · rcases List.mem_cons.1 h with h | h
      · rw [h]; simp
      · have := cut_mem d r [] p h
        simp only [List.length_cons, List.length_nil] at this ⊢
        omega
    · have := cut_mem d r _ p h
      simp only [List.length_cons, List.length_append, List.length_nil] at this ⊢
      omega
theorem ex_mk (s : ByteArray) (a b : Nat) : s.extract a b = mk ((s.data.toList.drop a).take (b - a)) := by
  unfold mk
  apply ByteArray.ext
  apply Array.toList_inj.1
  rw [ByteArray.data_extract, Array.toList_extract, List.extract_eq_take_drop]
def digit (c : UInt8) : Bool := decide (48 ≤ c.toNat) && decide (c.toNat ≤ 57)
def val : Nat → List UInt8 → Nat
  | n, [] => n
  | n, c :: r => val (n * 10 + (c.toNat - 48)) r
def numI (l : List UInt8) : Int := if l.all digit then (val 0 l : Nat) else -1
def num10 (l : List UInt8) : Int := if l.length = 0 ∨ 10 < l.length then -1 else numI l
theorem val_lt : ∀ (l : List UInt8) (n : Nat), l.all digit = true → val n l < (n + 1) * 10 ^ l.length
  | [], n, _ => by
    show n < (n + 1) * 10 ^ 0
    omega
  | c :: r, n, h => by
    rw [List.all_cons, Bool.and_eq_true] at h
    obtain ⟨h1, h2⟩ := h
    unfold digit at h1
    simp only [Bool.and_eq_true, decide_eq_true_eq] at h1
    have := val_lt r (n * 10 + (c.toNat - 48)) h2
    show val (n * 10 + (c.toNat - 48)) r < (n + 1) * 10 ^ (r.length + 1)
    rw [Nat.pow_succ]
    refine Nat.lt_of_lt_of_le this ?_
    rw [Nat.mul_comm (10 ^ r.length) 10, ← Nat.mul_assoc]
    exact Nat.mul_le_mul_right _ (by omega)
end Cu
set_option maxHeartbeats 4000000 in
theorem specCut (s : ByteArray) (d : UInt8) (w : World) (hs : s.size ≤ 900000) :
    Calls Tryd.prog 9 #[.string s, .int .u8 (d.toNat : Int)] w fun e w' => ∃ y : Value, e = .returned y ∧ Hid (OwnX w.heap.size y ((Cu.cut d [] s.data.toList).map Cu.mk) w') ∧ Below w.heap.size w w' := by
  have hll : Hid (s.data.toList.length = s.size) := by simp [Hid]
  have hd8 : d.toNat < 256 := UInt8.toNat_lt _
  obtain ⟨W, hW⟩ : ∃ W, W = w.alloc (.cells #[] 9) := ⟨_, rfl⟩
  have hbW : Hid (Below w.heap.size w W) := by rw [hW]; exact (Below.refl _ _).alloc (Nat.le_refl _) _
  have hown0 : Hid (OwnX w.heap.size (.slice (some ⟨w.heap.size, 0, none⟩) 0 0) [] W) := by rw [hW]; exact OwnX.made _ w (Nat.le_refl _)
  have hWs : W.heap.size = w.heap.size + 1 := by rw [hW]; simp
  have HW := mkHid hW
  clear hW
  obtain ⟨P, hP⟩ : ∃ P, (Cu.cut d [] s.data.toList).map Cu.mk = P := ⟨_, rfl⟩
  rw [hP]
  have HP : Hid ([] ++ (Cu.cut d ((s.data.toList.drop 0).take (0 - 0)) (s.data.toList.drop 0)).map Cu.mk = P) := hP
  clear hP
  go_enter Tryd.func9, Tryd.ntmps9
  go_wp2
  rw [← HW.out]
  clear HW
  go_loopw [5, 6, 7] (fun yv fv iv wr => ∃ (i f : Nat) (C : List ByteArray), i ≤ s.size ∧ f ≤ i ∧ iv = .int .i64 i ∧ fv = .int .i64 f ∧ C.length ≤ i ∧ Hid (C ++ (Cu.cut d ((s.data.toList.drop f).take (i - f)) (s.data.toList.drop i)).map Cu.mk = P) ∧ Hid (OwnX w.heap.size yv C wr) ∧ Hid (Below w.heap.size w wr) ∧ w.heap.size ≤ wr.heap.size) (fun _ _ iv _ => s.size - (Lib.intOf iv).toNat)
  case atStart => exact ⟨0, 0, [], Nat.zero_le _, Nat.le_refl _, rfl, rfl, Nat.le_refl _, HP, hown0, hbW, by omega⟩
  case round =>
    clear HP hown0 hbW
    obtain ⟨i, f, C, hi, hfi, rfl, rfl, hCl, hz, hown, hB, hsz⟩ := hrel
    by_cases hlt : i < s.size
    · have hli : i < s.data.toList.length := by rw [hll.out]; exact hlt
      have hst := hz.out
      rw [List.drop_eq_getElem_cons hli, Cu.cut, show s.data.toList[i]'hli = s[i] from rfl] at hst
      have h8 : s[i].toNat < 256 := UInt8.toNat_lt _
      by_cases hc : s[i] = d
      · have hb3 : (s[i].toNat == d.toNat) = true := by rw [hc]; simp
        have hb : ((s[i].toNat : Int) == (d.toNat : Int)) = true := by rw [hc]; simp
        rw [if_pos hc, List.map_cons] at hst
        have hpc : Cu.mk ((s.data.toList.drop f).take (i - f)) = s.extract f i := (Cu.ex_mk s f i).symm
        rw [hpc] at hst
        obtain ⟨pc, hpce⟩ : ∃ pc, s.extract f i = pc := ⟨_, rfl⟩
        have hst2 : Hid ((C ++ [pc]) ++ (Cu.cut d ((s.data.toList.drop (i + 1)).take (i + 1 - (i + 1))) (s.data.toList.drop (i + 1))).map Cu.mk = P) := by
          show _ = _
          rw [Nat.sub_self, List.take_zero, List.append_assoc, ← hpce]
          exact hst
        have hnb : Hid (∀ k, u5.ownBlock = some k → w.heap.size ≤ k) := fun k hk => (World.ownsRow.lt hown.out k hk).1
        have hfI : (0 : Int) ≤ (f : Int) ∧ (f : Int) ≤ (i : Int) ∧ (i : Int) ≤ (s.size : Int) := ⟨by omega, by omega, by omega⟩
        clear hst hz hpc hc
        go_wp2_with (first | (at_builtin; (refine wp_appX rfl _ _ rfl w.heap.size u5 C rfl hown.out pc 1 (by rfl) (by omega) hsz ?_; intro y5 w6 hown5 hg5; refine Hid.out ?_)) | fail)
        have hB6 : Hid (Below w.heap.size w w6) := (hB.out.alloc (by omega) (.cells #[.string pc] 9)).grown hg5 (by simp; omega) (fun k hk => hnb.out k hk)
        replace hown5 := mkHid hown5
        have hs6 : w.heap.size ≤ w6.heap.size := hB6.out.size
        clear hg5 hnb hown hB hpce
        refine mkHid ?_
        go_wp2
        go_roundw
        case rel => exact ⟨i + 1, i + 1, C ++ [pc], by omega, Nat.le_refl _, by go_num, by go_num, by simp; omega, hst2, hown5, hB6, hs6⟩
        case measure => simp [Lib.intOf]; omega
      · have hb2 : ¬ s[i].toNat = d.toNat := fun e => hc (UInt8.toNat_inj.1 e)
        have hb3 : (s[i].toNat == d.toNat) = false := by simpa using hb2
        have hb4 : ¬ ((s[i].toNat : Int) = (d.toNat : Int)) := by omega
        have hb : ((s[i].toNat : Int) == (d.toNat : Int)) = false := by
          rw [beq_eq_false_iff_ne]
          intro e
          exact hc (UInt8.toNat_inj.1 (by omega))
        rw [if_neg hc] at hst
        have hst2 : Hid (C ++ (Cu.cut d ((s.data.toList.drop f).take (i + 1 - f)) (s.data.toList.drop (i + 1))).map Cu.mk = P) := by
          show _ = _
          rw [← hst]
          congr 3
          rw [show i + 1 - f = (i - f) + 1 by omega, List.take_succ_eq_append_getElem (by rw [List.length_drop, hll.out]; omega), List.getElem_drop]
          congr 2
          have : f + (i - f) = i := by omega
          simp only [this]
          rfl
        clear hst hz hc
        go_wp2
        go_roundw
        case rel => exact ⟨i + 1, f, C, by omega, by omega, by go_num, rfl, by omega, hst2, hown, hB, hsz⟩
        case measure => simp [Lib.intOf]; omega
    · have hst := hz.out
      rw [show s.data.toList.drop i = [] from List.drop_eq_nil_of_le (by rw [hll.out]; omega), Cu.cut, List.map_cons, List.map_nil] at hst
      have hie : i = s.size := by omega
      have hpc : Cu.mk ((s.data.toList.drop f).take (i - f)) = s.extract f i := (Cu.ex_mk s f i).symm
      rw [hpc] at hst
      have hst2 : Hid (C ++ [s.extract f s.size] = P) := by show _ = _; rw [← hst, hie]
      have hnb : Hid (∀ k, u5.ownBlock = some k → w.heap.size ≤ k) := fun k hk => (World.ownsRow.lt hown.out k hk).1
      have hCl2 : C.length ≤ s.size := by omega
      have hff : f ≤ s.size := by omega
      have hfI : (0 : Int) ≤ (f : Int) ∧ (f : Int) ≤ (s.size : Int) := ⟨by omega, by omega⟩
      clear hst hz hpc hie
      go_wp2_with (first | (at_builtin; (refine wp_appX rfl _ _ rfl w.heap.size u5 C rfl hown.out (s.extract f s.size) 1 (by rfl) (by omega) hsz ?_; intro y5 w6 hown5 hg5; refine Hid.out ?_)) | fail)
      rw [hst2.out] at hown5
      have hB6 : Hid (Below w.heap.size w w6) := (hB.out.alloc (by omega) (.cells #[.string (s.extract f s.size)] 9)).grown hg5 (by simp; omega) (fun k hk => hnb.out k hk)
      replace hown5 := mkHid hown5
      clear hg5 hnb hown hB
      refine mkHid ?_
      go_wp2
      go_ret
      exact ⟨_, rfl, hown5, hB6.out⟩
end Go.Proofs.YtdlbkedjkkapgaaDoor
