
/- A signature's value up to its head's sum, the program's side: its parts. -/
import Derived.Test.YtgabjiamabbheaaGreatDoorFrontSpec2
import Derived.Test.YtgabjiamabbheaaGreatDoorShelf
import Derived.Lib.Join
namespace Go.Proofs.YtgabjiamabbheaaGreatDoor
open Go.RowKit Go.Lib
set_option maxRecDepth 20000 in
theorem implFormT (h : Int) (hh : h = 0 ∨ h = 1) (w : World) : Calls Tryz.prog 61 #[.int .i64 h] w fun e w' => e = .returned (.string (formT h)) ∧ w = w' := by
  rcases hh with rfl | rfl
  · go_enter Tryz.func61, Tryz.ntmps61
    go_wp2
    go_ret
    exact ⟨rfl, rfl⟩
  · go_enter Tryz.func61, Tryz.ntmps61
    go_wp2
    go_ret
    exact ⟨rfl, rfl⟩
abbrev PTab (w : World) : Prop := Lib.TabIs Tryz.prog w "internal/strconv.uint64pow10" .u64 Lib.pow10Tab
set_option maxRecDepth 20000 in
theorem pGlob : Tryz.prog.globalNamed "internal/strconv.uint64pow10" = some 1 := by kernel_rfl
set_option maxRecDepth 20000 in
theorem ptab_on {w w' : World} {B : Nat} (h : PTab w) (hB : 1 < B) (hb : Below B w w') : PTab w' := by
  unfold PTab Lib.TabIs World.var? at h ⊢
  rw [pGlob] at h ⊢
  simp only [Option.bind_some] at h ⊢
  rw [hb.block _ hB]
  exact h
set_option maxRecDepth 20000 in
theorem ptab_lt {w : World} (h : PTab w) : 1 < w.heap.size := by
  unfold PTab Lib.TabIs World.var? at h
  rw [pGlob] at h
  simp only [Option.bind_some] at h
  rcases Nat.lt_or_ge 1 w.heap.size with h' | h'
  · exact h'
  · rw [Array.getElem?_eq_none h'] at h; cases h
set_option maxRecDepth 20000 in
theorem below_drewN (w : World) (k : Nat) (os : Array Obj) : Below w.heap.size w (Go.Sort.grow (w.drewN k) os) := by
  refine ⟨rfl, rfl, rfl, by first | (simp [Go.Sort.grow]; done) | (simp [Go.Sort.grow]; omega), fun i hi => ?_⟩
  show ((w.drewN k).heap ++ os)[i]? = _
  rw [Array.getElem?_append_left (by show i < w.heap.size; omega)]
  rfl
set_option maxRecDepth 20000 in
theorem implDec (n : Nat) (hn : n ≤ 2200000000) (w : World) (hP : PTab w) : Calls Tryz.prog 91 #[.int .i64 n, .int .i64 10] w fun e w' => e = .returned (.string ⟨(decDigits n).toArray⟩) ∧ Below w.heap.size w w' := by
  refine (Tryz.strconv_FormatInt_10 (n : Int) (by omega) (by omega) w hP).mono ?_
  rintro e w' ⟨rfl, k, os, rfl⟩
  refine ⟨by rw [itoa, if_neg (by omega), Int.toNat_natCast], ?_⟩
  exact below_drewN _ _ _
set_option maxRecDepth 20000 in
set_option maxHeartbeats 1000000 in
theorem implSumT (a b : Nat) (ha : a < 2147483647) (hb : b < 2147483647) (w : World) (hP : PTab w) : Calls Tryz.prog 63 #[sumV a b] w fun e w' => e = .returned (.string (sumT a b)) ∧ Below w.heap.size w w' := by
  have hz1 := dec_size a (by omega)
  have hz2 := dec_size b (by omega)
  have hA := fun w hP => implDec a (by omega) w hP
  have hB := fun w hP => implDec b (by omega) w hP
  unfold sumT
  generalize (⟨(decDigits a).toArray⟩ : ByteArray) = ta at *
  generalize (⟨(decDigits b).toArray⟩ : ByteArray) = tb at *
  obtain ⟨W, hW⟩ : ∃ W, W = w.alloc (.cells #[.int .i64 a, .int .i64 b] 44) := ⟨_, rfl⟩
  have hbW : Below w.heap.size w W := by rw [hW]; exact (Below.refl _ _).alloc (Nat.le_refl _) _
  have hPW : PTab W := ptab_on hP (ptab_lt hP) hbW
  have HR : ∀ d os, PTab (Go.Sort.grow (redrawn W d) os) := fun d os => ptab_on hPW (ptab_lt hPW) (below_regrown W d os)
  have q0 : W.cell? ⟨w.heap.size, 0, none⟩ = some (.int .i64 a) := by rw [hW]; simp
  have q1 : W.cell? ⟨w.heap.size, 1, none⟩ = some (.int .i64 b) := by rw [hW]; simp
  have k0 := cell_regrown q0
  have k1 := cell_regrown q1
  have cA : ∀ d os, Calls Tryz.prog 91 #[.int .i64 a, .int .i64 10] (Go.Sort.grow (redrawn W d) os) fun e w'' => e = .returned (.string ta) ∧ ∃ p : Regrown, w'' = Go.Sort.grow (redrawn W p.d) p.os := fun d os => Calls.regrown_of (hA _ (HR d os))
  have cB : ∀ d os, Calls Tryz.prog 91 #[.int .i64 b, .int .i64 10] (Go.Sort.grow (redrawn W d) os) fun e w'' => e = .returned (.string tb) ∧ ∃ p : Regrown, w'' = Go.Sort.grow (redrawn W p.d) p.os := fun d os => Calls.regrown_of (hB _ (HR d os))
  have CA := (show Hid _ from cA)
  have CB := (show Hid _ from cB)
  clear cA cB hA hB HR hPW hP
  have n0 : ¬ 9223372036854775807 < ta.size + 1 := by omega
  have n1 : ¬ 9223372036854775807 < ta.size + 1 + tb.size := by omega
  go_enter Tryz.func63, Tryz.ntmps63
  go_wp2
  rw [← hW]
  clear hW
  refine wp_region_quiet_below (by kernel_rfl) (by kernel_rfl) ?_
  repeat (quiet_step (fail))
  quiet_step (exact CA.out _ _)
  repeat (quiet_step (fail))
  quiet_step (exact CB.out _ _)
  repeat (quiet_step (fail))
  refine wpQuiet_nil ?_
  intro _ hw'
  obtain ⟨⟨dq, osq⟩, hw''⟩ := hw'
  subst hw''
  have hbq := hbW.trans ((below_regrown W dq osq).mono hbW.size)
  go_wp2
  go_ret
  exact ⟨rfl, hbq⟩
/-- What texts come to, one behind another. -/
def catT (xs : List ByteArray) : ByteArray := ⟨((xs.map (·.data.toList)).flatten).toArray⟩
def allSz (xs : List ByteArray) : Nat := (xs.map (·.size)).sum
set_option maxRecDepth 20000 in
theorem catT_size (xs : List ByteArray) : (catT xs).size = allSz xs := by
  show ((xs.map (·.data.toList)).flatten).toArray.size = _
  rw [List.size_toArray]
  induction xs with
  | nil => rfl
  | cons x xs ih =>
    simp only [List.map_cons, List.flatten_cons, List.length_append, allSz, List.sum_cons] at ih ⊢
    rw [ih]
    simp
set_option maxRecDepth 20000 in
theorem allSz_next (xs : List ByteArray) (k : Nat) (h : k < xs.length) : allSz (xs.take (k + 1)) = allSz (xs.take k) + xs[k].size := by
  rw [List.take_succ_eq_append_getElem h, allSz, allSz, List.map_append, List.sum_append]
  simp
set_option maxRecDepth 20000 in
theorem allSz_take (xs : List ByteArray) (k : Nat) : allSz (xs.take k) ≤ allSz xs := by
  induction xs generalizing k with
  | nil => simp [allSz]
  | cons x xs ih =>
    cases k with
    | zero => simp [allSz]
    | succ k =>
      have := ih k
      simp only [allSz, List.take_succ_cons, List.map_cons, List.sum_cons] at this ⊢
      omega
set_option maxRecDepth 20000 in
theorem join_cat (xs : List ByteArray) : Lib.join (xs.map (·.data.toList)) [] = (xs.map (·.data.toList)).flatten := by
  unfold Lib.join
  induction xs with
  | nil => rfl
  | cons x xs ih =>
    cases xs with
    | nil => simp [List.intercalate]
    | cons y ys =>
      simp only [List.intercalate, List.map_cons, List.intersperse, List.flatten_cons] at ih ⊢
      rw [ih]
      simp
set_option maxRecDepth 20000 in
theorem cell_of {xs : List ByteArray} {bk o : Nat} {w : World} (h : ∀ (j : Nat) x, xs[j]? = some x → w.cell? ⟨bk, o + j, none⟩ = some (.string x)) (k : Nat) (hk : k < xs.length) : w.cell? ⟨bk, o + k, none⟩ = some (.string xs[k]) := h k _ (List.getElem?_eq_getElem hk)
set_option maxRecDepth 20000 in
set_option maxHeartbeats 1000000 in
theorem implWrittenAll (xs : List ByteArray) (bk c : Nat) (w : World) (hcells : ∀ (j : Nat) x, xs[j]? = some x → w.cell? ⟨bk, 0 + j, none⟩ = some (.string x)) (hbk : bk < w.heap.size) (hn : xs.length ≤ 100) (hc : xs.length ≤ c) (htot : allSz xs ≤ 100000) :
    Calls Tryz.prog 60 #[.slice (some ⟨bk, 0, none⟩) xs.length c] w fun e w' => e = .returned (.string (catT xs)) ∧ Below w.heap.size w w' := by
  have hl : (xs.map (·.data.toList)).flatten.length = allSz xs := by
    have := catT_size xs
    rwa [catT, show (⟨((xs.map (·.data.toList)).flatten).toArray⟩ : ByteArray).size = ((xs.map (·.data.toList)).flatten).toArray.size from rfl, List.size_toArray] at this
  have hJ := Tryz.strings_Join bk 0 c xs ⟨#[]⟩ w hcells hbk (by omega) hc (by
    show (Lib.join (xs.map (·.data.toList)) []).length ≤ _
    rw [join_cat, hl]
    omega)
  have HJ : Hid (Calls Tryz.prog 62 #[.slice (some ⟨bk, 0, none⟩) xs.length c, .string ⟨#[]⟩] w fun e w' => e = .returned (.string (catT xs)) ∧ Below w.heap.size w w') := by
    refine hJ.mono ?_
    rintro e w' ⟨rfl, hb⟩
    refine ⟨?_, hb⟩
    show _ = Ending.returned (.string (catT xs))
    rw [catT, ← join_cat]
  have HC : Hid (∀ (j : Nat) x, xs[j]? = some x → w.cell? ⟨bk, 0 + j, none⟩ = some (.string x)) := hcells
  clear hJ hl hcells
  go_enter Tryz.func60, Tryz.ntmps60
  go_wp2
  go_loopw [3, 8] (fun s i wr => ∃ k : Nat, k ≤ xs.length ∧ s = .int .i64 (allSz (xs.take k)) ∧ i = .int .i64 k ∧ wr = w) (fun _ i _ => xs.length - (Lib.intOf i).toNat)
  case atStart => exact ⟨0, Nat.zero_le _, rfl, rfl, rfl⟩
  case round =>
    obtain ⟨k, hk, rfl, rfl, rfl⟩ := hrel
    by_cases hlt : k < xs.length
    · have hcl := cell_of HC.out k hlt
      rw [Nat.zero_add] at hcl
      have hnx := allSz_next xs k hlt
      have hle := allSz_take xs (k + 1)
      have HN : Hid (allSz (xs.take (k + 1)) = allSz (xs.take k) + xs[k].size) := hnx
      have hle2 : allSz (xs.take k) + xs[k].size ≤ 100000 := by omega
      clear hnx hle
      generalize xs[k] = x at *
      generalize allSz (xs.take k) = z at *
      go_wp2
      go_roundw
      case rel => exact ⟨k + 1, by omega, by rw [HN.out]; go_num, by go_num, trivial⟩
      case measure => simp [Lib.intOf]; omega
    · obtain rfl : k = xs.length := by omega
      rw [List.take_length]
      go_wp2_with fail
      refine HJ.out.mono ?_
      rintro e w2 ⟨rfl, hb⟩
      go_wp2
      go_ret
      exact ⟨rfl, hb⟩
end Go.Proofs.YtgabjiamabbheaaGreatDoor
