
/- A point's bytes in each of the sets: the specification's side. -/

/- Bytes as characters, the specification's side: the number that bytes would stand for. -/
import Derived.Test.YtajkahpkbeobaaaGreatDoorDcTake
import Derived.Laws.OwnMore
import Derived.Laws.MakeOwn
import Derived.Deep.QuietTactic
import Derived.BigQuiet
import Derived.Deep.RegionWith
import Derived.Lib.QuietBelow
import Derived.WalkSmall
namespace Go.Proofs.YtajkahpkbeobaaaGreatDoor
open Go.RowKit Go.Lib Go.Maps
set_option maxRecDepth 20000 in
set_option maxHeartbeats 1000000 in
theorem specPoint (p : Int) (w : World) : Calls Tryz.prog 55 #[.int .i64 p] w fun e w' => e = .returned (.bool (Pl.isPt p)) ∧ w' = w := by
  unfold Pl.isPt
  by_cases h1 : 0 ≤ p <;> by_cases h2 : p ≤ 1114111 <;> by_cases h3 : 55296 ≤ p <;> by_cases h4 : p ≤ 57343
  all_goals
    go_enter Tryz.func55, Tryz.ntmps55
    go_wp2
    go_ret
    exact ⟨congrArg (fun b => Ending.returned (.bool b)) (by first | (simp [h1, h2, h3, h4]; done) | (simp; omega)), rfl⟩
set_option maxRecDepth 20000 in
set_option maxHeartbeats 1000000 in
theorem specNine (b : Nat) (hb : b < 256) (w : World) : Calls Tryz.prog 56 #[.int .i64 b] w fun e w' => e = .returned (.int .i64 ((Pl.nineOf b).getD b)) ∧ w' = w := by
  by_cases h : b ∈ [164, 166, 168, 180, 184, 188, 189, 190]
  · simp only [List.mem_cons, List.not_mem_nil, or_false] at h
    rcases h with rfl | rfl | rfl | rfl | rfl | rfl | rfl | rfl
    all_goals
      go_enter Tryz.func56, Tryz.ntmps56
      go_wp2
      go_ret
      exact ⟨rfl, rfl⟩
  · simp only [List.mem_cons, List.not_mem_nil, or_false, not_or] at h
    obtain ⟨h1, h2, h3, h4, h5, h6, h7, h8⟩ := h
    have e : Pl.nineOf b = none := by
      unfold Pl.nineOf
      rw [if_neg (by omega), if_neg (by omega), if_neg (by omega), if_neg (by omega), if_neg (by omega), if_neg (by omega), if_neg (by omega), if_neg (by omega)]
    rw [e]
    have g1 : ¬ (b : Int) = 164 := by omega
    have g2 : ¬ (b : Int) = 166 := by omega
    have g3 : ¬ (b : Int) = 168 := by omega
    have g4 : ¬ (b : Int) = 180 := by omega
    have g5 : ¬ (b : Int) = 184 := by omega
    have g6 : ¬ (b : Int) = 188 := by omega
    have g7 : ¬ (b : Int) = 189 := by omega
    have g8 : ¬ (b : Int) = 190 := by omega
    go_enter Tryz.func56, Tryz.ntmps56
    go_wp2
    go_ret
    exact ⟨rfl, rfl⟩
set_option maxRecDepth 20000 in
set_option maxHeartbeats 1000000 in
theorem specNameE (s : Int) (w : World) : Calls Tryz.prog 31 #[.int .i64 s] w fun e w' => ∃ t : ByteArray, e = .returned (.string t) ∧ t.toList.isEmpty = decide (s < 1 ∨ 5 < s) ∧ w' = w := by
  by_cases h : s < 1 ∨ 5 < s
  · have g1 : ¬ s = 1 := by omega
    have g2 : ¬ s = 2 := by omega
    have g3 : ¬ s = 3 := by omega
    have g4 : ¬ s = 4 := by omega
    have g5 : ¬ s = 5 := by omega
    rw [decide_eq_true h]
    go_enter Tryz.func31, Tryz.ntmps31
    go_wp2
    go_ret
    exact ⟨_, rfl, by rw [ByteArray.toList_eq]; rfl, rfl⟩
  · have hset : s = 1 ∨ s = 2 ∨ s = 3 ∨ s = 4 ∨ s = 5 := by omega
    rw [decide_eq_false h]
    clear h
    rcases hset with rfl | rfl | rfl | rfl | rfl
    all_goals
      go_enter Tryz.func31, Tryz.ntmps31
      go_wp2
      go_ret
      exact ⟨_, rfl, by rw [ByteArray.toList_eq]; rfl, rfl⟩
set_option maxRecDepth 20000 in
theorem Own.lit (w : World) (p : List UInt8) (cs : Array Value) (h : cs.toList = byteCells p) (hm : p.length ≤ 1000) : Own w.heap.size (.slice (some ⟨w.heap.size, 0, none⟩) p.length p.length) p (w.alloc (.cells cs 5)) := by
  have := World.ownsRow_lit (base := w.heap.size) (e := 5) (size := 1) w cs p.length (Nat.le_refl _) (by unfold maxLen; omega) (by have := congrArg List.length h; simp [byteCells_length] at this; omega)
  rw [h] at this
  exact this
set_option maxRecDepth 20000 in
theorem specFormNo (set p : Int) (w : World) (h : Pl.isPt p = false) : Calls Tryz.prog 32 #[.int .i64 set, .int .i64 p] w fun e w' => ∃ v, e = .returned v ∧ Own w.heap.size v (Pl.form set p) w' ∧ Below w.heap.size w w' := by
  have hP := specPoint p w
  rw [h] at hP
  unfold Pl.form
  rw [if_pos h]
  go_enter Tryz.func32, Tryz.ntmps32
  go_wp2_with fail
  refine hP.mono ?_
  rintro e w2 ⟨rfl, rfl⟩
  go_wp2
  go_ret
  exact ⟨_, rfl, Own.made _ _ (Nat.le_refl _), (Below.refl _ _).alloc (Nat.le_refl _) _⟩
set_option maxRecDepth 20000 in
set_option maxHeartbeats 1000000 in
theorem specForm12 (set top : Int) (hs : set = 1 ∧ top = 128 ∨ set = 2 ∧ top = 256) (p : Int) (w : World) (h : Pl.isPt p = true) : Calls Tryz.prog 32 #[.int .i64 set, .int .i64 p] w fun e w' => ∃ v, e = .returned v ∧ Own w.heap.size v (Pl.form set p) w' ∧ Below w.heap.size w w' := by
  have hP := specPoint p w
  have hr := isPt_range h
  rw [h] at hP
  have hf : Pl.form set p = if p < top then [Pl.by8 p] else [] := by
    unfold Pl.form
    rw [if_neg (by rw [h]; simp)]
    rcases hs with ⟨rfl, rfl⟩ | ⟨rfl, rfl⟩
    · rw [if_pos rfl]
    · rw [if_neg (by decide), if_pos rfl]
  rw [hf]
  clear hf h
  rcases hs with ⟨rfl, rfl⟩ | ⟨rfl, rfl⟩
  · by_cases hp : p < 128
    · rw [if_pos hp]
      go_enter Tryz.func32, Tryz.ntmps32
      go_wp2_with fail
      refine hP.mono ?_
      rintro e w2 ⟨rfl, rfl⟩
      go_wp2
      go_ret
      exact ⟨_, rfl, Own.lit w2 [Pl.by8 p] _ (by simp [byteCells, Pl.by8_val p hr.1 (by omega)]) (by simp), (Below.refl _ _).alloc (Nat.le_refl _) _⟩
    · rw [if_neg hp]
      go_enter Tryz.func32, Tryz.ntmps32
      go_wp2_with fail
      refine hP.mono ?_
      rintro e w2 ⟨rfl, rfl⟩
      go_wp2
      go_ret
      exact ⟨_, rfl, Own.made _ _ (Nat.le_refl _), (Below.refl _ _).alloc (Nat.le_refl _) _⟩
  · by_cases hp : p < 256
    · rw [if_pos hp]
      go_enter Tryz.func32, Tryz.ntmps32
      go_wp2_with fail
      refine hP.mono ?_
      rintro e w2 ⟨rfl, rfl⟩
      go_wp2
      go_ret
      exact ⟨_, rfl, Own.lit w2 [Pl.by8 p] _ (by simp [byteCells, Pl.by8_val p hr.1 (by omega)]) (by simp), (Below.refl _ _).alloc (Nat.le_refl _) _⟩
    · rw [if_neg hp]
      go_enter Tryz.func32, Tryz.ntmps32
      go_wp2_with fail
      refine hP.mono ?_
      rintro e w2 ⟨rfl, rfl⟩
      go_wp2
      go_ret
      exact ⟨_, rfl, Own.made _ _ (Nat.le_refl _), (Below.refl _ _).alloc (Nat.le_refl _) _⟩
namespace Pl
def nv (b : Nat) : Int := (nineOf b).getD b
set_option maxRecDepth 20000 in
theorem form3 (p : Int) (h : isPt p = true) : form 3 p = match unNine p with | some b => [by8 b] | none => if 255 < p then [] else if (nineOf p).isSome then [] else [by8 p] := by
  unfold form
  rw [if_neg (by rw [h]; simp), if_neg (by decide), if_neg (by decide), if_pos rfl]
  all_goals rfl
set_option maxRecDepth 20000 in
theorem un_small {p : Int} (h : p < 256) : unNine p = none := by
  unfold unNine
  rw [if_neg (by omega), if_neg (by omega), if_neg (by omega), if_neg (by omega), if_neg (by omega), if_neg (by omega), if_neg (by omega), if_neg (by omega)]
set_option maxRecDepth 20000 in
theorem nv_hit {b : Nat} (hb : b < 256) {p : Int} (hp : isPt p = true) (h : nv b = p) : form 3 p = [by8 b] := by
  rw [form3 p hp]
  unfold nv at h
  cases e : nineOf b with
  | some q =>
    rw [e] at h
    have h : q = p := h
    subst h
    rw [nine_un e]
  | none =>
    rw [e] at h
    have h : (b : Int) = p := h
    subst h
    rw [un_small (by omega)]
    dsimp only
    rw [if_neg (by omega), e]
    rfl
set_option maxRecDepth 20000 in
theorem un_byte {p b : Int} (h : unNine p = some b) : 0 ≤ b ∧ b < 256 := by
  have := un_nine h
  unfold nineOf at this
  repeat' split at this
  all_goals first | (cases this; done) | omega
set_option maxRecDepth 20000 in
theorem nv_miss {p : Int} (hp : isPt p = true) (h : ∀ j : Nat, j < 256 → nv j ≠ p) : form 3 p = [] := by
  rw [form3 p hp]
  have h0 : 0 ≤ p := by simp only [isPt, Bool.and_eq_true, decide_eq_true_eq] at hp; omega
  cases e : unNine p with
  | some b =>
    have hb := un_byte e
    exact absurd (by unfold nv; rw [show ((b.toNat : Nat) : Int) = b by omega, un_nine e]; rfl) (h b.toNat (by omega))
  | none =>
    dsimp only
    by_cases h2 : 255 < p
    · rw [if_pos h2]
    · rw [if_neg h2]
      cases e2 : nineOf p with
      | some q => rfl
      | none => exact absurd (by unfold nv; rw [show ((p.toNat : Nat) : Int) = p by omega, e2]; rfl) (h p.toNat (by omega))
end Pl
set_option maxRecDepth 40000 in
set_option maxHeartbeats 1000000 in
theorem specForm3 (p : Int) (w : World) (h : Pl.isPt p = true) : Calls Tryz.prog 32 #[.int .i64 3, .int .i64 p] w fun e w' => ∃ v, e = .returned v ∧ Own w.heap.size v (Pl.form 3 p) w' ∧ Below w.heap.size w w' := by
  have hP := specPoint p w
  rw [h] at hP
  have Hh : Hid (Pl.isPt p = true) := h
  clear h
  go_enter Tryz.func32, Tryz.ntmps32
  go_wp2_with fail
  refine hP.mono ?_
  rintro e w2 ⟨rfl, rfl⟩
  clear hP
  go_wp2
  go_loopw [5] (fun i wr => ∃ k : Nat, k ≤ 256 ∧ i = .int .i64 k ∧ Hid (∀ j : Nat, j < k → Pl.nv j ≠ p) ∧ wr = w2) (fun i _ => 256 - (Lib.intOf i).toNat)
  case atStart => exact ⟨0, by omega, rfl, show ∀ j : Nat, j < 0 → Pl.nv j ≠ p from (fun j hj => by omega), rfl⟩
  case round =>
    obtain ⟨k, hk, rfl, hp, rfl⟩ := hrel
    by_cases hlt : k < 256
    · have hN := specNine k hlt wr
      change Calls Tryz.prog 56 #[.int .i64 k] wr fun e w' => e = .returned (.int .i64 (Pl.nv k)) ∧ w' = wr at hN
      by_cases hv : Pl.nv k = p
      · have hf : Hid (Pl.form 3 p = [Pl.by8 k]) := Pl.nv_hit hlt Hh.out hv
        rw [hv] at hN
        clear hv hp
        go_wp2_with fail
        refine hN.mono ?_
        rintro e w3 ⟨rfl, rfl⟩
        go_wp2
        go_ret
        rw [hf.out]
        exact ⟨_, rfl, Own.lit _ [Pl.by8 k] _ (by simp [byteCells, Pl.by8_val (k : Int) (by omega) (by omega)]) (by simp), (Below.refl _ _).alloc (Nat.le_refl _) _⟩
      · have hf : Hid (∀ j : Nat, j < k + 1 → Pl.nv j ≠ p) := show _ from fun j hj => by
          by_cases e : j = k
          · subst e; exact hv
          · exact hp.out j (by omega)
        have hv2 : (Pl.nv k == p) = false := by simpa using hv
        clear hp
        generalize Pl.nv k = q at hN hv hv2
        go_wp2_with fail
        refine hN.mono ?_
        rintro e w3 ⟨rfl, rfl⟩
        go_wp2
        go_roundw
        case rel => exact ⟨k + 1, by omega, by go_num, hf, trivial⟩
        case measure => simp [Lib.intOf]; omega
    · have hf : Hid (Pl.form 3 p = []) := Pl.nv_miss Hh.out (fun j hj => hp.out j (by omega))
      clear hp
      obtain rfl : k = 256 := by omega
      go_wp2
      go_ret
      rw [hf.out]
      exact ⟨_, rfl, Own.made _ _ (Nat.le_refl _), (Below.refl _ _).alloc (Nat.le_refl _) _⟩
set_option maxRecDepth 20000 in
set_option maxHeartbeats 2000000 in
theorem specForm5 (p : Int) (w : World) (h : Pl.isPt p = true) : Calls Tryz.prog 32 #[.int .i64 5, .int .i64 p] w fun e w' => ∃ v, e = .returned v ∧ Own w.heap.size v (Pl.form 5 p) w' ∧ Below w.heap.size w w' := by
  have hP := specPoint p w
  have hr := isPt_range h
  rw [h] at hP
  unfold Pl.form
  rw [if_neg (by rw [h]; simp), if_neg (by decide), if_neg (by decide), if_neg (by decide), if_neg (by decide)]
  clear h
  by_cases hp : p < 65536
  · rw [if_pos hp]
    go_enter Tryz.func32, Tryz.ntmps32
    go_wp2_with fail
    refine hP.mono ?_
    rintro e w2 ⟨rfl, rfl⟩
    go_wp2
    go_ret
    exact ⟨_, rfl, Own.lit w2 [Pl.by8 (p / 256), Pl.by8 (p % 256)] _ (by simp [byteCells, Pl.by8_val (p / 256) (by omega) (by omega), Pl.by8_val (p % 256) (by omega) (by omega)]) (by simp), (Below.refl _ _).alloc (Nat.le_refl _) _⟩
  · rw [if_neg hp]
    go_enter Tryz.func32, Tryz.ntmps32
    go_wp2_with fail
    refine hP.mono ?_
    rintro e w2 ⟨rfl, rfl⟩
    go_wp2
    go_ret
    exact ⟨_, rfl, Own.lit w2 [Pl.by8 ((55296 + (p - 65536) / 1024) / 256), Pl.by8 ((55296 + (p - 65536) / 1024) % 256), Pl.by8 ((56320 + (p - 65536) % 1024) / 256), Pl.by8 ((56320 + (p - 65536) % 1024) % 256)] _ (by simp only [byteCells, List.map, Pl.by8_val ((55296 + (p - 65536) / 1024) / 256) (by omega) (by omega), Pl.by8_val ((55296 + (p - 65536) / 1024) % 256) (by omega) (by omega), Pl.by8_val ((56320 + (p - 65536) % 1024) / 256) (by omega) (by omega), Pl.by8_val ((56320 + (p - 65536) % 1024) % 256) (by omega) (by omega)]) (by simp), (Below.refl _ _).alloc (Nat.le_refl _) _⟩
set_option maxRecDepth 40000 in
set_option maxHeartbeats 2000000 in
theorem specForm4 (p : Int) (w : World) (h : Pl.isPt p = true) : Calls Tryz.prog 32 #[.int .i64 4, .int .i64 p] w fun e w' => ∃ v, e = .returned v ∧ Own w.heap.size v (Pl.form 4 p) w' ∧ Below w.heap.size w w' := by
  have hP := specPoint p w
  have hr := isPt_range h
  rw [h] at hP
  unfold Pl.form
  rw [if_neg (by rw [h]; simp), if_neg (by decide), if_neg (by decide), if_neg (by decide), if_pos rfl]
  clear h
  by_cases h1 : p < 128
  · rw [if_pos h1]
    go_enter Tryz.func32, Tryz.ntmps32
    go_wp2_with fail
    refine hP.mono ?_
    rintro e w2 ⟨rfl, rfl⟩
    go_wp2
    go_ret
    exact ⟨_, rfl, Own.lit w2 [Pl.by8 p] _ (by simp [byteCells, Pl.by8_val p (by omega) (by omega)]) (by simp), (Below.refl _ _).alloc (Nat.le_refl _) _⟩
  · rw [if_neg h1]
    by_cases h2 : p < 2048
    · rw [if_pos h2]
      go_enter Tryz.func32, Tryz.ntmps32
      go_wp2_with fail
      refine hP.mono ?_
      rintro e w2 ⟨rfl, rfl⟩
      go_wp2
      go_ret
      exact ⟨_, rfl, Own.lit w2 [Pl.by8 (192 + p / 64), Pl.by8 (128 + p % 64)] _ (by simp only [byteCells, List.map, Pl.by8_val (192 + p / 64) (by omega) (by omega), Pl.by8_val (128 + p % 64) (by omega) (by omega)]) (by simp), (Below.refl _ _).alloc (Nat.le_refl _) _⟩
    · rw [if_neg h2]
      by_cases h3 : p < 65536
      · rw [if_pos h3]
        go_enter Tryz.func32, Tryz.ntmps32
        go_wp2_with fail
        refine hP.mono ?_
        rintro e w2 ⟨rfl, rfl⟩
        go_wp2
        go_ret
        exact ⟨_, rfl, Own.lit w2 [Pl.by8 (224 + p / 4096), Pl.by8 (128 + p / 64 % 64), Pl.by8 (128 + p % 64)] _ (by simp only [byteCells, List.map, Pl.by8_val (224 + p / 4096) (by omega) (by omega), Pl.by8_val (128 + p / 64 % 64) (by omega) (by omega), Pl.by8_val (128 + p % 64) (by omega) (by omega)]) (by simp), (Below.refl _ _).alloc (Nat.le_refl _) _⟩
      · rw [if_neg h3]
        go_enter Tryz.func32, Tryz.ntmps32
        go_wp2_with fail
        refine hP.mono ?_
        rintro e w2 ⟨rfl, rfl⟩
        go_wp2
        go_ret
        exact ⟨_, rfl, Own.lit w2 [Pl.by8 (240 + p / 262144), Pl.by8 (128 + p / 4096 % 64), Pl.by8 (128 + p / 64 % 64), Pl.by8 (128 + p % 64)] _ (by simp only [byteCells, List.map, Pl.by8_val (240 + p / 262144) (by omega) (by omega), Pl.by8_val (128 + p / 4096 % 64) (by omega) (by omega), Pl.by8_val (128 + p / 64 % 64) (by omega) (by omega), Pl.by8_val (128 + p % 64) (by omega) (by omega)]) (by simp), (Below.refl _ _).alloc (Nat.le_refl _) _⟩
set_option maxRecDepth 20000 in
theorem specForm (set p : Int) (hs : 1 ≤ set ∧ set ≤ 5) (w : World) : Calls Tryz.prog 32 #[.int .i64 set, .int .i64 p] w fun e w' => ∃ v, e = .returned v ∧ Own w.heap.size v (Pl.form set p) w' ∧ Below w.heap.size w w' := by
  cases h : Pl.isPt p
  · exact specFormNo set p w h
  · have hset : set = 1 ∨ set = 2 ∨ set = 3 ∨ set = 4 ∨ set = 5 := by omega
    rcases hset with rfl | rfl | rfl | rfl | rfl
    · exact specForm12 1 128 (.inl ⟨rfl, rfl⟩) p w h
    · exact specForm12 2 256 (.inr ⟨rfl, rfl⟩) p w h
    · exact specForm3 p w h
    · exact specForm4 p w h
    · exact specForm5 p w h
end Go.Proofs.YtajkahpkbeobaaaGreatDoor
namespace Go.Proofs.YtajkahpkbeobaaaGreatDoor
open Go.RowKit Go.Lib
set_option maxRecDepth 20000 in
theorem list1 (s : ByteArray) (h : s.size = 1) : s.data.toList = [s[0]'(by omega)] := by
  obtain ⟨⟨l⟩⟩ := s
  match l, h with
  | [a], _ => rfl
set_option maxRecDepth 20000 in
theorem list2 (s : ByteArray) (h : s.size = 2) : s.data.toList = [s[0]'(by omega), s[1]'(by omega)] := by
  obtain ⟨⟨l⟩⟩ := s
  match l, h with
  | [a, b], _ => rfl
set_option maxRecDepth 20000 in
theorem list3 (s : ByteArray) (h : s.size = 3) : s.data.toList = [s[0]'(by omega), s[1]'(by omega), s[2]'(by omega)] := by
  obtain ⟨⟨l⟩⟩ := s
  match l, h with
  | [a, b, c], _ => rfl
set_option maxRecDepth 20000 in
theorem list4 (s : ByteArray) (h : s.size = 4) : s.data.toList = [s[0]'(by omega), s[1]'(by omega), s[2]'(by omega), s[3]'(by omega)] := by
  obtain ⟨⟨l⟩⟩ := s
  match l, h with
  | [a, b, c, d], _ => rfl
set_option maxRecDepth 20000 in
theorem w64 (x : Int) (h0 : -9223372036854775808 ≤ x) (h1 : x ≤ 9223372036854775807) : IntKind.i64.wrap x = x := by
  unfold IntKind.wrap
  simp [IntKind.bits, IntKind.signed]
  omega
set_option maxRecDepth 20000 in
theorem g3 (a b c : Nat) (ha : a < 256) (hb : b < 256) (hc : c < 256) : IntKind.i64.wrap (IntKind.i64.wrap (IntKind.i64.wrap (IntKind.i64.wrap (IntKind.i64.wrap ((a : Int) - 224) * 4096) + IntKind.i64.wrap (IntKind.i64.wrap (IntKind.i64.wrap (b : Int) - 128) * 64)) + IntKind.i64.wrap (c : Int)) - 128) = ((a : Int) - 224) * 4096 + ((b : Int) - 128) * 64 + c - 128 := by
  rw [w64 (b : Int) (by omega) (by omega), w64 (c : Int) (by omega) (by omega), w64 ((a : Int) - 224) (by omega) (by omega), w64 ((b : Int) - 128) (by omega) (by omega), w64 (((a : Int) - 224) * 4096) (by omega) (by omega), w64 (((b : Int) - 128) * 64) (by omega) (by omega),
    w64 (((a : Int) - 224) * 4096 + ((b : Int) - 128) * 64) (by omega) (by omega), w64 (((a : Int) - 224) * 4096 + ((b : Int) - 128) * 64 + c) (by omega) (by omega), w64 _ (by omega) (by omega)]
set_option maxRecDepth 20000 in
theorem g4 (a b c d : Nat) (ha : a < 256) (hb : b < 256) (hc : c < 256) (hd : d < 256) : IntKind.i64.wrap (IntKind.i64.wrap (IntKind.i64.wrap (IntKind.i64.wrap (IntKind.i64.wrap (IntKind.i64.wrap ((a : Int) - 240) * 262144) + IntKind.i64.wrap (IntKind.i64.wrap (IntKind.i64.wrap (b : Int) - 128) * 4096)) +
    IntKind.i64.wrap (IntKind.i64.wrap (IntKind.i64.wrap (c : Int) - 128) * 64)) + IntKind.i64.wrap (d : Int)) - 128) = ((a : Int) - 240) * 262144 + ((b : Int) - 128) * 4096 + ((c : Int) - 128) * 64 + d - 128 := by
  rw [w64 (b : Int) (by omega) (by omega), w64 (c : Int) (by omega) (by omega), w64 (d : Int) (by omega) (by omega), w64 ((a : Int) - 240) (by omega) (by omega), w64 ((b : Int) - 128) (by omega) (by omega), w64 ((c : Int) - 128) (by omega) (by omega), w64 (((a : Int) - 240) * 262144) (by omega) (by omega), w64 (((b : Int) - 128) * 4096) (by omega) (by omega), w64 (((c : Int) - 128) * 64) (by omega) (by omega),
    w64 (((a : Int) - 240) * 262144 + ((b : Int) - 128) * 4096) (by omega) (by omega), w64 (((a : Int) - 240) * 262144 + ((b : Int) - 128) * 4096 + ((c : Int) - 128) * 64) (by omega) (by omega), w64 (((a : Int) - 240) * 262144 + ((b : Int) - 128) * 4096 + ((c : Int) - 128) * 64 + d) (by omega) (by omega), w64 _ (by omega) (by omega)]
set_option maxRecDepth 20000 in
set_option maxHeartbeats 2000000 in
theorem specGuess8 (s : ByteArray) (h0 : 1 ≤ s.size) (h4 : s.size ≤ 4) (w : World) : Calls Tryz.prog 111 #[.int .i64 4, .string s] w fun e w' => e = .returned (.int .i64 (Pu.guessN s.data.toList)) ∧ Below w.heap.size w w' := by
  by_cases e1 : s.size = 1
  · rw [list1 s e1]
    have ha := UInt8.toNat_lt (s[0]'(by omega))
    go_enter Tryz.func111, Tryz.ntmps111
    go_wp2
    go_ret
    exact ⟨rfl, Below.refl _ _⟩
  · by_cases e2 : s.size = 2
    · rw [list2 s e2]
      have ha := UInt8.toNat_lt (s[0]'(by omega))
      have hb := UInt8.toNat_lt (s[1]'(by omega))
      go_enter Tryz.func111, Tryz.ntmps111
      go_wp2
      go_ret
      exact ⟨rfl, Below.refl _ _⟩
    · by_cases e3 : s.size = 3
      · rw [list3 s e3]
        have ha := UInt8.toNat_lt (s[0]'(by omega))
        have hb := UInt8.toNat_lt (s[1]'(by omega))
        have hc := UInt8.toNat_lt (s[2]'(by omega))
        go_enter Tryz.func111, Tryz.ntmps111
        go_wp2
        refine wp_region_quiet_below (by kernel_rfl) (by kernel_rfl) ?_
        repeat (quiet_step (fail))
        refine wpQuiet_nil ?_
        intro _ hw'
        obtain ⟨⟨dq, osq⟩, hw''⟩ := hw'
        subst hw''
        have hbq := below_regrown w dq osq
        go_wp2
        go_ret
        exact ⟨congrArg (fun x => Ending.returned (.int .i64 x)) (g3 _ _ _ ha hb hc), hbq⟩
      · have e4 : s.size = 4 := by omega
        rw [list4 s e4]
        have ha := UInt8.toNat_lt (s[0]'(by omega))
        have hb := UInt8.toNat_lt (s[1]'(by omega))
        have hc := UInt8.toNat_lt (s[2]'(by omega))
        have hd := UInt8.toNat_lt (s[3]'(by omega))
        go_enter Tryz.func111, Tryz.ntmps111
        go_wp2
        refine wp_region_quiet_below (by kernel_rfl) (by kernel_rfl) ?_
        repeat (quiet_step (fail))
        refine wpQuiet_nil ?_
        intro _ hw'
        obtain ⟨⟨dq, osq⟩, hw''⟩ := hw'
        subst hw''
        have hbq := below_regrown w dq osq
        go_wp2
        go_ret
        exact ⟨congrArg (fun x => Ending.returned (.int .i64 x)) (g4 _ _ _ _ ha hb hc hd), hbq⟩
namespace Pd
def guess16 : List UInt8 → Int
  | [a, b] => two a b
  | [a, b, c, d] => (two a b - 55296) * 1024 + two c d - 56320 + 65536
  | _ => -1
end Pd
set_option maxRecDepth 20000 in
theorem two_wrap (a b : UInt8) : IntKind.i64.wrap (IntKind.i64.wrap (IntKind.i64.wrap (a.toNat : Int) * 256) + IntKind.i64.wrap (b.toNat : Int)) = Pd.two a b := by
  have ha := UInt8.toNat_lt a
  have hb := UInt8.toNat_lt b
  unfold Pd.two
  rw [w64 (a.toNat : Int) (by omega) (by omega), w64 (b.toNat : Int) (by omega) (by omega), w64 ((a.toNat : Int) * 256) (by omega) (by omega), w64 _ (by omega) (by omega)]
set_option maxRecDepth 20000 in
theorem two_ltG (a b : UInt8) : 0 ≤ Pd.two a b ∧ Pd.two a b < 65536 := by
  have h8 : a.toNat < 256 := UInt8.toNat_lt _
  have h9 : b.toNat < 256 := UInt8.toNat_lt _
  unfold Pd.two
  omega
set_option maxRecDepth 20000 in
set_option maxHeartbeats 1000000 in
theorem specGuess16 (s : ByteArray) (h0 : 1 ≤ s.size) (h4 : s.size ≤ 4) (w : World) : Calls Tryz.prog 111 #[.int .i64 5, .string s] w fun e w' => e = .returned (.int .i64 (Pd.guess16 s.data.toList)) ∧ Below w.heap.size w w' := by
  by_cases e1 : s.size = 1
  · rw [list1 s e1]
    go_enter Tryz.func111, Tryz.ntmps111
    go_wp2
    go_ret
    exact ⟨rfl, Below.refl _ _⟩
  · by_cases e2 : s.size = 2
    · rw [list2 s e2]
      have ha := UInt8.toNat_lt (s[0]'(by omega))
      have hb := UInt8.toNat_lt (s[1]'(by omega))
      go_enter Tryz.func111, Tryz.ntmps111
      go_wp2
      refine wp_region_quiet_below (by kernel_rfl) (by kernel_rfl) ?_
      repeat (quiet_step (fail))
      refine wpQuiet_nil ?_
      intro _ hw'
      obtain ⟨⟨dq, osq⟩, hw''⟩ := hw'
      subst hw''
      have hbq := below_regrown w dq osq
      go_wp2
      go_ret
      exact ⟨congrArg (fun x => Ending.returned (.int .i64 x)) (two_wrap _ _), hbq⟩
    · by_cases e3 : s.size = 3
      · rw [list3 s e3]
        go_enter Tryz.func111, Tryz.ntmps111
        go_wp2
        go_ret
        exact ⟨rfl, Below.refl _ _⟩
      · have e4 : s.size = 4 := by omega
        rw [list4 s e4]
        have ha := UInt8.toNat_lt (s[0]'(by omega))
        have hb := UInt8.toNat_lt (s[1]'(by omega))
        have hc := UInt8.toNat_lt (s[2]'(by omega))
        have hd := UInt8.toNat_lt (s[3]'(by omega))
        go_enter Tryz.func111, Tryz.ntmps111
        go_wp2
        refine wp_region_quiet_below (by kernel_rfl) (by kernel_rfl) ?_
        repeat (quiet_step (fail))
        refine wpQuiet_nil ?_
        intro _ hw'
        obtain ⟨⟨dq, osq⟩, hw''⟩ := hw'
        subst hw''
        have hbq := below_regrown w dq osq
        have Hbq := mkHid hbq
        generalize Go.Sort.grow (redrawn w dq) osq = V at *
        rw [two_wrap]
        go_wp2
        refine wp_region_quiet_below (by kernel_rfl) (by kernel_rfl) ?_
        repeat (quiet_step (fail))
        refine wpQuiet_nil ?_
        intro _ hw'
        obtain ⟨⟨dr, osr⟩, hw''⟩ := hw'
        subst hw''
        have Hbr := mkHid (Hbq.out.trans ((below_regrown V dr osr).mono Hbq.out.size))
        generalize Go.Sort.grow (redrawn V dr) osr = V2 at *
        rw [two_wrap]
        have t1 := two_ltG s[0] s[1]
        have t2 := two_ltG s[2] s[3]
        obtain ⟨x1, x2⟩ := t1
        obtain ⟨y1, y2⟩ := t2
        go_wp2
        go_ret
        exact ⟨rfl, Hbr.out⟩
end Go.Proofs.YtajkahpkbeobaaaGreatDoor
