/- Good utf-8, the specification's side. -/
import Derived.Test.YtpjpnjbegjiegaaDoorContTests
import Derived.Deep.QuietTactic
import Derived.BigQuiet
import Derived.Deep.RegionWith
import Derived.Laws.OwnMore
import Derived.Laws.MakeOwn
import Derived.Lib.QuietBelow
import Derived.WalkSmall
namespace Go.Proofs.YtpjpnjbegjiegaaDoor
open Go.RowKit Go.Lib
theorem list1 (s : ByteArray) (h : s.size = 1) : s.data.toList = [s[0]'(by omega)] := by
  obtain ⟨⟨l⟩⟩ := s
  match l, h with
  | [a], _ => rfl
theorem list2 (s : ByteArray) (h : s.size = 2) : s.data.toList = [s[0]'(by omega), s[1]'(by omega)] := by
  obtain ⟨⟨l⟩⟩ := s
  match l, h with
  | [a, b], _ => rfl
theorem list3 (s : ByteArray) (h : s.size = 3) : s.data.toList = [s[0]'(by omega), s[1]'(by omega), s[2]'(by omega)] := by
  obtain ⟨⟨l⟩⟩ := s
  match l, h with
  | [a, b, c], _ => rfl
theorem list4 (s : ByteArray) (h : s.size = 4) : s.data.toList = [s[0]'(by omega), s[1]'(by omega), s[2]'(by omega), s[3]'(by omega)] := by
  obtain ⟨⟨l⟩⟩ := s
  match l, h with
  | [a, b, c, d], _ => rfl
theorem w64 (x : Int) (h0 : -9223372036854775808 ≤ x) (h1 : x ≤ 9223372036854775807) : IntKind.i64.wrap x = x := by
  unfold IntKind.wrap
  simp [IntKind.bits, IntKind.signed]
  omega
theorem g3 (a b c : Nat) (ha : a < 256) (hb : b < 256) (hc : c < 256) : IntKind.i64.wrap (IntKind.i64.wrap (IntKind.i64.wrap (IntKind.i64.wrap (IntKind.i64.wrap ((a : Int) - 224) * 4096) + IntKind.i64.wrap (IntKind.i64.wrap (IntKind.i64.wrap (b : Int) - 128) * 64)) + IntKind.i64.wrap (c : Int)) - 128) = ((a : Int) - 224) * 4096 + ((b : Int) - 128) * 64 + c - 128 := by
  rw [w64 (b : Int) (by omega) (by omega), w64 (c : Int) (by omega) (by omega), w64 ((a : Int) - 224) (by omega) (by omega), w64 ((b : Int) - 128) (by omega) (by omega), w64 (((a : Int) - 224) * 4096) (by omega) (by omega), w64 (((b : Int) - 128) * 64) (by omega) (by omega),
    w64 (((a : Int) - 224) * 4096 + ((b : Int) - 128) * 64) (by omega) (by omega), w64 (((a : Int) - 224) * 4096 + ((b : Int) - 128) * 64 + c) (by omega) (by omega), w64 _ (by omega) (by omega)]
theorem g4 (a b c d : Nat) (ha : a < 256) (hb : b < 256) (hc : c < 256) (hd : d < 256) : IntKind.i64.wrap (IntKind.i64.wrap (IntKind.i64.wrap (IntKind.i64.wrap (IntKind.i64.wrap (IntKind.i64.wrap ((a : Int) - 240) * 262144) + IntKind.i64.wrap (IntKind.i64.wrap (IntKind.i64.wrap (b : Int) - 128) * 4096)) +
    IntKind.i64.wrap (IntKind.i64.wrap (IntKind.i64.wrap (c : Int) - 128) * 64)) + IntKind.i64.wrap (d : Int)) - 128) = ((a : Int) - 240) * 262144 + ((b : Int) - 128) * 4096 + ((c : Int) - 128) * 64 + d - 128 := by
  rw [w64 (b : Int) (by omega) (by omega), w64 (c : Int) (by omega) (by omega), w64 (d : Int) (by omega) (by omega), w64 ((a : Int) - 240) (by omega) (by omega), w64 ((b : Int) - 128) (by omega) (by omega), w64 ((c : Int) - 128) (by omega) (by omega), w64 (((a : Int) - 240) * 262144) (by omega) (by omega), w64 (((b : Int) - 128) * 4096) (by omega) (by omega), w64 (((c : Int) - 128) * 64) (by omega) (by omega),
    w64 (((a : Int) - 240) * 262144 + ((b : Int) - 128) * 4096) (by omega) (by omega), w64 (((a : Int) - 240) * 262144 + ((b : Int) - 128) * 4096 + ((c : Int) - 128) * 64) (by omega) (by omega), w64 (((a : Int) - 240) * 262144 + ((b : Int) - 128) * 4096 + ((c : Int) - 128) * 64 + d) (by omega) (by omega), w64 _ (by omega) (by omega)]
set_option maxHeartbeats 2000000 in
theorem specGuess (s : ByteArray) (h0 : 1 ≤ s.size) (h4 : s.size ≤ 4) (w : World) : Calls Tryd.prog 51 #[.int .i64 4, .string s] w fun e w' => e = .returned (.int .i64 (Pl.guessN s.data.toList)) ∧ Below w.heap.size w w' := by
  by_cases e1 : s.size = 1
  · rw [list1 s e1]
    have ha := UInt8.toNat_lt (s[0]'(by omega))
    go_enter Tryd.func51, Tryd.ntmps51
    go_wp2
    go_ret
    exact ⟨rfl, Below.refl _ _⟩
  · by_cases e2 : s.size = 2
    · rw [list2 s e2]
      have ha := UInt8.toNat_lt (s[0]'(by omega))
      have hb := UInt8.toNat_lt (s[1]'(by omega))
      go_enter Tryd.func51, Tryd.ntmps51
      go_wp2
      go_ret
      exact ⟨rfl, Below.refl _ _⟩
    · by_cases e3 : s.size = 3
      · rw [list3 s e3]
        have ha := UInt8.toNat_lt (s[0]'(by omega))
        have hb := UInt8.toNat_lt (s[1]'(by omega))
        have hc := UInt8.toNat_lt (s[2]'(by omega))
        go_enter Tryd.func51, Tryd.ntmps51
        go_wp2
        refine wp_region_quiet_below (by kernel_rfl) (by kernel_rfl) ?_
        repeat (quiet_step (fail))
        refine wpQuiet_nil ?_
        intro _ hw'
        obtain ⟨⟨dq, osq⟩, hw''⟩ := hw'
        subst hw''
        have hbq := below_regrown w dq osq
        go_wp2
        go_ret
        exact ⟨congrArg (fun x => Ending.returned (.int .i64 x)) (g3 _ _ _ ha hb hc), hbq⟩
      · have e4 : s.size = 4 := by omega
        rw [list4 s e4]
        have ha := UInt8.toNat_lt (s[0]'(by omega))
        have hb := UInt8.toNat_lt (s[1]'(by omega))
        have hc := UInt8.toNat_lt (s[2]'(by omega))
        have hd := UInt8.toNat_lt (s[3]'(by omega))
        go_enter Tryd.func51, Tryd.ntmps51
        go_wp2
        refine wp_region_quiet_below (by kernel_rfl) (by kernel_rfl) ?_
        repeat (quiet_step (fail))
        refine wpQuiet_nil ?_
        intro _ hw'
        obtain ⟨⟨dq, osq⟩, hw''⟩ := hw'
        subst hw''
        have hbq := below_regrown w dq osq
        go_wp2
        go_ret
        exact ⟨congrArg (fun x => Ending.returned (.int .i64 x)) (g4 _ _ _ _ ha hb hc hd), hbq⟩
set_option maxRecDepth 20000 in
set_option maxHeartbeats 1000000 in
theorem specPoint (n : Nat) (w : World) : Calls Tryd.prog 57 #[.int .i64 n] w fun e w' => e = .returned (.bool (Pl.isPt n)) ∧ w' = w := by
  by_cases h1 : n ≤ 1114111
  · by_cases h2 : 55296 ≤ n
    · by_cases h3 : n ≤ 57343
      · rw [show Pl.isPt n = false from by simp [Pl.isPt]; omega]
        go_enter Tryd.func57, Tryd.ntmps57
        go_wp2
        go_ret
        exact ⟨congrArg (fun b => Ending.returned (.bool b)) (by first | (simp; done) | (simp; omega)), rfl⟩
      · rw [show Pl.isPt n = true from by simp [Pl.isPt]; omega]
        go_enter Tryd.func57, Tryd.ntmps57
        go_wp2
        go_ret
        exact ⟨congrArg (fun b => Ending.returned (.bool b)) (by first | (simp; done) | (simp; omega)), rfl⟩
    · rw [show Pl.isPt n = true from by simp [Pl.isPt]; omega]
      go_enter Tryd.func57, Tryd.ntmps57
      go_wp2
      go_ret
      exact ⟨congrArg (fun b => Ending.returned (.bool b)) (by first | (simp; done) | (simp; omega)), rfl⟩
  · rw [show Pl.isPt n = false from by simp [Pl.isPt]; omega]
    go_enter Tryd.func57, Tryd.ntmps57
    go_wp2
    go_ret
    exact ⟨congrArg (fun b => Ending.returned (.bool b)) (by first | (simp; done) | (simp; omega)), rfl⟩
theorem by8_val (n : Int) (h0 : 0 ≤ n) (h1 : n < 256) : ((Pl.by8 n).toNat : Int) = n := ((Pl.by8_eq n _ h0 h1).1 rfl).symm
theorem Own.lit (w : World) (p : List UInt8) (cs : Array Value) (h : cs.toList = byteCells p) (hm : p.length ≤ 1000) : Own w.heap.size (.slice (some ⟨w.heap.size, 0, none⟩) p.length p.length) p (w.alloc (.cells cs 5)) := by
  have := World.ownsRow_lit (base := w.heap.size) (e := 5) (size := 1) w cs p.length (Nat.le_refl _) (by unfold maxLen; omega) (by have := congrArg List.length h; simp [byteCells_length] at this; omega)
  rw [h] at this
  exact this
set_option maxRecDepth 1000000 in
set_option maxHeartbeats 2000000 in
theorem specForm (n : Nat) (hn : n ≤ 5000000) (w : World) : Calls Tryd.prog 52 #[.int .i64 4, .int .i64 n] w fun e w' => ∃ v, e = .returned v ∧ Own w.heap.size v (Pl.formN n) w' ∧ Below w.heap.size w w' := by
  have hP := specPoint n w
  unfold Pl.formN
  cases hpt : Pl.isPt n
  · rw [hpt] at hP
    rw [if_pos rfl]
    go_enter Tryd.func52, Tryd.ntmps52
    go_wp2_with fail
    refine hP.mono ?_
    rintro e w2 ⟨rfl, rfl⟩
    go_wp2
    go_ret
    exact ⟨_, rfl, Own.made _ _ (Nat.le_refl _), (Below.refl _ _).alloc (Nat.le_refl _) _⟩
  · have hmax : n ≤ 1114111 := by simp [Pl.isPt] at hpt; omega
    rw [hpt] at hP
    rw [if_neg (by simp)]
    clear hpt
    by_cases h1 : n < 128
    · rw [if_pos (by omega)]
      go_enter Tryd.func52, Tryd.ntmps52
      go_wp2_with fail
      refine hP.mono ?_
      rintro e w2 ⟨rfl, rfl⟩
      go_wp2
      go_ret
      refine ⟨_, rfl, Own.lit w2 [Pl.by8 n] _ ?_ (by simp), (Below.refl _ _).alloc (Nat.le_refl _) _⟩
      simp only [byteCells, List.map, by8_val _ (show (0 : Int) ≤ n by omega) (show (n : Int) < 256 by omega)]
    · rw [if_neg (by omega)]
      by_cases h2 : n < 2048
      · rw [if_pos (by omega)]
        go_enter Tryd.func52, Tryd.ntmps52
        go_wp2_with fail
        refine hP.mono ?_
        rintro e w2 ⟨rfl, rfl⟩
        go_wp2
        go_ret
        refine ⟨_, rfl, Own.lit w2 [Pl.by8 (192 + (n : Int) / 64), Pl.by8 (128 + (n : Int) % 64)] _ ?_ (by simp), (Below.refl _ _).alloc (Nat.le_refl _) _⟩
        simp only [byteCells, List.map, by8_val (192 + (n : Int) / 64) (by omega) (by omega), by8_val (128 + (n : Int) % 64) (by omega) (by omega)]
      · rw [if_neg (by omega)]
        by_cases h3 : n < 65536
        · rw [if_pos (by omega)]
          have i1 : (128 : Int) ≤ n := by omega
          have i2 : (2048 : Int) ≤ n := by omega
          have i3 : (n : Int) < 65536 := by omega
          clear h1 h2 h3 hmax hn
          go_enter Tryd.func52, Tryd.ntmps52
          go_wp2_with fail
          refine hP.mono ?_
          rintro e w2 ⟨rfl, rfl⟩
          go_wp2
          go_ret
          refine ⟨_, rfl, Own.lit w2 [Pl.by8 (224 + (n : Int) / 4096), Pl.by8 (128 + (n : Int) / 64 % 64), Pl.by8 (128 + (n : Int) % 64)] _ ?_ (by simp), (Below.refl _ _).alloc (Nat.le_refl _) _⟩
          simp only [byteCells, List.map, by8_val (224 + (n : Int) / 4096) (by omega) (by omega), by8_val (128 + (n : Int) / 64 % 64) (by omega) (by omega), by8_val (128 + (n : Int) % 64) (by omega) (by omega)]
        · rw [if_neg (by omega)]
          have i1 : (128 : Int) ≤ n := by omega
          have i2 : (2048 : Int) ≤ n := by omega
          have i3 : (65536 : Int) ≤ n := by omega
          have i4 : (n : Int) ≤ 1114111 := by omega
          clear h1 h2 h3 hmax hn
          go_enter Tryd.func52, Tryd.ntmps52
          go_wp2_with fail
          refine hP.mono ?_
          rintro e w2 ⟨rfl, rfl⟩
          go_wp2
          go_ret
          refine ⟨_, rfl, Own.lit w2 [Pl.by8 (240 + (n : Int) / 262144), Pl.by8 (128 + (n : Int) / 4096 % 64), Pl.by8 (128 + (n : Int) / 64 % 64), Pl.by8 (128 + (n : Int) % 64)] _ ?_ (by simp), (Below.refl _ _).alloc (Nat.le_refl _) _⟩
          simp only [byteCells, List.map, by8_val (240 + (n : Int) / 262144) (by omega) (by omega), by8_val (128 + (n : Int) / 4096 % 64) (by omega) (by omega), by8_val (128 + (n : Int) / 64 % 64) (by omega) (by omega), by8_val (128 + (n : Int) % 64) (by omega) (by omega)]
end Go.Proofs.YtpjpnjbegjiegaaDoor
