
/- Lists of a filter's nodes held against one another; as an argument. -/
import Derived.Test.YtopbokfloapbeaaNodes2
import Derived.Lib.QuietBelow
import Derived.Deep.QuietTactic
import Derived.BigQuiet
namespace Go.Proofs.Ytopbokfloapbeaa
open Go.RowKit Go.Lib Go.Maps
set_option maxHeartbeats 400000 in
theorem lawEqTextsO (a b : Option Addr) (F : List ByteArray) (cap cap' : Nat) (w : World) (hF : Tx w.heap.size w a F) (hG : Tx w.heap.size w b F) (hlen : F.length ≤ 1048576) :
    Calls Try.prog 35 #[.slice a F.length cap, .slice b F.length cap'] w fun e w' => e = .returned (.bool true) ∧ Below w.heap.size w w' := by
  have HF : Hid (Tx w.heap.size w a F) := hF
  have HG : Hid (Tx w.heap.size w b F) := hG
  clear hF hG
  go_enter Try.func35, Try.ntmps35
  go_wp2
  go_loopw [5] (fun i wr => ∃ k : Nat, k ≤ F.length ∧ i = .int .i64 k ∧ Below w.heap.size w wr) (fun i _ => F.length - (Lib.intOf i).toNat)
  case atStart => exact ⟨0, Nat.zero_le _, rfl, Below.refl _ _⟩
  case round =>
    obtain ⟨k, hk, rfl, hb0⟩ := hrel
    by_cases hlt : k < F.length
    · obtain ⟨a', ea, ha, hc0⟩ := (HF.out.below hb0) k hlt
      obtain ⟨b', eb, hb, hd0⟩ := (HG.out.below hb0) k hlt
      subst ea eb
      generalize F[k] = f at hc0 hd0
      go_wp2
      go_region
      all_goals
        go_wp2
        go_roundw
        case rel => exact ⟨k + 1, by omega, by go_num, hb0.drew⟩
        case measure => simp [Lib.intOf]; omega
    · go_wp2
      go_ret
      exact ⟨rfl, hb0⟩
set_option maxHeartbeats 400000 in
theorem lawEqIntsO (a b : Option Addr) (F : List Int) (cap cap' : Nat) (w : World) (hF : Ints w.heap.size w a F) (hG : Ints w.heap.size w b F) (hlen : F.length ≤ 1048576) :
    Calls Try.prog 36 #[.slice a F.length cap, .slice b F.length cap'] w fun e w' => e = .returned (.bool true) ∧ Below w.heap.size w w' := by
  have HF : Hid (Ints w.heap.size w a F) := hF
  have HG : Hid (Ints w.heap.size w b F) := hG
  clear hF hG
  go_enter Try.func36, Try.ntmps36
  go_wp2
  go_loopw [5] (fun i wr => ∃ k : Nat, k ≤ F.length ∧ i = .int .i64 k ∧ Below w.heap.size w wr) (fun i _ => F.length - (Lib.intOf i).toNat)
  case atStart => exact ⟨0, Nat.zero_le _, rfl, Below.refl _ _⟩
  case round =>
    obtain ⟨k, hk, rfl, hb0⟩ := hrel
    by_cases hlt : k < F.length
    · obtain ⟨a', ea, ha, hc0⟩ := (HF.out.below hb0) k hlt
      obtain ⟨b', eb, hb, hd0⟩ := (HG.out.below hb0) k hlt
      subst ea eb
      generalize F[k] = f at hc0 hd0
      go_wp2
      go_region
      all_goals
        go_wp2
        go_roundw
        case rel => exact ⟨k + 1, by omega, by go_num, hb0.drew⟩
        case measure => simp [Lib.intOf]; omega
    · go_wp2
      go_ret
      exact ⟨rfl, hb0⟩
set_option maxHeartbeats 1000000 in
theorem lawEqNode (n : Nd) (vn vk vd un uk ud : Value) (w : World) (hI : NdIn w.heap.size w n vn vk vd) (hJ : NdIn w.heap.size w n un uk ud) (hf : n.fits 1048576) :
    Calls Try.prog 24 #[ndV n vn vk vd, ndV n un uk ud] w fun e w' => e = .returned (.bool true) ∧ Below w.heap.size w w' := by
  obtain ⟨⟨a1, c1, rfl, t1⟩, ⟨a2, c2, rfl, t2⟩, ⟨a3, c3, rfl, t3⟩⟩ := hI
  obtain ⟨⟨b1, d1, rfl, s1⟩, ⟨b2, d2, rfl, s2⟩, ⟨b3, d3, rfl, s3⟩⟩ := hJ
  obtain ⟨f1, f2, f3, f4, f5, f6⟩ := hf
  have HT1 := mkHid fun (w' : World) (hb : Below w.heap.size w w') => lawEqTextsO a1 b1 n.names c1 d1 w' ((t1.below hb).mono hb.size) ((s1.below hb).mono hb.size) f2
  have HT2 := mkHid fun (w' : World) (hb : Below w.heap.size w w') => lawEqTextsO a2 b2 n.keys c2 d2 w' ((t2.below hb).mono hb.size) ((s2.below hb).mono hb.size) f4
  have HT3 := mkHid fun (w' : World) (hb : Below w.heap.size w w') => lawEqIntsO a3 b3 n.kids c3 d3 w' ((t3.below hb).mono hb.size) ((s3.below hb).mono hb.size) f6
  clear t1 t2 t3 s1 s2 s3 f2 f3 f4 f5 f6
  obtain ⟨W, hW⟩ : ∃ W, W = (w.alloc (.cells #[.int .i64 n.kind, .int .i64 n.num, .int .i64 n.mat, .string n.text, .slice a1 n.names.length c1, .slice a2 n.keys.length c2, .slice a3 n.kids.length c3] 37)).alloc (.cells #[.int .i64 n.kind, .int .i64 n.num, .int .i64 n.mat, .string n.text, .slice b1 n.names.length d1, .slice b2 n.keys.length d2, .slice b3 n.kids.length d3] 37) := ⟨_, rfl⟩
  have hbW : Below w.heap.size w W := by rw [hW]; exact ((Below.refl _ _).alloc (Nat.le_refl _) _).alloc (by simp) _
  have hWs : w.heap.size + 1 < W.heap.size := by rw [hW]; simp
  have hA : W.heap[w.heap.size]? = some (.cells #[.int .i64 n.kind, .int .i64 n.num, .int .i64 n.mat, .string n.text, .slice a1 n.names.length c1, .slice a2 n.keys.length c2, .slice a3 n.kids.length c3] 37 (0, 0)) := by rw [hW]; exact (Below.heap_alloc _ _ _ (by simp)).trans (hp_allocN _ _)
  have hB : W.heap[w.heap.size + 1]? = some (.cells #[.int .i64 n.kind, .int .i64 n.num, .int .i64 n.mat, .string n.text, .slice b1 n.names.length d1, .slice b2 n.keys.length d2, .slice b3 n.kids.length d3] 37 (0, 0)) := by
    rw [hW, show w.heap.size + 1 = (w.alloc (.cells #[.int .i64 n.kind, .int .i64 n.num, .int .i64 n.mat, .string n.text, .slice a1 n.names.length c1, .slice a2 n.keys.length c2, .slice a3 n.kids.length c3] 37)).heap.size by simp]
    exact hp_allocN _ _
  replace hW := mkHid hW
  unfold ndV
  go_enter Try.func24, Try.ntmps24
  go_wp2_with fail
  rw [← hW.out]
  refine (HT1.out W hbW).mono ?_
  rintro e w1 ⟨rfl, hb1⟩
  have hs1 := hb1.size
  have hA1 := (hb1.block w.heap.size (by omega)).trans hA
  have hB1 := (hb1.block (w.heap.size + 1) hWs).trans hB
  have hbw1 := hbW.trans (hb1.mono (by omega))
  have p5 : w1.cell? ⟨w.heap.size, 5, none⟩ = some (.slice a2 n.keys.length c2) := by simp [World.cell?, hA1]
  have q5 : w1.cell? ⟨w.heap.size + 1, 5, none⟩ = some (.slice b2 n.keys.length d2) := by simp [World.cell?, hB1]
  clear hA hB hW hb1
  go_wp2_with fail
  refine (HT2.out w1 hbw1).mono ?_
  rintro e w2 ⟨rfl, hb2⟩
  have hA2 := (hb2.block w.heap.size (by omega)).trans hA1
  have hB2 := (hb2.block (w.heap.size + 1) (by omega)).trans hB1
  have hbw2 := hbw1.trans (hb2.mono (by omega))
  have p6 : w2.cell? ⟨w.heap.size, 6, none⟩ = some (.slice a3 n.kids.length c3) := by simp [World.cell?, hA2]
  have q6 : w2.cell? ⟨w.heap.size + 1, 6, none⟩ = some (.slice b3 n.kids.length d3) := by simp [World.cell?, hB2]
  clear hA1 hB1 hA2 hB2 hb2 p5 q5
  go_wp2_with fail
  refine (HT3.out w2 hbw2).mono ?_
  rintro e w3 ⟨rfl, hb3⟩
  have hbw3 := hbw2.trans (hb3.mono hbw2.size)
  clear p6 q6 hb3
  go_wp2
  go_ret
  exact ⟨rfl, hbw3⟩
end Go.Proofs.Ytopbokfloapbeaa
