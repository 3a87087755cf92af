
/- Lists of a filter's nodes held against one another; as an argument. -/
import Derived.Test.YtmpakfpmcohcgaaNodes2
import Derived.Lib.QuietBelow
import Derived.Deep.QuietTactic
import Derived.BigQuiet
namespace Go.Proofs.Ytmpakfpmcohcgaa
open Go.RowKit Go.Lib Go.Maps
set_option maxHeartbeats 400000 in
theorem lawEqTextsO (a b : Option Addr) (F : List ByteArray) (cap cap' : Nat) (w : World) (hF : Tx w.heap.size w a F) (hG : Tx w.heap.size w b F) (hlen : F.length ≤ 1048576) :
    Calls Try.prog 26 #[.slice a F.length cap, .slice b F.length cap'] w fun e w' => e = .returned (.bool true) ∧ Below w.heap.size w w' := by
  have HF : Hid (Tx w.heap.size w a F) := hF
  have HG : Hid (Tx w.heap.size w b F) := hG
  clear hF hG
  go_enter Try.func26, Try.ntmps26
  go_wp2
  go_loopw [5] (fun i wr => ∃ k : Nat, k ≤ F.length ∧ i = .int .i64 k ∧ Below w.heap.size w wr) (fun i _ => F.length - (Lib.intOf i).toNat)
  case atStart => exact ⟨0, Nat.zero_le _, rfl, Below.refl _ _⟩
  case round =>
    obtain ⟨k, hk, rfl, hb0⟩ := hrel
    by_cases hlt : k < F.length
    · obtain ⟨a', ea, ha, hc0⟩ := (HF.out.below hb0) k hlt
      obtain ⟨b', eb, hb, hd0⟩ := (HG.out.below hb0) k hlt
      subst ea eb
      generalize F[k] = f at hc0 hd0
      go_wp2
      go_region
      all_goals
        go_wp2
        go_roundw
        case rel => exact ⟨k + 1, by omega, by go_num, hb0.drew⟩
        case measure => simp [Lib.intOf]; omega
    · go_wp2
      go_ret
      exact ⟨rfl, hb0⟩
set_option maxHeartbeats 400000 in
theorem lawEqIntsO (a b : Option Addr) (F : List Int) (cap cap' : Nat) (w : World) (hF : Ints w.heap.size w a F) (hG : Ints w.heap.size w b F) (hlen : F.length ≤ 1048576) :
    Calls Try.prog 27 #[.slice a F.length cap, .slice b F.length cap'] w fun e w' => e = .returned (.bool true) ∧ Below w.heap.size w w' := by
  have HF : Hid (Ints w.heap.size w a F) := hF
  have HG : Hid (Ints w.heap.size w b F) := hG
  clear hF hG
  go_enter Try.func27, Try.ntmps27
  go_wp2
  go_loopw [5] (fun i wr => ∃ k : Nat, k ≤ F.length ∧ i = .int .i64 k ∧ Below w.heap.size w wr) (fun i _ => F.length - (Lib.intOf i).toNat)
  case atStart => exact ⟨0, Nat.zero_le _, rfl, Below.refl _ _⟩
  case round =>
    obtain ⟨k, hk, rfl, hb0⟩ := hrel
    by_cases hlt : k < F.length
    · obtain ⟨a', ea, ha, hc0⟩ := (HF.out.below hb0) k hlt
      obtain ⟨b', eb, hb, hd0⟩ := (HG.out.below hb0) k hlt
      subst ea eb
      generalize F[k] = f at hc0 hd0
      go_wp2
      go_region
      all_goals
        go_wp2
        go_roundw
        case rel => exact ⟨k + 1, by omega, by go_num, hb0.drew⟩
        case measure => simp [Lib.intOf]; omega
    · go_wp2
      go_ret
      exact ⟨rfl, hb0⟩
set_option maxHeartbeats 1000000 in
theorem lawEqNode (n : Nd) (vn vk vd un uk ud : Value) (w : World) (hI : NdIn w.heap.size w n vn vk vd) (hJ : NdIn w.heap.size w n un uk ud) (hf : n.fits 1048576) :
    Calls Try.prog 14 #[ndV n vn vk vd, ndV n un uk ud] w fun e w' => e = .returned (.bool true) ∧ Below w.heap.size w w' := by
  obtain ⟨⟨a1, c1, rfl, t1⟩, ⟨a2, c2, rfl, t2⟩, ⟨a3, c3, rfl, t3⟩⟩ := hI
  obtain ⟨⟨b1, d1, rfl, s1⟩, ⟨b2, d2, rfl, s2⟩, ⟨b3, d3, rfl, s3⟩⟩ := hJ
  obtain ⟨f1, f2, f3, f4, f5, f6⟩ := hf
  have HT1 := mkHid fun (w' : World) (hb : Below w.heap.size w w') => lawEqTextsO a1 b1 n.names c1 d1 w' ((t1.below hb).mono hb.size) ((s1.below hb).mono hb.size) f2
  have HT2 := mkHid fun (w' : World) (hb : Below w.heap.size w w') => lawEqTextsO a2 b2 n.keys c2 d2 w' ((t2.below hb).mono hb.size) ((s2.below hb).mono hb.size) f4
  have HT3 := mkHid fun (w' : World) (hb : Below w.heap.size w w') => lawEqIntsO a3 b3 n.kids c3 d3 w' ((t3.below hb).mono hb.size) ((s3.below hb).mono hb.size) f6
  clear t1 t2 t3 s1 s2 s3 f2 f3 f4 f5 f6
  obtain ⟨W, hW⟩ : ∃ W, W = (w.alloc (.cells #[.int .i64 n.kind, .int .i64 n.num, .int .i64 n.mat, .string n.text, .slice a1 n.names.length c1, .slice a2 n.keys.length c2, .slice a3 n.kids.length c3] 34)).alloc (.cells #[.int .i64 n.kind, .int .i64 n.num, .int .i64 n.mat, .string n.text, .slice b1 n.names.length d1, .slice b2 n.keys.length d2, .slice b3 n.kids.length d3] 34) := ⟨_, rfl⟩
  have hbW : Below w.heap.size w W := by rw [hW]; exact ((Below.refl _ _).alloc (Nat.le_refl _) _).alloc (by simp) _
  have hWs : w.heap.size + 1 < W.heap.size := by rw [hW]; simp
  have hA : W.heap[w.heap.size]? = some (.cells #[.int .i64 n.kind, .int .i64 n.num, .int .i64 n.mat, .string n.text, .slice a1 n.names.length c1, .slice a2 n.keys.length c2, .slice a3 n.kids.length c3] 34 (0, 0)) := by rw [hW]; exact (Below.heap_alloc _ _ _ (by simp)).trans (hp_allocN _ _)
  have hB : W.heap[w.heap.size + 1]? = some (.cells #[.int .i64 n.kind, .int .i64 n.num, .int .i64 n.mat, .string n.text, .slice b1 n.names.length d1, .slice b2 n.keys.length d2, .slice b3 n.kids.length d3] 34 (0, 0)) := by
    rw [hW, show w.heap.size + 1 = (w.alloc (.cells #[.int .i64 n.kind, .int .i64 n.num, .int .i64 n.mat, .string n.text, .slice a1 n.names.length c1, .slice a2 n.keys.length c2, .slice a3 n.kids.length c3] 34)).heap.size by simp]
    exact hp_allocN _ _
  replace hW := mkHid hW
  unfold ndV
  go_enter Try.func14, Try.ntmps14
  go_wp2_with fail
  rw [← hW.out]
  refine (HT1.out W hbW).mono ?_
  rintro e w1 ⟨rfl, hb1⟩
  have hs1 := hb1.size
  have hA1 := (hb1.block w.heap.size (by omega)).trans hA
  have hB1 := (hb1.block (w.heap.size + 1) hWs).trans hB
  have hbw1 := hbW.trans (hb1.mono (by omega))
  have p5 : w1.cell? ⟨w.heap.size, 5, none⟩ = some (.slice a2 n.keys.length c2) := by simp [World.cell?, hA1]
  have q5 : w1.cell? ⟨w.heap.size + 1, 5, none⟩ = some (.slice b2 n.keys.length d2) := by simp [World.cell?, hB1]
  clear hA hB hW hb1
  go_wp2_with fail
  refine (HT2.out w1 hbw1).mono ?_
  rintro e w2 ⟨rfl, hb2⟩
  have hA2 := (hb2.block w.heap.size (by omega)).trans hA1
  have hB2 := (hb2.block (w.heap.size + 1) (by omega)).trans hB1
  have hbw2 := hbw1.trans (hb2.mono (by omega))
  have p6 : w2.cell? ⟨w.heap.size, 6, none⟩ = some (.slice a3 n.kids.length c3) := by simp [World.cell?, hA2]
  have q6 : w2.cell? ⟨w.heap.size + 1, 6, none⟩ = some (.slice b3 n.kids.length d3) := by simp [World.cell?, hB2]
  clear hA1 hB1 hA2 hB2 hb2 p5 q5
  go_wp2_with fail
  refine (HT3.out w2 hbw2).mono ?_
  rintro e w3 ⟨rfl, hb3⟩
  have hbw3 := hbw2.trans (hb3.mono hbw2.size)
  clear p6 q6 hb3
  go_wp2
  go_ret
  exact ⟨rfl, hbw3⟩
set_option maxHeartbeats 1000000 in
set_option maxRecDepth 10000 in
theorem lawEqNodes (a b : Option Addr) (F : List Nd) (cap cap' : Nat) (w : World) (hF : Nds w.heap.size w a F) (hG : Nds w.heap.size w b F) (hlen : F.length ≤ 1048576) (hfit : ∀ f ∈ F, f.fits 1048576) :
    Calls Try.prog 8 #[.slice a F.length cap, .slice b F.length cap'] w fun e w' => e = .returned (.bool true) ∧ Below w.heap.size w w' := by
  have HF := mkHid hF
  have HG := mkHid hG
  have Hfit := mkHid hfit
  clear hF hG hfit
  go_enter Try.func8, Try.ntmps8
  go_wp2
  go_loopw [5] (fun i wr => ∃ k : Nat, k ≤ F.length ∧ i = .int .i64 k ∧ Below w.heap.size w wr) (fun i _ => F.length - (Lib.intOf i).toNat)
  case atStart => exact ⟨0, Nat.zero_le _, rfl, Below.refl _ _⟩
  case round =>
    obtain ⟨k, hk, rfl, hb0⟩ := hrel
    by_cases hlt : k < F.length
    · obtain ⟨a', vn, vk, vd, rfl, ha, hA, hI⟩ := (HF.out.below hb0) k hlt
      obtain ⟨b', un, uk, ud, rfl, hb, hB, hJ⟩ := (HG.out.below hb0) k hlt
      have hE := mkHid fun (w' : World) (hb' : Below wr.heap.size wr w') => lawEqNode F[k] vn vk vd un uk ud w' (((hI.mono hb0.size).below hb').mono hb'.size) (((hJ.mono hb0.size).below hb').mono hb'.size) (Hfit.out _ (List.getElem_mem hlt))
      have c0 := hA.c0
      have c1 := hA.c1
      have c2 := hA.c2
      have c3 := hA.c3
      have c4 := hA.c4
      have c5 := hA.c5
      have c6 := hA.c6
      have d0 := hB.c0
      have d1 := hB.c1
      have d2 := hB.c2
      have d3 := hB.c3
      have d4 := hB.c4
      have d5 := hB.c5
      have d6 := hB.c6
      clear hA hB hI hJ
      generalize F[k] = n at *
      have cE : Hid (∀ d os, Calls Try.prog 14 #[ndV n vn vk vd, ndV n un uk ud] (Go.Sort.grow (redrawn wr d) os) fun e w'' => e = .returned (.bool true) ∧ ∃ p : Regrown, w'' = Go.Sort.grow (redrawn wr p.d) p.os) := fun d os => Calls.regrown_of (hE.out _ (below_regrown wr d os))
      unfold ndV at cE
      go_wp2
      have k0 := cell_regrown c0
      have l0 := cell_regrown d0
      have k1 := cell_regrown c1
      have l1 := cell_regrown d1
      have k2 := cell_regrown c2
      have l2 := cell_regrown d2
      have k3 := cell_regrown c3
      have l3 := cell_regrown d3
      have k4 := cell_regrown c4
      have l4 := cell_regrown d4
      have k5 := cell_regrown c5
      have l5 := cell_regrown d5
      have k6 := cell_regrown c6
      have l6 := cell_regrown d6
      clear hE c0 c1 c2 c3 c4 c5 c6 d0 d1 d2 d3 d4 d5 d6
      refine wp_region_quiet_below (by kernel_rfl) (by kernel_rfl) ?_
      iterate 8 (quiet_step (fail))
      quiet_step (exact cE.out _ _)
      repeat (quiet_step (fail))
      refine wpQuiet_nil ?_
      intro _ hw'
      obtain ⟨⟨dq, osq⟩, hw''⟩ := hw'
      subst hw''
      have hbq := mkHid (hb0.trans ((below_regrown wr dq osq).mono hb0.size))
      generalize Go.Sort.grow (redrawn wr dq) osq = wq at *
      clear k0 k1 k2 k3 k4 k5 k6 l0 l1 l2 l3 l4 l5 l6 cE hb0
      go_wp2
      go_roundw
      case rel => exact ⟨k + 1, by omega, by go_num, hbq.out⟩
      case measure => simp [Lib.intOf]; omega
    · go_wp2
      go_ret
      exact ⟨rfl, hb0⟩
end Go.Proofs.Ytmpakfpmcohcgaa
