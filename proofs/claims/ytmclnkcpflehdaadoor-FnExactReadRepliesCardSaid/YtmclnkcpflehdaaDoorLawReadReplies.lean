
/- The law on ReadReplies. -/
import Derived.Test.YtmclnkcpflehdaaDoorSpecReplies
import Derived.Test.YtmclnkcpflehdaaDoorImplReplies
import Derived.Test.YtmclnkcpflehdaaDoorReplyMarks
import Derived.Test.YtmclnkcpflehdaaDoorGenReplyList
namespace Go.Proofs.YtmclnkcpflehdaaDoor
open Go.RowKit Go.Lib Go.Maps
namespace Rl
def tot : List GReply → Nat
  | [] => 0
  | f :: r => 1 + f.lines.length + tot r
set_option maxRecDepth 20000 in
theorem tot_app : ∀ (F G : List GReply), tot (F ++ G) = tot F + tot G
  | [], G => by simp [tot]
  | f :: r, G => by rw [List.cons_append, tot, tot_app r G, tot]; omega
set_option maxRecDepth 20000 in
theorem endF_tot : ∀ (F : List GReply) (k : Nat), endF k F = k + tot F
  | [], k => rfl
  | f :: r, k => by rw [endF, endF_tot r, tot]; omega
set_option maxRecDepth 20000 in
theorem tot_len : ∀ F : List GReply, F.length ≤ tot F ∧ ∀ f ∈ F, f.lines.length ≤ tot F
  | [] => ⟨Nat.le_refl _, fun f h => by cases h⟩
  | f :: r => by
    obtain ⟨h1, h2⟩ := tot_len r
    rw [tot, List.length_cons]
    refine ⟨by omega, fun g hg => ?_⟩
    rcases List.mem_cons.1 hg with rfl | hg
    · omega
    · have := h2 g hg; omega
set_option maxRecDepth 20000 in
/-- What is read is no more than there were lines, no text longer than a line. -/
theorem rd_small (m : Nat) : ∀ (L : List (List UInt8)) (R : List GReply) (c : Int) (P : List ByteArray) (F : List GReply), rd L R c P = some F → (∀ x ∈ L, x.length ≤ m) → (∀ f ∈ R, ∀ t ∈ f.lines, t.size ≤ m) → (∀ t ∈ P, t.size ≤ m) → tot F ≤ tot R + P.length + 2 * L.length ∧ ∀ f ∈ F, ∀ t ∈ f.lines, t.size ≤ m
  | [], R, c, P, F, h, _, hR, _ => by
    rw [rd] at h
    split at h
    · cases h
      exact ⟨by omega, hR⟩
    · cases h
  | x :: r, R, c, P, F, h, hL, hR, hP => by
    have hx : (text x).size ≤ m := by
      have h1 := hL x List.mem_cons_self
      have h2 : (text x).size = x.length - 4 := by simp [text, ByteArray.size]
      omega
    have hP2 : ∀ t ∈ P ++ [text x], t.size ≤ m := fun t ht => by
      rcases List.mem_append.1 ht with h1 | h1
      · exact hP t h1
      · rw [List.mem_singleton.1 h1]; exact hx
    have hL2 : ∀ y ∈ r, y.length ≤ m := fun y hy => hL y (List.mem_cons_of_mem _ hy)
    rw [rd] at h
    rw [List.length_cons]
    split at h
    · split at h
      · cases h
      · split at h
        · obtain ⟨h1, h2⟩ := rd_small m r R (code x) (P ++ [text x]) F h hL2 hR hP2
          rw [List.length_append] at h1
          simp only [List.length_cons, List.length_nil] at h1
          exact ⟨by omega, h2⟩
        · obtain ⟨h1, h2⟩ := rd_small m r (R ++ [⟨code x, P ++ [text x]⟩]) 0 [] F h hL2 (fun f hf => by
            rcases List.mem_append.1 hf with h1 | h1
            · exact hR f h1
            · rw [List.mem_singleton.1 h1]; exact hP2) (fun t ht => by cases ht)
          rw [tot_app, tot, tot, List.length_append] at h1
          simp only [List.length_cons, List.length_nil] at h1
          exact ⟨by omega, h2⟩
    · cases h
set_option maxRecDepth 20000 in
theorem ans_small (s : ByteArray) : tot ((ans s).getD []) ≤ 200000 ∧ ∀ f ∈ (ans s).getD [], f.fits 1048576 := by
  cases hz : ans s with
  | none => exact ⟨by simp [tot], fun f h => by simp at h⟩
  | some F =>
    rw [ans_spec] at hz
    split at hz
    · rename_i hc
      obtain ⟨ls, hls, htot, hline⟩ := lines_packR s
      rw [← hls] at hz
      obtain ⟨h1, h2⟩ := rd_small 100000 ls [] 0 [] F hz (fun x hx => by
        obtain ⟨k, hk, rfl⟩ := List.getElem_of_mem hx
        have := hline k hk
        omega) (fun f hf => by cases hf) (fun t ht => by cases ht)
      have h3 : tot F ≤ 200000 := by
        simp only [tot, List.length_nil] at h1
        omega
      refine ⟨h3, fun f hf => ⟨?_, fun t ht => ?_⟩⟩
      · have := (tot_len F).2 f hf
        omega
      · have := h2 f hf t ht
        omega
    · cases hz
end Rl
set_option maxRecDepth 20000 in
theorem GReplysL.keepW {lo hi : Nat} {w w' : World} {o : Option Addr} {F : List GReply} (h : GReplysL lo hi w o F) (hb : Below hi w w') (hs : hi ≤ w'.heap.size) : GReplysL lo w'.heap.size w' o F := (h.below hb (Nat.le_refl _)).mono (Nat.le_refl _) hs
set_option maxRecDepth 20000 in
theorem RpOut.get {B : Nat} {z : Option (List GReply)} {w w' : World} {e : Ending} (h : RpOut B z w e w') : ∃ o cap E, e = .returned (.agg #[.bool z.isSome, .slice o (z.getD []).length cap]) ∧ Rp B (.slice o (z.getD []).length cap) E w' ∧ E.map (·.1) = z.getD [] ∧ E.length = (z.getD []).length ∧ Below B w w' := by
  obtain ⟨v, E, rfl, hR, hE, hb⟩ := h
  obtain ⟨o, cap, hv⟩ := hR.shape
  have hl : E.length = (z.getD []).length := by rw [← hE, List.length_map]
  rw [hl] at hv
  subst hv
  exact ⟨o, cap, E, rfl, hR, hE, hl, hb⟩
set_option maxHeartbeats 8000000 in
set_option maxRecDepth 20000 in
theorem walkReadReplies (s : ByteArray) (mx : Int) (w : World) (hm : w.cell? ⟨0, 0, none⟩ = some (.int .i64 mx)) (hs : s.size ≤ maxLen) :
    Calls Tryd.prog 3 #[.string s] w fun e w' => e = .returned (.bool true) ∧ Below w.heap.size w w' := by
  have hm0 := zero_ltL hm
  have Hm := mkHid hm
  clear hm
  unfold maxLen at hs
  by_cases hbig : 1048576 < s.size
  · have hc : decide ((1048576 : Int) < (s.size : Int)) = true := by simp; omega
    go_enter Tryd.func3, Tryd.ntmps3
    go_wp2
    go_ret
    exact ⟨rfl, Below.refl _ _⟩
  have hc : decide ((1048576 : Int) < (s.size : Int)) = false := by simp; omega
  obtain ⟨ht0, hfit0⟩ := Rl.ans_small s
  have cS := mkHid (fun (w : World) => (specReplies s w (by omega)).mono fun e w' h => mkHid h.get)
  have cI := mkHid (fun (w : World) (hm : w.cell? ⟨0, 0, none⟩ = some (.int .i64 mx)) => (implReplies s mx w (by omega) hm).mono fun e w' h => mkHid h.get)
  generalize hF : (Rl.ans s).getD [] = F at *
  generalize (Rl.ans s).isSome = bb at *
  have hend : endF 1 F ≤ 800000 := by rw [Rl.endF_tot]; omega
  have hlenF : F.length ≤ 1048576 := by have := (Rl.tot_len F).1; omega
  have Hfit := mkHid hfit0
  have nfit : Hid ((⟨bb, F⟩ : GReplyList).fits 1048576) := ⟨hlenF, hfit0⟩
  obtain ⟨M, hMM⟩ : ∃ M, endF 1 F = M := ⟨_, rfl⟩
  have HMM := mkHid hMM
  have hM8 : M ≤ 800000 := by omega
  have u1 : decide ((M : Int) < 0) = false := decide_eq_false (by omega)
  have u2 : ((M : Int) != (M : Int)) = false := by simp
  clear hF hfit0 ht0 hMM
  go_enter Tryd.func3, Tryd.ntmps3
  go_wp2_with (go_at_call 4; fail)
  refine (cS.out _).mono ?_
  rintro e w1 hx
  obtain ⟨p1, l1, E1, rfl, hR1, hE1, hl1, hb1⟩ := hx.out
  obtain ⟨W1, hW1⟩ : ∃ W1, W1 = w1.alloc (.cells #[.bool bb, .slice p1 F.length l1] 24) := ⟨_, rfl⟩
  have bW1 : Below w1.heap.size w1 W1 := by rw [hW1]; exact (Below.refl _ _).alloc (Nat.le_refl _) _
  have s1 : w1.heap.size < W1.heap.size := by rw [hW1]; simp
  have Z1 : Hid (W1.heap[w1.heap.size]? = some (.cells #[.bool bb, .slice p1 F.length l1] 24 (0, 0))) := show _ = _ from by rw [hW1]; exact heap_alloc_at _ _
  have I1 : Hid (GReplysL w.heap.size W1.heap.size W1 p1 F) := by
    have h := hR1.gl
    rw [hE1] at h
    exact h.keepW bW1 bW1.size
  have B1 := mkHid (hb1.trans (bW1.mono hb1.size))
  have HW1 := mkHid hW1
  clear cS hx hR1 hE1 hl1 bW1 hW1
  have s01 := B1.out.size
  have cI1 := mkHid (cI.out W1 ((B1.out.cell (p := ⟨0, 0, none⟩) hm0).trans Hm.out))
  go_wp2_with (go_at_call 5; fail)
  rw [← HW1.out]
  generalize hA0 : w1.heap.size = A0 at *
  refine cI1.out.mono ?_
  rintro e w2 hx
  obtain ⟨p2, l2, E2, rfl, hR2, hE2, hl2, hb2⟩ := hx.out
  obtain ⟨W2, hW2⟩ : ∃ W2, W2 = w2.alloc (.cells #[.bool bb, .slice p2 F.length l2] 24) := ⟨_, rfl⟩
  have bW2 : Below w2.heap.size w2 W2 := by rw [hW2]; exact (Below.refl _ _).alloc (Nat.le_refl _) _
  have s2 : w2.heap.size < W2.heap.size := by rw [hW2]; simp
  have s12 := hb2.size
  have Z2 : Hid (W2.heap[w2.heap.size]? = some (.cells #[.bool bb, .slice p2 F.length l2] 24 (0, 0))) := show _ = _ from by rw [hW2]; exact heap_alloc_at _ _
  have hrl : Hid (∀ k, (Value.slice p2 F.length l2).ownBlock = some k → k < w2.heap.size) := fun k e => (World.ownsRow.lt hR2.row k e).2
  have hol : Hid (∀ e ∈ E2, ∀ k, e.2.ownBlock = some k → k < w2.heap.size) := fun e he k hk => by
    obtain ⟨i, hi, rfl⟩ := List.getElem_of_mem he
    exact (World.ownsRow.lt (hR2.own i hi) k hk).2
  have R2 := mkHid (hR2.below bW2)
  have B2 := mkHid (hb2.trans (bW2.mono s12))
  have Z1b := mkHid ((B2.out.block A0 s1).trans Z1.out)
  have BW2 := mkHid (B1.out.trans (B2.out.mono s01))
  have I2 : Hid (GReplysL W1.heap.size W2.heap.size W2 p2 F) := by
    have h := R2.out.gl
    rw [hE2] at h
    exact h
  have cE := mkHid (lawEqReplyList ⟨bb, F⟩ (.slice p2 F.length l2) (.slice p1 F.length l1) _ _ W2 ⟨⟨_, _, rfl, I2.out⟩⟩ ⟨⟨_, _, rfl, I1.out.keepW B2.out B2.out.size⟩⟩ nfit.out)
  have HE2 := mkHid hE2
  have Hl2 := mkHid hl2
  have HW2 := mkHid hW2
  unfold GReplyListV at cE
  clear cI1 hx hR2 hb2 bW2 hW2 hE2 hl2 I2
  go_wp2_with (first | (rw [← HW2.out]; clear HW2; generalize hS0 : w2.heap.size = S0 at *; refine wpL_load_row rfl 24 _ rfl S0 _ 24 (0, 0) _ rfl Z2.out Tryd.underlying24 rfl (by kernel_rfl) ?_) | (refine wpL_load_row rfl 24 _ rfl A0 _ 24 (0, 0) _ rfl Z1b.out Tryd.underlying24 rfl (by kernel_rfl) ?_) | (go_at_call 6; fail))
  refine cE.out.mono ?_
  rintro e w3 ⟨rfl, hb3⟩
  have s3 := hb3.size
  have B3 := mkHid (B2.out.trans (hb3.mono B2.out.size))
  have R3 := mkHid (R2.out.below hb3)
  have Z23 := mkHid ((hb3.block S0 s2).trans Z2.out)
  have cM := mkHid (lawMarkReplyList bb p2 E2 F.length l2 W1.heap.size w3 Hl2.out (by rw [HE2.out]; exact hend) R3.out (by omega) S0 hrl.out hol.out)
  rw [HE2.out, HMM.out] at cM
  clear cE hb3 Z2 Z1b R2 B2
  go_wp2_with (first | (refine wpL_load_row rfl 24 _ rfl S0 _ 24 (0, 0) _ rfl Z23.out Tryd.underlying24 rfl (by kernel_rfl) ?_) | (go_at_call 7; fail))
  refine cM.out.mono ?_
  rintro e w4 ⟨rfl, hR4, hb4, hU4⟩
  have s4 := hb4.out.size
  have Z24 := mkHid ((hU4.out S0 (Nat.le_refl _) (by omega)).trans Z23.out)
  have B4 := mkHid (B3.out.trans hb4.out)
  have I4 : Hid (GReplysL W1.heap.size w4.heap.size w4 p2 (mkF 1 F)) := by
    have h := hR4.out.gl
    rw [mkE_fst, HE2.out] at h
    exact h
  have cH := mkHid (fun (w : World) (h : GReplysL W1.heap.size w.heap.size w p2 (mkF 1 F)) => lawHeldReplyList bb p2 F F.length l2 W1.heap.size w rfl hend h)
  rw [HMM.out] at cH
  have cH4 := mkHid (cH.out w4 I4.out)
  clear cM Z23 R3 B3 hU4 hR4 hb4
  go_wp2_with (first | (refine wpL_load_row rfl 24 _ rfl S0 _ 24 (0, 0) _ rfl Z24.out Tryd.underlying24 rfl (by kernel_rfl) ?_) | (go_at_call 8; fail))
  refine cH4.out.mono ?_
  rintro e w5 ⟨rfl, hb5⟩
  have s5 := hb5.size
  have B5 := mkHid (B4.out.trans (hb5.mono B4.out.size))
  have Z25 := mkHid ((hb5.block S0 (by omega)).trans Z24.out)
  have I5 := mkHid (I4.out.keepW hb5 s5)
  have BW5 := mkHid (B1.out.trans (B5.out.mono s01))
  have cI5 := mkHid (cI.out w5 ((BW5.out.cell (p := ⟨0, 0, none⟩) hm0).trans Hm.out))
  clear cH4 hb5 Z24 I4 B4
  go_wp2_with (go_at_call 5; fail)
  refine cI5.out.mono ?_
  rintro e w6 hx
  obtain ⟨p3, l3, E3, rfl, hR6, hE6, hl6, hb6⟩ := hx.out
  obtain ⟨W6, hW6⟩ : ∃ W6, W6 = w6.alloc (.cells #[.bool bb, .slice p3 F.length l3] 24) := ⟨_, rfl⟩
  have bW6 : Below w6.heap.size w6 W6 := by rw [hW6]; exact (Below.refl _ _).alloc (Nat.le_refl _) _
  have s6 := hb6.size
  have s6a : w6.heap.size < W6.heap.size := by rw [hW6]; simp
  have b56 := hb6.trans (bW6.mono s6)
  have Z6 : Hid (W6.heap[w6.heap.size]? = some (.cells #[.bool bb, .slice p3 F.length l3] 24 (0, 0))) := show _ = _ from by rw [hW6]; exact heap_alloc_at _ _
  have Z26 := mkHid ((b56.block S0 (by omega)).trans Z25.out)
  have B6 := mkHid (B5.out.trans (b56.mono B5.out.size))
  have Z16 := mkHid ((B6.out.block A0 s1).trans Z1.out)
  have I6 := mkHid (I5.out.keepW b56 b56.size)
  have J6 : Hid (GReplysL w5.heap.size W6.heap.size W6 p3 F) := by
    have h := hR6.gl
    rw [hE6] at h
    exact h.keepW bW6 bW6.size
  have cE := mkHid (lawEqReplyList ⟨bb, F⟩ (.slice p3 F.length l3) (.slice p1 F.length l1) _ _ W6 ⟨⟨_, _, rfl, J6.out⟩⟩ ⟨⟨_, _, rfl, I1.out.keepW B6.out B6.out.size⟩⟩ nfit.out)
  have HW6 := mkHid hW6
  unfold GReplyListV at cE
  clear cI5 hx hR6 hE6 hl6 hb6 bW6 hW6 b56 Z25 I5 B5 BW5
  go_wp2_with (first | (rw [← HW6.out]; clear HW6; generalize hS6 : w6.heap.size = S6 at *; refine wpL_load_row rfl 24 _ rfl S6 _ 24 (0, 0) _ rfl Z6.out Tryd.underlying24 rfl (by kernel_rfl) ?_) | (refine wpL_load_row rfl 24 _ rfl A0 _ 24 (0, 0) _ rfl Z16.out Tryd.underlying24 rfl (by kernel_rfl) ?_) | (go_at_call 6; fail))
  refine cE.out.mono ?_
  rintro e w7 ⟨rfl, hb7⟩
  have s7 := hb7.size
  have Z27 := mkHid ((hb7.block S0 (by omega)).trans Z26.out)
  have B7 := mkHid (B6.out.trans (hb7.mono B6.out.size))
  have cH7 := mkHid (cH.out w7 (I6.out.keepW hb7 s7))
  clear cE hb7 Z26 I6 B6 Z6 Z16
  go_wp2_with (first | (refine wpL_load_row rfl 24 _ rfl S0 _ 24 (0, 0) _ rfl Z27.out Tryd.underlying24 rfl (by kernel_rfl) ?_) | (go_at_call 8; fail))
  refine cH7.out.mono ?_
  rintro e w8 ⟨rfl, hb8⟩
  have BF := mkHid (B1.out.trans ((B7.out.trans (hb8.mono B7.out.size)).mono s01))
  clear cH7 hb8 B7 Z27
  go_wp2
  go_ret
  exact ⟨rfl, BF.out⟩
end Go.Proofs.YtmclnkcpflehdaaDoor
