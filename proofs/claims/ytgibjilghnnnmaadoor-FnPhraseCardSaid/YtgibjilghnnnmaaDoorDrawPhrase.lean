
/- A source of draws: a phrase. -/
import Derived.Test.YtgibjilghnnnmaaDoorDrawText
namespace Go.Proofs.YtgibjilghnnnmaaDoor
open Go.RowKit Go.Lib
def strOk8 : Value → Bool
  | .string t => decide (t.size ≤ 20)
  | _ => false
theorem tab_get8 {w : World} {cs : Array Value} {k : Nat} (hk : k < cs.size) (hcs : cs.toList.all strOk8 = true) : ∃ t : ByteArray, (w.alloc (.cells cs 9)).cell? ⟨w.heap.size, k, none⟩ = some (.string t) ∧ t.size ≤ 20 := by
  have hm : strOk8 cs[k] = true := List.all_eq_true.1 hcs _ (Array.mem_toList_iff.2 (Array.getElem_mem hk))
  have hc : (w.alloc (.cells cs 9)).cell? ⟨w.heap.size, k, none⟩ = some cs[k] := by simp [hk]
  cases hx : cs[k] with
  | string t =>
    rw [hx] at hc hm
    exact ⟨t, hc, by simpa [strOk8] using hm⟩
  | _ => rw [hx] at hm; cases hm
theorem Code.mono' {B B' : Nat} {w : World} {o : Option Addr} {c : List UInt8} (h : Code B w o c) (hB : B ≤ B') : Code B' w o c := by
  intro k hk
  obtain ⟨a, rfl, ha, hc⟩ := h k hk
  exact ⟨a, rfl, by omega, hc⟩
theorem Code.below' {B : Nat} {w w' : World} {o : Option Addr} {c : List UInt8} (h : Code B w o c) (hb : Below B w w') : Code B w' o c := by
  intro k hk
  obtain ⟨a, rfl, ha, hc⟩ := h k hk
  exact ⟨a, rfl, ha, (hb.cell (by rw [addr_block]; exact ha)).trans hc⟩
theorem gr_new' {w w1 w' : World} (hb : Below w.heap.size w w1) (hg : w1.grownBy w' (some w.heap.size)) : Below w.heap.size w w' :=
  ⟨hg.os.trans hb.os, hg.tape.trans hb.tape, hg.output.trans hb.output, Nat.le_trans hb.size hg.size, fun i hi => (hg.block i (by have := hb.size; omega) (by intro e; have := Option.some.inj e; omega)).trans (hb.block i hi)⟩
set_option maxRecDepth 20000 in
set_option maxHeartbeats 8000000 in
theorem drawPhrase (o : Option Addr) (c : List UInt8) (cp : Nat) (w : World) (hc : Code w.heap.size w o c) (hl : c.length ≤ 1048576) :
    Calls Tryd.prog 4 #[.slice o c.length cp] w fun e w' => ∃ t : ByteArray, e = .returned (.string t) ∧ t.size ≤ 200 ∧ Below w.heap.size w w' := by
  obtain ⟨g, hgw⟩ : ∃ g, w.heap.size = g := ⟨_, rfl⟩
  have HC0 : Hid (Code g w o c) := by rw [← hgw]; exact hc
  have hS := srcNew o c.length cp w hl
  rw [hgw] at hS
  have HG : Hid (w.heap.size = g) := hgw
  clear hc
  go_enter Tryd.func4, Tryd.ntmps4
  go_wp2_with fail
  refine hS.mono ?_
  rintro e w0 ⟨z, rfl, hz, hs, hb0⟩
  have HC : Hid (Code g w0 o c) := HC0.out.below' hb0
  have HB0 : Hid (Below g w w0) := hb0
  have hW := srcWord g o c cp 0 z w0 hs HC.out (by omega) hl
  clear hS hs hb0 HC0 hgw
  go_wp2_with fail
  refine hW.mono ?_
  rintro e w2 ⟨t0, a0, rfl, hts, ha0, hs2, hg2⟩
  have hN := srcN g o c cp a0 z 4 w2 hs2 (HC.out.grown hg2 (Nat.le_refl _)) (by omega) hl (by omega) (by omega)
  clear hW hs2
  go_wp2_with fail
  refine hN.mono ?_
  rintro e w3 ⟨kn, rfl, hkn, hs3, hg3⟩
  have Hs3 := (show Hid _ from hs3)
  have Hg3 := (show Hid _ from gr_trans hg2 hg3)
  clear hN hg2 hg3 hs3
  go_wp2
  go_loopw [4, 5] (fun t kk wr => ∃ (T : ByteArray) (k a1 : Nat), t = .string T ∧ kk = .int .i64 k ∧ T.size + 30 * k ≤ 130 ∧ a1 + 20 * k ≤ 100 ∧ Hid (Src wr g o c.length cp a1 z) ∧ Hid (w0.grownBy wr (some g))) (fun _ kk _ => (Lib.intOf kk).toNat)
  case atStart => exact ⟨t0, kn, _, rfl, rfl, by omega, by omega, Hs3, Hg3⟩
  case round =>
    clear Hs3 Hg3
    obtain ⟨T, k, a1, rfl, rfl, hTk, hak, Hs, Hg⟩ := hrel
    by_cases hk : 0 < k
    · go_wp2
      refine wp_region_any (by kernel_rfl) ?_
      obtain ⟨V0, hV0⟩ : ∃ V0 : World, V0 = { wr with drawn := wr.drawn + 1 } := ⟨_, rfl⟩
      have hs0 : Src V0 g o c.length cp a1 z := by rw [hV0]; exact ⟨Hs.out.blk⟩
      have hg0 : w0.grownBy V0 (some g) := by rw [hV0]; exact ⟨Hg.out.os, Hg.out.tape, Hg.out.output, Hg.out.size, Hg.out.block⟩
      rw [← hV0]
      clear hV0 Hs Hg
      refine wpAny_take (i := 0) (v := .string T) rfl (by kernel_rfl) (by kernel_rfl) (by kernel_rfl) (fun _ _ _ h => h) (Or.inl ⟨by rfl, ?_⟩) ?_
      · intro w
        go_simp
      go_simp
      refine wpAny_take (i := 2) (v := .pointer (some ⟨g, 0, none⟩)) rfl (by kernel_rfl) (by kernel_rfl) (by kernel_rfl) (fun _ _ _ h => h) (Or.inl ⟨by rfl, ?_⟩) ?_
      · intro w
        go_simp
      go_simp
      refine wpAny_take (i := 7) (v := .pointer (some ⟨g, 0, none⟩)) rfl (by kernel_rfl) (by kernel_rfl) (by kernel_rfl) (fun _ _ _ h => h) (Or.inl ⟨by rfl, ?_⟩) ?_
      · intro w
        go_simp
      go_simp
      refine wpAny_ready (rs := [1, 3]) (by kernel_rfl) (by simp) ?_
      refine AllReady.cons rfl (fun K hK => ?_) (AllReady.cons rfl (fun K hK => ?_) AllReady.nil)
      · skip
        go_simp
        refine hK _ _ ?_
        clear hK K
        go_simp
        obtain ⟨V1, hV1⟩ : ∃ V, V = V0.alloc (.cells #[.string ⟨#[32]⟩, .string ⟨#[32, 32]⟩, .string ⟨#[46]⟩, .string ⟨#[34]⟩, .string ⟨#[92]⟩, .string ⟨#[233]⟩, .string ⟨#[39]⟩, .string ⟨#[9]⟩] 9) := ⟨_, rfl⟩
        have hbV1 : Below V0.heap.size V0 V1 := by rw [hV1]; exact (Below.refl _ _).alloc (Nat.le_refl _) _
        have hs3 := (hs0).below hbV1
        have hg4 := gr_trans hg0 (gr_below hbV1)
        obtain ⟨b2, hb2⟩ : ∃ b, b = V0.heap.size := ⟨_, rfl⟩
        have ht5 : ∀ j, j < 8 → ∃ t : ByteArray, V1.cell? ⟨b2, j, none⟩ = some (.string t) ∧ t.size ≤ 20 := fun j hj => by rw [hV1, hb2]; exact tab_get8 (by simpa using hj) (by decide)
        have hgb2 : g < b2 := by rw [hb2]; exact (hs0).lt
        rw [← hV1, ← hb2]
        clear hV1 hbV1 hb2
        refine wpAny_ready (rs := [3]) (by kernel_rfl) (by simp) ?_
        refine AllReady.cons rfl (fun K hK => ?_) AllReady.nil
        · skip
          go_simp
          refine (srcN g o c cp a1 z 8 V1 hs3 (HC.out.grown hg4 (Nat.le_refl _)) (by omega) hl (by omega) (by omega)).mono ?_
          rintro e w7 ⟨v6, rfl, hv6, hs8, qw7⟩
          go_simp
          refine hK _ _ ?_
          clear hK K
          go_simp
          have hg9 := gr_trans hg4 qw7
          have iv6 : (v6 : Int) < 8 := hv6
          obtain ⟨tx10, ctx100, ztx10⟩ := ht5 v6 (by omega)
          have ctx10 : w7.cell? ⟨b2, v6, none⟩ = some (.string tx10) := gr_cell qw7 (by show b2 ≠ g; omega) ctx100
          refine wpAny_take (i := 4) (v := .pointer (some ⟨b2, v6, none⟩)) rfl (by kernel_rfl) (by kernel_rfl) (by kernel_rfl) (fun _ _ _ h => h) (Or.inl ⟨by rfl, ?_⟩) ?_
          · intro w
            go_simp
          go_simp
          refine wpAny_ready (rs := [5, 8]) (by kernel_rfl) (by simp) ?_
          refine AllReady.cons rfl (fun K hK => ?_) (AllReady.cons rfl (fun K hK => ?_) AllReady.nil)
          · skip
            go_simp
            refine hK _ _ ?_
            clear hK K
            go_simp
            refine wpAny_take (i := 6) (v := .string (T ++ tx10)) rfl (by kernel_rfl) (by kernel_rfl) (by kernel_rfl) (fun _ _ _ h => h) (Or.inl ⟨by rfl, ?_⟩) ?_
            · intro w
              go_simp
              omega
            go_simp
            refine wpAny_ready (rs := [8]) (by kernel_rfl) (by simp) ?_
            refine AllReady.cons rfl (fun K hK => ?_) AllReady.nil
            · skip
              go_simp
              refine (srcWord g o c cp (a1 + 1) z w7 hs8 (HC.out.grown hg9 (Nat.le_refl _)) (by omega) hl).mono ?_
              rintro e w12 ⟨wd11, a15, rfl, zwd11, la15, hs13, qw12⟩
              go_simp
              refine hK _ _ ?_
              clear hK K
              go_simp
              have hg14 := gr_trans hg9 qw12
              refine wpAny_take (i := 9) (v := .string (T ++ tx10 ++ wd11)) rfl (by kernel_rfl) (by kernel_rfl) (by kernel_rfl) (fun _ _ _ h => h) (Or.inl ⟨by rfl, ?_⟩) ?_
              · intro w
                go_simp
                omega
              go_simp
              refine wpAny_take (i := 10) (v := .string (T ++ tx10 ++ wd11)) rfl (by kernel_rfl) (by kernel_rfl) (by kernel_rfl) (fun _ _ _ h => h) (Or.inl ⟨by rfl, ?_⟩) ?_
              · intro w
                go_simp
              go_simp
              refine wpAny_done (by kernel_rfl) ?_ _
              have hS9 := (show Hid _ from hs13)
              have hG9 := (show Hid _ from hg14)
              go_wp2
              go_roundw
              case rel => exact ⟨T ++ tx10 ++ wd11, k - 1, _, rfl, by go_num, by rw [ByteArray.size_append, ByteArray.size_append]; omega, by omega, hS9, hG9⟩
              case measure => simp [Lib.intOf]; omega
          · skip
            go_simp
            refine (srcWord g o c cp (a1 + 1) z w7 hs8 (HC.out.grown hg9 (Nat.le_refl _)) (by omega) hl).mono ?_
            rintro e w18 ⟨wd17, a21, rfl, zwd17, la21, hs19, qw18⟩
            go_simp
            refine hK _ _ ?_
            clear hK K
            go_simp
            have hg20 := gr_trans hg9 qw18
            have ctx10 : w18.cell? ⟨b2, v6, none⟩ = some (.string tx10) := gr_cell qw18 (by show b2 ≠ g; omega) ctx10
            refine wpAny_ready (rs := [5]) (by kernel_rfl) (by simp) ?_
            refine AllReady.cons rfl (fun K hK => ?_) AllReady.nil
            · skip
              go_simp
              refine hK _ _ ?_
              clear hK K
              go_simp
              refine wpAny_take (i := 6) (v := .string (T ++ tx10)) rfl (by kernel_rfl) (by kernel_rfl) (by kernel_rfl) (fun _ _ _ h => h) (Or.inl ⟨by rfl, ?_⟩) ?_
              · intro w
                go_simp
                omega
              go_simp
              refine wpAny_take (i := 9) (v := .string (T ++ tx10 ++ wd17)) rfl (by kernel_rfl) (by kernel_rfl) (by kernel_rfl) (fun _ _ _ h => h) (Or.inl ⟨by rfl, ?_⟩) ?_
              · intro w
                go_simp
                omega
              go_simp
              refine wpAny_take (i := 10) (v := .string (T ++ tx10 ++ wd17)) rfl (by kernel_rfl) (by kernel_rfl) (by kernel_rfl) (fun _ _ _ h => h) (Or.inl ⟨by rfl, ?_⟩) ?_
              · intro w
                go_simp
              go_simp
              refine wpAny_done (by kernel_rfl) ?_ _
              have hS9 := (show Hid _ from hs19)
              have hG9 := (show Hid _ from hg20)
              go_wp2
              go_roundw
              case rel => exact ⟨T ++ tx10 ++ wd17, k - 1, _, rfl, by go_num, by rw [ByteArray.size_append, ByteArray.size_append]; omega, by omega, hS9, hG9⟩
              case measure => simp [Lib.intOf]; omega
      · skip
        go_simp
        refine (srcN g o c cp a1 z 8 V0 hs0 (HC.out.grown hg0 (Nat.le_refl _)) (by omega) hl (by omega) (by omega)).mono ?_
        rintro e w24 ⟨v23, rfl, hv23, hs25, qw24⟩
        go_simp
        refine hK _ _ ?_
        clear hK K
        go_simp
        have hg26 := gr_trans hg0 qw24
        have iv23 : (v23 : Int) < 8 := hv23
        refine wpAny_ready (rs := [1, 8]) (by kernel_rfl) (by simp) ?_
        refine AllReady.cons rfl (fun K hK => ?_) (AllReady.cons rfl (fun K hK => ?_) AllReady.nil)
        · skip
          go_simp
          refine hK _ _ ?_
          clear hK K
          go_simp
          obtain ⟨V27, hV27⟩ : ∃ V, V = w24.alloc (.cells #[.string ⟨#[32]⟩, .string ⟨#[32, 32]⟩, .string ⟨#[46]⟩, .string ⟨#[34]⟩, .string ⟨#[92]⟩, .string ⟨#[233]⟩, .string ⟨#[39]⟩, .string ⟨#[9]⟩] 9) := ⟨_, rfl⟩
          have hbV27 : Below w24.heap.size w24 V27 := by rw [hV27]; exact (Below.refl _ _).alloc (Nat.le_refl _) _
          have hs29 := (hs25).below hbV27
          have hg30 := gr_trans hg26 (gr_below hbV27)
          obtain ⟨b28, hb28⟩ : ∃ b, b = w24.heap.size := ⟨_, rfl⟩
          have ht31 : ∀ j, j < 8 → ∃ t : ByteArray, V27.cell? ⟨b28, j, none⟩ = some (.string t) ∧ t.size ≤ 20 := fun j hj => by rw [hV27, hb28]; exact tab_get8 (by simpa using hj) (by decide)
          have hgb28 : g < b28 := by rw [hb28]; exact (hs25).lt
          rw [← hV27, ← hb28]
          clear hV27 hbV27 hb28
          obtain ⟨tx32, ctx32, ztx32⟩ := ht31 v23 (by omega)
          refine wpAny_take (i := 4) (v := .pointer (some ⟨b28, v23, none⟩)) rfl (by kernel_rfl) (by kernel_rfl) (by kernel_rfl) (fun _ _ _ h => h) (Or.inl ⟨by rfl, ?_⟩) ?_
          · intro w
            go_simp
          go_simp
          refine wpAny_ready (rs := [5, 8]) (by kernel_rfl) (by simp) ?_
          refine AllReady.cons rfl (fun K hK => ?_) (AllReady.cons rfl (fun K hK => ?_) AllReady.nil)
          · skip
            go_simp
            refine hK _ _ ?_
            clear hK K
            go_simp
            refine wpAny_take (i := 6) (v := .string (T ++ tx32)) rfl (by kernel_rfl) (by kernel_rfl) (by kernel_rfl) (fun _ _ _ h => h) (Or.inl ⟨by rfl, ?_⟩) ?_
            · intro w
              go_simp
              omega
            go_simp
            refine wpAny_ready (rs := [8]) (by kernel_rfl) (by simp) ?_
            refine AllReady.cons rfl (fun K hK => ?_) AllReady.nil
            · skip
              go_simp
              refine (srcWord g o c cp (a1 + 1) z V27 hs29 (HC.out.grown hg30 (Nat.le_refl _)) (by omega) hl).mono ?_
              rintro e w34 ⟨wd33, a37, rfl, zwd33, la37, hs35, qw34⟩
              go_simp
              refine hK _ _ ?_
              clear hK K
              go_simp
              have hg36 := gr_trans hg30 qw34
              refine wpAny_take (i := 9) (v := .string (T ++ tx32 ++ wd33)) rfl (by kernel_rfl) (by kernel_rfl) (by kernel_rfl) (fun _ _ _ h => h) (Or.inl ⟨by rfl, ?_⟩) ?_
              · intro w
                go_simp
                omega
              go_simp
              refine wpAny_take (i := 10) (v := .string (T ++ tx32 ++ wd33)) rfl (by kernel_rfl) (by kernel_rfl) (by kernel_rfl) (fun _ _ _ h => h) (Or.inl ⟨by rfl, ?_⟩) ?_
              · intro w
                go_simp
              go_simp
              refine wpAny_done (by kernel_rfl) ?_ _
              have hS9 := (show Hid _ from hs35)
              have hG9 := (show Hid _ from hg36)
              go_wp2
              go_roundw
              case rel => exact ⟨T ++ tx32 ++ wd33, k - 1, _, rfl, by go_num, by rw [ByteArray.size_append, ByteArray.size_append]; omega, by omega, hS9, hG9⟩
              case measure => simp [Lib.intOf]; omega
          · skip
            go_simp
            refine (srcWord g o c cp (a1 + 1) z V27 hs29 (HC.out.grown hg30 (Nat.le_refl _)) (by omega) hl).mono ?_
            rintro e w40 ⟨wd39, a43, rfl, zwd39, la43, hs41, qw40⟩
            go_simp
            refine hK _ _ ?_
            clear hK K
            go_simp
            have hg42 := gr_trans hg30 qw40
            have ctx32 : w40.cell? ⟨b28, v23, none⟩ = some (.string tx32) := gr_cell qw40 (by show b28 ≠ g; omega) ctx32
            refine wpAny_ready (rs := [5]) (by kernel_rfl) (by simp) ?_
            refine AllReady.cons rfl (fun K hK => ?_) AllReady.nil
            · skip
              go_simp
              refine hK _ _ ?_
              clear hK K
              go_simp
              refine wpAny_take (i := 6) (v := .string (T ++ tx32)) rfl (by kernel_rfl) (by kernel_rfl) (by kernel_rfl) (fun _ _ _ h => h) (Or.inl ⟨by rfl, ?_⟩) ?_
              · intro w
                go_simp
                omega
              go_simp
              refine wpAny_take (i := 9) (v := .string (T ++ tx32 ++ wd39)) rfl (by kernel_rfl) (by kernel_rfl) (by kernel_rfl) (fun _ _ _ h => h) (Or.inl ⟨by rfl, ?_⟩) ?_
              · intro w
                go_simp
                omega
              go_simp
              refine wpAny_take (i := 10) (v := .string (T ++ tx32 ++ wd39)) rfl (by kernel_rfl) (by kernel_rfl) (by kernel_rfl) (fun _ _ _ h => h) (Or.inl ⟨by rfl, ?_⟩) ?_
              · intro w
                go_simp
              go_simp
              refine wpAny_done (by kernel_rfl) ?_ _
              have hS9 := (show Hid _ from hs41)
              have hG9 := (show Hid _ from hg42)
              go_wp2
              go_roundw
              case rel => exact ⟨T ++ tx32 ++ wd39, k - 1, _, rfl, by go_num, by rw [ByteArray.size_append, ByteArray.size_append]; omega, by omega, hS9, hG9⟩
              case measure => simp [Lib.intOf]; omega
        · skip
          go_simp
          refine (srcWord g o c cp (a1 + 1) z w24 hs25 (HC.out.grown hg26 (Nat.le_refl _)) (by omega) hl).mono ?_
          rintro e w46 ⟨wd45, a49, rfl, zwd45, la49, hs47, qw46⟩
          go_simp
          refine hK _ _ ?_
          clear hK K
          go_simp
          have hg48 := gr_trans hg26 qw46
          refine wpAny_ready (rs := [1]) (by kernel_rfl) (by simp) ?_
          refine AllReady.cons rfl (fun K hK => ?_) AllReady.nil
          · skip
            go_simp
            refine hK _ _ ?_
            clear hK K
            go_simp
            obtain ⟨V50, hV50⟩ : ∃ V, V = w46.alloc (.cells #[.string ⟨#[32]⟩, .string ⟨#[32, 32]⟩, .string ⟨#[46]⟩, .string ⟨#[34]⟩, .string ⟨#[92]⟩, .string ⟨#[233]⟩, .string ⟨#[39]⟩, .string ⟨#[9]⟩] 9) := ⟨_, rfl⟩
            have hbV50 : Below w46.heap.size w46 V50 := by rw [hV50]; exact (Below.refl _ _).alloc (Nat.le_refl _) _
            have hs52 := (hs47).below hbV50
            have hg53 := gr_trans hg48 (gr_below hbV50)
            obtain ⟨b51, hb51⟩ : ∃ b, b = w46.heap.size := ⟨_, rfl⟩
            have ht54 : ∀ j, j < 8 → ∃ t : ByteArray, V50.cell? ⟨b51, j, none⟩ = some (.string t) ∧ t.size ≤ 20 := fun j hj => by rw [hV50, hb51]; exact tab_get8 (by simpa using hj) (by decide)
            have hgb51 : g < b51 := by rw [hb51]; exact (hs47).lt
            rw [← hV50, ← hb51]
            clear hV50 hbV50 hb51
            obtain ⟨tx55, ctx55, ztx55⟩ := ht54 v23 (by omega)
            refine wpAny_take (i := 4) (v := .pointer (some ⟨b51, v23, none⟩)) rfl (by kernel_rfl) (by kernel_rfl) (by kernel_rfl) (fun _ _ _ h => h) (Or.inl ⟨by rfl, ?_⟩) ?_
            · intro w
              go_simp
            go_simp
            refine wpAny_ready (rs := [5]) (by kernel_rfl) (by simp) ?_
            refine AllReady.cons rfl (fun K hK => ?_) AllReady.nil
            · skip
              go_simp
              refine hK _ _ ?_
              clear hK K
              go_simp
              refine wpAny_take (i := 6) (v := .string (T ++ tx55)) rfl (by kernel_rfl) (by kernel_rfl) (by kernel_rfl) (fun _ _ _ h => h) (Or.inl ⟨by rfl, ?_⟩) ?_
              · intro w
                go_simp
                omega
              go_simp
              refine wpAny_take (i := 9) (v := .string (T ++ tx55 ++ wd45)) rfl (by kernel_rfl) (by kernel_rfl) (by kernel_rfl) (fun _ _ _ h => h) (Or.inl ⟨by rfl, ?_⟩) ?_
              · intro w
                go_simp
                omega
              go_simp
              refine wpAny_take (i := 10) (v := .string (T ++ tx55 ++ wd45)) rfl (by kernel_rfl) (by kernel_rfl) (by kernel_rfl) (fun _ _ _ h => h) (Or.inl ⟨by rfl, ?_⟩) ?_
              · intro w
                go_simp
              go_simp
              refine wpAny_done (by kernel_rfl) ?_ _
              have hS9 := (show Hid _ from hs52)
              have hG9 := (show Hid _ from hg53)
              go_wp2
              go_roundw
              case rel => exact ⟨T ++ tx55 ++ wd45, k - 1, _, rfl, by go_num, by rw [ByteArray.size_append, ByteArray.size_append]; omega, by omega, hS9, hG9⟩
              case measure => simp [Lib.intOf]; omega
    · obtain rfl : k = 0 := by omega
      have hO := srcOne g o c cp a1 z 6 wr Hs.out (HC.out.grown Hg.out (Nat.le_refl _)) (by omega) hl (by omega) (by omega)
      go_wp2_with fail
      refine hO.mono ?_
      rintro e w4 ⟨b4, rfl, hs4, hg4⟩
      have hgw4 := gr_trans Hg.out hg4
      have hsz4 := hgw4.size
      cases b4
      · have hfin : Below w.heap.size w w4 := by rw [HG.out]; have := gr_new' (w := w) (w1 := w0) (w' := w4) (by rw [HG.out]; exact HB0.out) (by rw [HG.out]; exact hgw4); rwa [HG.out] at this
        clear hO
        go_wp2
        go_ret
        exact ⟨T, rfl, by omega, hfin⟩
      · have hbA : ∀ cs, Below w4.heap.size w4 (w4.alloc (.cells cs 9)) := fun cs => (Below.refl _ _).alloc (Nat.le_refl _) _
        have hN5 := fun cs => srcN g o c cp (a1 + 1) z 4 (w4.alloc (.cells cs 9)) (hs4.below (hbA cs)) (HC.out.grown (gr_trans hgw4 (gr_below (hbA cs))) (Nat.le_refl _)) (by omega) hl (by omega) (by omega)
        have hg4l := hs4.lt
        clear hO
        go_wp2_with fail
        refine (hN5 _).mono ?_
        rintro e w5 ⟨v5, rfl, hv5, hs5, hg5⟩
        have hv6 : v5 < 4 := by omega
        obtain ⟨tx, htx0, htz⟩ := tab_get8 (w := w4) (k := v5) (cs := #[.string ⟨#[]⟩, .string ⟨#[32]⟩, .string ⟨#[32, 97]⟩, .string ⟨#[97, 32]⟩]) hv6 (by decide)
        have htx : w5.cell? ⟨w4.heap.size, v5, none⟩ = some (.string tx) := gr_cell hg5 (by show w4.heap.size ≠ g; omega) htx0
        have hgw5 := gr_trans (gr_trans hgw4 (gr_below (hbA _))) hg5
        have hfin : Below w.heap.size w w5 := by rw [HG.out]; have := gr_new' (w := w) (w1 := w0) (w' := w5) (by rw [HG.out]; exact HB0.out) (by rw [HG.out]; exact hgw5); rwa [HG.out] at this
        have hv7 : (v5 : Int) < 4 := by omega
        clear hN5 hbA hg5 hs5 htx0
        go_wp2
        go_ret
        exact ⟨tx, rfl, by omega, hfin⟩
end Go.Proofs.YtgibjilghnnnmaaDoor
