
/- The draws of Fold. -/
import Derived.Test.YtffjgcpiamgejaaDrawHead
namespace Go.Proofs.Ytffjgcpiamgejaa
open Go.RowKit Go.Lib
theorem wr64 (x : Int) (h0 : -9223372036854775808 ≤ x) (h1 : x ≤ 9223372036854775807) : IntKind.i64.wrap x = x := by
  unfold IntKind.wrap
  simp [IntKind.bits, IntKind.signed]
  omega
/-- A table of texts of at most M bytes. -/
def Tb (w : World) (b n M : Nat) : Prop := ∀ v, v < n → ∃ t : ByteArray, w.cell? ⟨b, v, none⟩ = some (.string t) ∧ t.size ≤ M
theorem Tb.gr {w w' : World} {b n M g : Nat} (h : Tb w b n M) (hg : w.grownBy w' (some g)) (hb : b ≠ g) : Tb w' b n M := by
  intro v hv
  obtain ⟨t, ht, hs⟩ := h v hv
  exact ⟨t, gr_cell hg hb ht, hs⟩
theorem Tb.made {w : World} {cs : Array Value} {n M : Nat} (hn : cs.size = n) (hcs : cs.toList.all (strOk M) = true) : Tb (w.alloc (.cells cs 9)) w.heap.size n M := by
  intro v hv
  have hv' : v < cs.size := by omega
  have hm : strOk M cs[v] = true := List.all_eq_true.1 hcs _ (Array.mem_toList_iff.2 (Array.getElem_mem hv'))
  have hc : (w.alloc (.cells cs 9)).cell? ⟨w.heap.size, v, none⟩ = some cs[v] := by simp [hv']
  cases hx : cs[v] with
  | string t =>
    rw [hx] at hc hm
    exact ⟨t, hc, by simpa [strOk] using hm⟩
  | _ => rw [hx] at hm; cases hm
set_option maxRecDepth 10000 in
set_option maxHeartbeats 8000000 in
theorem drawFold (o : Option Addr) (c : List UInt8) (cp : Nat) (w : World) (hc : Code w.heap.size w o c) (hl : c.length ≤ 1048576) :
    Calls Try.prog 10 #[.slice o c.length cp] w fun e w' => ∃ (t : ByteArray) (x : Int), e = .returned (.tuple #[.string t, .int .i64 x]) ∧ t.size ≤ 800 ∧ -1 ≤ x ∧ x ≤ 81 ∧ Below w.heap.size w w' := by
  obtain ⟨g, hgw⟩ : ∃ g, w.heap.size = g := ⟨_, rfl⟩
  have HC : Hid (Code g w o c) := by rw [← hgw]; exact hc
  have hS := srcNew o c.length cp w hl
  rw [hgw] at hS ⊢
  clear hc
  go_enter Try.func10, Try.ntmps10
  go_wp2_with fail
  refine hS.mono ?_
  rintro e w1 ⟨z, rfl, hz, hs1, hb1⟩
  have HC1 : Hid (Code g w1 o c) := HC.out.below hb1
  have hgl1 := hs1.lt
  have hN := srcN g o c cp 0 z 30 w1 hs1 HC1.out (by omega) hl (by omega) (by omega)
  clear hS HC
  go_wp2_with fail
  refine hN.mono ?_
  rintro e w2 ⟨v, rfl, hv, hs2, hg2⟩
  have Hs2 : Hid (Src w2 g o c.length cp 1 z) := hs2
  have Hg2 : Hid (w1.grownBy w2 (some g)) := hg2
  have Hb1 : Hid (Below g w w1) := hb1
  clear hN hs1 hs2 hg2 hb1
  go_wp2
  go_loopw [5, 6] (fun u i wr => ∃ (k : Nat) (t : ByteArray) (a' : Nat), i = .int .i64 k ∧ u = .string t ∧ t.size + 20 * k ≤ 600 ∧ a' + 20 * k ≤ 1000 ∧ Hid (Src wr g o c.length cp a' z) ∧ Hid (w1.grownBy wr (some g))) (fun _ i _ => (Lib.intOf i).toNat)
  case atStart => exact ⟨v, _, 1, rfl, rfl, (by show 0 + 20 * v ≤ 600; omega), by omega, Hs2, Hg2⟩
  case round =>
    clear Hs2 Hg2
    obtain ⟨k, t, a', rfl, rfl, htk, hak, Hs, Hg⟩ := hrel
    by_cases hk : 0 < k
    · go_wp2
      refine wp_region_any (by kernel_rfl) ?_
      refine wpAny_take (i := 0) (v := .string t) rfl (by kernel_rfl) (by kernel_rfl) (by kernel_rfl) (fun _ _ _ h => h) (Or.inl ⟨by rfl, ?_⟩) ?_
      · intro w
        go_simp
        all_goals omega
      go_simp
      refine wpAny_take (i := 2) (v := .pointer (some ⟨g, 0, none⟩)) rfl (by kernel_rfl) (by kernel_rfl) (by kernel_rfl) (fun _ _ _ h => h) (Or.inl ⟨by rfl, ?_⟩) ?_
      · intro w
        go_simp
        all_goals omega
      go_simp
      refine wpAny_take (i := 7) (v := .pointer (some ⟨g, 0, none⟩)) rfl (by kernel_rfl) (by kernel_rfl) (by kernel_rfl) (fun _ _ _ h => h) (Or.inl ⟨by rfl, ?_⟩) ?_
      · intro w
        go_simp
        all_goals omega
      go_simp
      refine wpAny_take (i := 10) (v := .pointer (some ⟨g, 0, none⟩)) rfl (by kernel_rfl) (by kernel_rfl) (by kernel_rfl) (fun _ _ _ h => h) (Or.inl ⟨by rfl, ?_⟩) ?_
      · intro w
        go_simp
        all_goals omega
      go_simp
      refine wpAny_ready (rs := [1, 3]) (by kernel_rfl) (by simp) ?_
      refine AllReady.cons rfl (fun K hK => ?_) (AllReady.cons rfl (fun K hK => ?_) AllReady.nil)
      · have Hsy1 : Hid (Src wr.drew g o c.length cp (a') z) := ⟨Hs.out.blk⟩
        have Hgy1 : Hid (w1.grownBy wr.drew (some g)) := gr_trans Hg.out (gr_below (Below.refl _ _).drew)
        go_simp
        refine hK _ _ ?_
        clear hK K
        obtain ⟨x2, hx2⟩ : ∃ x2, x2 = (wr.alloc (.cells #[.string ⟨#[32]⟩, .string ⟨#[]⟩, .string ⟨#[32, 32]⟩, .string ⟨#[9]⟩] 9)).drew := ⟨_, rfl⟩
        have hbx2 : Below wr.drew.heap.size wr.drew x2 := by rw [hx2]; exact (Below.refl _ _).alloc (Nat.le_refl _) _
        have Htx2 : Hid (Tb x2 wr.heap.size 4 3) := by rw [hx2]; exact fun v hv => Tb.made (w := wr) (cs := #[.string ⟨#[32]⟩, .string ⟨#[]⟩, .string ⟨#[32, 32]⟩, .string ⟨#[9]⟩]) rfl (by decide) v hv
        have Hsx2 : Hid (Src x2 g o c.length cp (a') z) := Hsy1.out.below hbx2
        have Hgx2 : Hid (w1.grownBy x2 (some g)) := gr_trans Hgy1.out (gr_below hbx2)
        obtain ⟨bx2, hbbx2⟩ : ∃ b, wr.heap.size = b := ⟨_, rfl⟩
        have hnex2 : bx2 ≠ g := by have := Hgy1.out.size; have e : wr.drew.heap.size = wr.heap.size := rfl; omega
        rw [← hx2]
        rw [hbbx2] at Htx2
        simp only [hbbx2]
        clear hx2 hbx2 hbbx2
        go_simp
        refine wpAny_ready (rs := [3]) (by kernel_rfl) (by simp) ?_
        refine AllReady.cons rfl (fun K hK => ?_) AllReady.nil
        · go_simp
          go_wp2_with fail
          refine (srcN g o c cp (a') z 4 x2 Hsx2.out (HC1.out.grown Hgx2.out (Nat.le_refl _)) (by omega) hl (by omega) (by omega)).mono ?_
          rintro e x3 ⟨v3, rfl, hv3, hsx3, hgx3⟩
          show K _ x3
          refine hK _ _ ?_
          clear hK K
          have Hsx3 : Hid (Src x3 g o c.length cp (a' + 1) z) := hsx3
          have Hgx3 : Hid (w1.grownBy x3 (some g)) := gr_trans Hgx2.out hgx3
          have hv3i : v3 < 4 := by omega
          have Htx3 : Hid (Tb x3 bx2 4 3) := Tb.gr Htx2.out hgx3 hnex2
          clear hsx3 hgx3
          go_simp
          refine wpAny_take (i := 4) (v := .pointer (some ⟨bx2, v3, none⟩)) rfl (by kernel_rfl) (by kernel_rfl) (by kernel_rfl) (fun _ _ _ h => h) (Or.inl ⟨by rfl, ?_⟩) ?_
          · intro w
            go_simp
            all_goals omega
          go_simp
          refine wpAny_ready (rs := [5, 8]) (by kernel_rfl) (by simp) ?_
          refine AllReady.cons rfl (fun K hK => ?_) (AllReady.cons rfl (fun K hK => ?_) AllReady.nil)
          · obtain ⟨t3, hlt3, hzt3⟩ := Htx3.out v3 (by omega)
            go_simp
            refine hK _ _ ?_
            clear hK K
            go_simp
            refine wpAny_take (i := 6) (v := .string (t ++ t3)) rfl (by kernel_rfl) (by kernel_rfl) (by kernel_rfl) (fun _ _ _ h => h) (Or.inl ⟨by rfl, ?_⟩) ?_
            · intro w
              go_simp
              all_goals omega
            go_simp
            refine wpAny_ready (rs := [8]) (by kernel_rfl) (by simp) ?_
            refine AllReady.cons rfl (fun K hK => ?_) AllReady.nil
            · go_simp
              go_wp2_with fail
              refine (srcWord g o c cp (a' + 1) z x3 Hsx3.out (HC1.out.grown Hgx3.out (Nat.le_refl _)) (by omega) hl).mono ?_
              rintro e x4 ⟨t4, ax4, rfl, ht4, hax4, hsx4, hgx4⟩
              show K _ x4
              refine hK _ _ ?_
              clear hK K
              have Hsx4 : Hid (Src x4 g o c.length cp ax4 z) := hsx4
              have Hgx4 : Hid (w1.grownBy x4 (some g)) := gr_trans Hgx3.out hgx4
              clear hsx4 hgx4
              go_simp
              refine wpAny_take (i := 9) (v := .string (t ++ t3 ++ t4)) rfl (by kernel_rfl) (by kernel_rfl) (by kernel_rfl) (fun _ _ _ h => h) (Or.inl ⟨by rfl, ?_⟩) ?_
              · intro w
                go_simp
                all_goals omega
              go_simp
              refine wpAny_ready (rs := [11]) (by kernel_rfl) (by simp) ?_
              refine AllReady.cons rfl (fun K hK => ?_) AllReady.nil
              · go_simp
                go_wp2_with fail
                refine (srcWord g o c cp (ax4) z x4 Hsx4.out (HC1.out.grown Hgx4.out (Nat.le_refl _)) (by omega) hl).mono ?_
                rintro e x5 ⟨t5, ax5, rfl, ht5, hax5, hsx5, hgx5⟩
                show K _ x5
                refine hK _ _ ?_
                clear hK K
                have Hsx5 : Hid (Src x5 g o c.length cp ax5 z) := hsx5
                have Hgx5 : Hid (w1.grownBy x5 (some g)) := gr_trans Hgx4.out hgx5
                clear hsx5 hgx5
                go_simp
                refine wpAny_take (i := 12) (v := .string (t ++ t3 ++ t4 ++ t5)) rfl (by kernel_rfl) (by kernel_rfl) (by kernel_rfl) (fun _ _ _ h => h) (Or.inl ⟨by rfl, ?_⟩) ?_
                · intro w
                  go_simp
                  all_goals omega
                go_simp
                refine wpAny_take (i := 13) (v := .string (t ++ t3 ++ t4 ++ t5)) rfl (by kernel_rfl) (by kernel_rfl) (by kernel_rfl) (fun _ _ _ h => h) (Or.inl ⟨by rfl, ?_⟩) ?_
                · intro w
                  go_simp
                  all_goals omega
                go_simp
                refine wpAny_done (by kernel_rfl) ?_ _
                go_wp2
                go_roundw
                case rel => exact ⟨k - 1, _, ax5, by go_num, rfl, (by simp only [ByteArray.size_append]; omega), by omega, Hsx5, Hgx5⟩
                case measure => simp [Lib.intOf]; omega
          · go_simp
            go_wp2_with fail
            refine (srcWord g o c cp (a' + 1) z x3 Hsx3.out (HC1.out.grown Hgx3.out (Nat.le_refl _)) (by omega) hl).mono ?_
            rintro e x6 ⟨t4, ax6, rfl, ht4, hax6, hsx6, hgx6⟩
            show K _ x6
            refine hK _ _ ?_
            clear hK K
            have Hsx6 : Hid (Src x6 g o c.length cp ax6 z) := hsx6
            have Hgx6 : Hid (w1.grownBy x6 (some g)) := gr_trans Hgx3.out hgx6
            have Htx6 : Hid (Tb x6 bx2 4 3) := Tb.gr Htx3.out hgx6 hnex2
            clear hsx6 hgx6
            go_simp
            refine wpAny_ready (rs := [5, 11]) (by kernel_rfl) (by simp) ?_
            refine AllReady.cons rfl (fun K hK => ?_) (AllReady.cons rfl (fun K hK => ?_) AllReady.nil)
            · obtain ⟨t3, hlt3, hzt3⟩ := Htx6.out v3 (by omega)
              go_simp
              refine hK _ _ ?_
              clear hK K
              go_simp
              refine wpAny_take (i := 6) (v := .string (t ++ t3)) rfl (by kernel_rfl) (by kernel_rfl) (by kernel_rfl) (fun _ _ _ h => h) (Or.inl ⟨by rfl, ?_⟩) ?_
              · intro w
                go_simp
                all_goals omega
              go_simp
              refine wpAny_take (i := 9) (v := .string (t ++ t3 ++ t4)) rfl (by kernel_rfl) (by kernel_rfl) (by kernel_rfl) (fun _ _ _ h => h) (Or.inl ⟨by rfl, ?_⟩) ?_
              · intro w
                go_simp
                all_goals omega
              go_simp
              refine wpAny_ready (rs := [11]) (by kernel_rfl) (by simp) ?_
              refine AllReady.cons rfl (fun K hK => ?_) AllReady.nil
              · go_simp
                go_wp2_with fail
                refine (srcWord g o c cp (ax6) z x6 Hsx6.out (HC1.out.grown Hgx6.out (Nat.le_refl _)) (by omega) hl).mono ?_
                rintro e x7 ⟨t5, ax7, rfl, ht5, hax7, hsx7, hgx7⟩
                show K _ x7
                refine hK _ _ ?_
                clear hK K
                have Hsx7 : Hid (Src x7 g o c.length cp ax7 z) := hsx7
                have Hgx7 : Hid (w1.grownBy x7 (some g)) := gr_trans Hgx6.out hgx7
                clear hsx7 hgx7
                go_simp
                refine wpAny_take (i := 12) (v := .string (t ++ t3 ++ t4 ++ t5)) rfl (by kernel_rfl) (by kernel_rfl) (by kernel_rfl) (fun _ _ _ h => h) (Or.inl ⟨by rfl, ?_⟩) ?_
                · intro w
                  go_simp
                  all_goals omega
                go_simp
                refine wpAny_take (i := 13) (v := .string (t ++ t3 ++ t4 ++ t5)) rfl (by kernel_rfl) (by kernel_rfl) (by kernel_rfl) (fun _ _ _ h => h) (Or.inl ⟨by rfl, ?_⟩) ?_
                · intro w
                  go_simp
                  all_goals omega
                go_simp
                refine wpAny_done (by kernel_rfl) ?_ _
                go_wp2
                go_roundw
                case rel => exact ⟨k - 1, _, ax7, by go_num, rfl, (by simp only [ByteArray.size_append]; omega), by omega, Hsx7, Hgx7⟩
                case measure => simp [Lib.intOf]; omega
            · go_simp
              go_wp2_with fail
              refine (srcWord g o c cp (ax6) z x6 Hsx6.out (HC1.out.grown Hgx6.out (Nat.le_refl _)) (by omega) hl).mono ?_
              rintro e x8 ⟨t5, ax8, rfl, ht5, hax8, hsx8, hgx8⟩
              show K _ x8
              refine hK _ _ ?_
              clear hK K
              have Hsx8 : Hid (Src x8 g o c.length cp ax8 z) := hsx8
              have Hgx8 : Hid (w1.grownBy x8 (some g)) := gr_trans Hgx6.out hgx8
              have Htx8 : Hid (Tb x8 bx2 4 3) := Tb.gr Htx6.out hgx8 hnex2
              clear hsx8 hgx8
              go_simp
              refine wpAny_ready (rs := [5]) (by kernel_rfl) (by simp) ?_
              refine AllReady.cons rfl (fun K hK => ?_) AllReady.nil
              · obtain ⟨t3, hlt3, hzt3⟩ := Htx8.out v3 (by omega)
                go_simp
                refine hK _ _ ?_
                clear hK K
                go_simp
                refine wpAny_take (i := 6) (v := .string (t ++ t3)) rfl (by kernel_rfl) (by kernel_rfl) (by kernel_rfl) (fun _ _ _ h => h) (Or.inl ⟨by rfl, ?_⟩) ?_
                · intro w
                  go_simp
                  all_goals omega
                go_simp
                refine wpAny_take (i := 9) (v := .string (t ++ t3 ++ t4)) rfl (by kernel_rfl) (by kernel_rfl) (by kernel_rfl) (fun _ _ _ h => h) (Or.inl ⟨by rfl, ?_⟩) ?_
                · intro w
                  go_simp
                  all_goals omega
                go_simp
                refine wpAny_take (i := 12) (v := .string (t ++ t3 ++ t4 ++ t5)) rfl (by kernel_rfl) (by kernel_rfl) (by kernel_rfl) (fun _ _ _ h => h) (Or.inl ⟨by rfl, ?_⟩) ?_
                · intro w
                  go_simp
                  all_goals omega
                go_simp
                refine wpAny_take (i := 13) (v := .string (t ++ t3 ++ t4 ++ t5)) rfl (by kernel_rfl) (by kernel_rfl) (by kernel_rfl) (fun _ _ _ h => h) (Or.inl ⟨by rfl, ?_⟩) ?_
                · intro w
                  go_simp
                  all_goals omega
                go_simp
                refine wpAny_done (by kernel_rfl) ?_ _
                go_wp2
                go_roundw
                case rel => exact ⟨k - 1, _, ax8, by go_num, rfl, (by simp only [ByteArray.size_append]; omega), by omega, Hsx8, Hgx8⟩
                case measure => simp [Lib.intOf]; omega
      · have Hsy9 : Hid (Src wr.drew g o c.length cp (a') z) := ⟨Hs.out.blk⟩
        have Hgy9 : Hid (w1.grownBy wr.drew (some g)) := gr_trans Hg.out (gr_below (Below.refl _ _).drew)
        go_simp
        go_wp2_with fail
        refine (srcN g o c cp (a') z 4 wr.drew Hsy9.out (HC1.out.grown Hgy9.out (Nat.le_refl _)) (by omega) hl (by omega) (by omega)).mono ?_
        rintro e x10 ⟨v3, rfl, hv3, hsx10, hgx10⟩
        show K _ x10
        refine hK _ _ ?_
        clear hK K
        have Hsx10 : Hid (Src x10 g o c.length cp (a' + 1) z) := hsx10
        have Hgx10 : Hid (w1.grownBy x10 (some g)) := gr_trans Hgy9.out hgx10
        have hv3i : v3 < 4 := by omega
        clear hsx10 hgx10
        go_simp
        refine wpAny_ready (rs := [1, 8]) (by kernel_rfl) (by simp) ?_
        refine AllReady.cons rfl (fun K hK => ?_) (AllReady.cons rfl (fun K hK => ?_) AllReady.nil)
        · go_simp
          refine hK _ _ ?_
          clear hK K
          obtain ⟨x11, hx11⟩ : ∃ x11, x11 = (x10.alloc (.cells #[.string ⟨#[32]⟩, .string ⟨#[]⟩, .string ⟨#[32, 32]⟩, .string ⟨#[9]⟩] 9)) := ⟨_, rfl⟩
          have hbx11 : Below x10.heap.size x10 x11 := by rw [hx11]; exact (Below.refl _ _).alloc (Nat.le_refl _) _
          have Htx11 : Hid (Tb x11 x10.heap.size 4 3) := by rw [hx11]; exact fun v hv => Tb.made (w := x10) (cs := #[.string ⟨#[32]⟩, .string ⟨#[]⟩, .string ⟨#[32, 32]⟩, .string ⟨#[9]⟩]) rfl (by decide) v hv
          have Hsx11 : Hid (Src x11 g o c.length cp (a' + 1) z) := Hsx10.out.below hbx11
          have Hgx11 : Hid (w1.grownBy x11 (some g)) := gr_trans Hgx10.out (gr_below hbx11)
          obtain ⟨bx11, hbbx11⟩ : ∃ b, x10.heap.size = b := ⟨_, rfl⟩
          have hnex11 : bx11 ≠ g := by have := Hgx10.out.size; have e : x10.heap.size = x10.heap.size := rfl; omega
          rw [← hx11]
          rw [hbbx11] at Htx11
          simp only [hbbx11]
          clear hx11 hbx11 hbbx11
          go_simp
          refine wpAny_take (i := 4) (v := .pointer (some ⟨bx11, v3, none⟩)) rfl (by kernel_rfl) (by kernel_rfl) (by kernel_rfl) (fun _ _ _ h => h) (Or.inl ⟨by rfl, ?_⟩) ?_
          · intro w
            go_simp
            all_goals omega
          go_simp
          refine wpAny_ready (rs := [5, 8]) (by kernel_rfl) (by simp) ?_
          refine AllReady.cons rfl (fun K hK => ?_) (AllReady.cons rfl (fun K hK => ?_) AllReady.nil)
          · obtain ⟨t3, hlt3, hzt3⟩ := Htx11.out v3 (by omega)
            go_simp
            refine hK _ _ ?_
            clear hK K
            go_simp
            refine wpAny_take (i := 6) (v := .string (t ++ t3)) rfl (by kernel_rfl) (by kernel_rfl) (by kernel_rfl) (fun _ _ _ h => h) (Or.inl ⟨by rfl, ?_⟩) ?_
            · intro w
              go_simp
              all_goals omega
            go_simp
            refine wpAny_ready (rs := [8]) (by kernel_rfl) (by simp) ?_
            refine AllReady.cons rfl (fun K hK => ?_) AllReady.nil
            · go_simp
              go_wp2_with fail
              refine (srcWord g o c cp (a' + 1) z x11 Hsx11.out (HC1.out.grown Hgx11.out (Nat.le_refl _)) (by omega) hl).mono ?_
              rintro e x12 ⟨t4, ax12, rfl, ht4, hax12, hsx12, hgx12⟩
              show K _ x12
              refine hK _ _ ?_
              clear hK K
              have Hsx12 : Hid (Src x12 g o c.length cp ax12 z) := hsx12
              have Hgx12 : Hid (w1.grownBy x12 (some g)) := gr_trans Hgx11.out hgx12
              clear hsx12 hgx12
              go_simp
              refine wpAny_take (i := 9) (v := .string (t ++ t3 ++ t4)) rfl (by kernel_rfl) (by kernel_rfl) (by kernel_rfl) (fun _ _ _ h => h) (Or.inl ⟨by rfl, ?_⟩) ?_
              · intro w
                go_simp
                all_goals omega
              go_simp
              refine wpAny_ready (rs := [11]) (by kernel_rfl) (by simp) ?_
              refine AllReady.cons rfl (fun K hK => ?_) AllReady.nil
              · go_simp
                go_wp2_with fail
                refine (srcWord g o c cp (ax12) z x12 Hsx12.out (HC1.out.grown Hgx12.out (Nat.le_refl _)) (by omega) hl).mono ?_
                rintro e x13 ⟨t5, ax13, rfl, ht5, hax13, hsx13, hgx13⟩
                show K _ x13
                refine hK _ _ ?_
                clear hK K
                have Hsx13 : Hid (Src x13 g o c.length cp ax13 z) := hsx13
                have Hgx13 : Hid (w1.grownBy x13 (some g)) := gr_trans Hgx12.out hgx13
                clear hsx13 hgx13
                go_simp
                refine wpAny_take (i := 12) (v := .string (t ++ t3 ++ t4 ++ t5)) rfl (by kernel_rfl) (by kernel_rfl) (by kernel_rfl) (fun _ _ _ h => h) (Or.inl ⟨by rfl, ?_⟩) ?_
                · intro w
                  go_simp
                  all_goals omega
                go_simp
                refine wpAny_take (i := 13) (v := .string (t ++ t3 ++ t4 ++ t5)) rfl (by kernel_rfl) (by kernel_rfl) (by kernel_rfl) (fun _ _ _ h => h) (Or.inl ⟨by rfl, ?_⟩) ?_
                · intro w
                  go_simp
                  all_goals omega
                go_simp
                refine wpAny_done (by kernel_rfl) ?_ _
                go_wp2
                go_roundw
                case rel => exact ⟨k - 1, _, ax13, by go_num, rfl, (by simp only [ByteArray.size_append]; omega), by omega, Hsx13, Hgx13⟩
                case measure => simp [Lib.intOf]; omega
          · go_simp
            go_wp2_with fail
            refine (srcWord g o c cp (a' + 1) z x11 Hsx11.out (HC1.out.grown Hgx11.out (Nat.le_refl _)) (by omega) hl).mono ?_
            rintro e x14 ⟨t4, ax14, rfl, ht4, hax14, hsx14, hgx14⟩
            show K _ x14
            refine hK _ _ ?_
            clear hK K
            have Hsx14 : Hid (Src x14 g o c.length cp ax14 z) := hsx14
            have Hgx14 : Hid (w1.grownBy x14 (some g)) := gr_trans Hgx11.out hgx14
            have Htx14 : Hid (Tb x14 bx11 4 3) := Tb.gr Htx11.out hgx14 hnex11
            clear hsx14 hgx14
            go_simp
            refine wpAny_ready (rs := [5, 11]) (by kernel_rfl) (by simp) ?_
            refine AllReady.cons rfl (fun K hK => ?_) (AllReady.cons rfl (fun K hK => ?_) AllReady.nil)
            · obtain ⟨t3, hlt3, hzt3⟩ := Htx14.out v3 (by omega)
              go_simp
              refine hK _ _ ?_
              clear hK K
              go_simp
              refine wpAny_take (i := 6) (v := .string (t ++ t3)) rfl (by kernel_rfl) (by kernel_rfl) (by kernel_rfl) (fun _ _ _ h => h) (Or.inl ⟨by rfl, ?_⟩) ?_
              · intro w
                go_simp
                all_goals omega
              go_simp
              refine wpAny_take (i := 9) (v := .string (t ++ t3 ++ t4)) rfl (by kernel_rfl) (by kernel_rfl) (by kernel_rfl) (fun _ _ _ h => h) (Or.inl ⟨by rfl, ?_⟩) ?_
              · intro w
                go_simp
                all_goals omega
              go_simp
              refine wpAny_ready (rs := [11]) (by kernel_rfl) (by simp) ?_
              refine AllReady.cons rfl (fun K hK => ?_) AllReady.nil
              · go_simp
                go_wp2_with fail
                refine (srcWord g o c cp (ax14) z x14 Hsx14.out (HC1.out.grown Hgx14.out (Nat.le_refl _)) (by omega) hl).mono ?_
                rintro e x15 ⟨t5, ax15, rfl, ht5, hax15, hsx15, hgx15⟩
                show K _ x15
                refine hK _ _ ?_
                clear hK K
                have Hsx15 : Hid (Src x15 g o c.length cp ax15 z) := hsx15
                have Hgx15 : Hid (w1.grownBy x15 (some g)) := gr_trans Hgx14.out hgx15
                clear hsx15 hgx15
                go_simp
                refine wpAny_take (i := 12) (v := .string (t ++ t3 ++ t4 ++ t5)) rfl (by kernel_rfl) (by kernel_rfl) (by kernel_rfl) (fun _ _ _ h => h) (Or.inl ⟨by rfl, ?_⟩) ?_
                · intro w
                  go_simp
                  all_goals omega
                go_simp
                refine wpAny_take (i := 13) (v := .string (t ++ t3 ++ t4 ++ t5)) rfl (by kernel_rfl) (by kernel_rfl) (by kernel_rfl) (fun _ _ _ h => h) (Or.inl ⟨by rfl, ?_⟩) ?_
                · intro w
                  go_simp
                  all_goals omega
                go_simp
                refine wpAny_done (by kernel_rfl) ?_ _
                go_wp2
                go_roundw
                case rel => exact ⟨k - 1, _, ax15, by go_num, rfl, (by simp only [ByteArray.size_append]; omega), by omega, Hsx15, Hgx15⟩
                case measure => simp [Lib.intOf]; omega
            · go_simp
              go_wp2_with fail
              refine (srcWord g o c cp (ax14) z x14 Hsx14.out (HC1.out.grown Hgx14.out (Nat.le_refl _)) (by omega) hl).mono ?_
              rintro e x16 ⟨t5, ax16, rfl, ht5, hax16, hsx16, hgx16⟩
              show K _ x16
              refine hK _ _ ?_
              clear hK K
              have Hsx16 : Hid (Src x16 g o c.length cp ax16 z) := hsx16
              have Hgx16 : Hid (w1.grownBy x16 (some g)) := gr_trans Hgx14.out hgx16
              have Htx16 : Hid (Tb x16 bx11 4 3) := Tb.gr Htx14.out hgx16 hnex11
              clear hsx16 hgx16
              go_simp
              refine wpAny_ready (rs := [5]) (by kernel_rfl) (by simp) ?_
              refine AllReady.cons rfl (fun K hK => ?_) AllReady.nil
              · obtain ⟨t3, hlt3, hzt3⟩ := Htx16.out v3 (by omega)
                go_simp
                refine hK _ _ ?_
                clear hK K
                go_simp
                refine wpAny_take (i := 6) (v := .string (t ++ t3)) rfl (by kernel_rfl) (by kernel_rfl) (by kernel_rfl) (fun _ _ _ h => h) (Or.inl ⟨by rfl, ?_⟩) ?_
                · intro w
                  go_simp
                  all_goals omega
                go_simp
                refine wpAny_take (i := 9) (v := .string (t ++ t3 ++ t4)) rfl (by kernel_rfl) (by kernel_rfl) (by kernel_rfl) (fun _ _ _ h => h) (Or.inl ⟨by rfl, ?_⟩) ?_
                · intro w
                  go_simp
                  all_goals omega
                go_simp
                refine wpAny_take (i := 12) (v := .string (t ++ t3 ++ t4 ++ t5)) rfl (by kernel_rfl) (by kernel_rfl) (by kernel_rfl) (fun _ _ _ h => h) (Or.inl ⟨by rfl, ?_⟩) ?_
                · intro w
                  go_simp
                  all_goals omega
                go_simp
                refine wpAny_take (i := 13) (v := .string (t ++ t3 ++ t4 ++ t5)) rfl (by kernel_rfl) (by kernel_rfl) (by kernel_rfl) (fun _ _ _ h => h) (Or.inl ⟨by rfl, ?_⟩) ?_
                · intro w
                  go_simp
                  all_goals omega
                go_simp
                refine wpAny_done (by kernel_rfl) ?_ _
                go_wp2
                go_roundw
                case rel => exact ⟨k - 1, _, ax16, by go_num, rfl, (by simp only [ByteArray.size_append]; omega), by omega, Hsx16, Hgx16⟩
                case measure => simp [Lib.intOf]; omega
        · go_simp
          go_wp2_with fail
          refine (srcWord g o c cp (a' + 1) z x10 Hsx10.out (HC1.out.grown Hgx10.out (Nat.le_refl _)) (by omega) hl).mono ?_
          rintro e x17 ⟨t4, ax17, rfl, ht4, hax17, hsx17, hgx17⟩
          show K _ x17
          refine hK _ _ ?_
          clear hK K
          have Hsx17 : Hid (Src x17 g o c.length cp ax17 z) := hsx17
          have Hgx17 : Hid (w1.grownBy x17 (some g)) := gr_trans Hgx10.out hgx17
          clear hsx17 hgx17
          go_simp
          refine wpAny_ready (rs := [1, 11]) (by kernel_rfl) (by simp) ?_
          refine AllReady.cons rfl (fun K hK => ?_) (AllReady.cons rfl (fun K hK => ?_) AllReady.nil)
          · go_simp
            refine hK _ _ ?_
            clear hK K
            obtain ⟨x18, hx18⟩ : ∃ x18, x18 = (x17.alloc (.cells #[.string ⟨#[32]⟩, .string ⟨#[]⟩, .string ⟨#[32, 32]⟩, .string ⟨#[9]⟩] 9)) := ⟨_, rfl⟩
            have hbx18 : Below x17.heap.size x17 x18 := by rw [hx18]; exact (Below.refl _ _).alloc (Nat.le_refl _) _
            have Htx18 : Hid (Tb x18 x17.heap.size 4 3) := by rw [hx18]; exact fun v hv => Tb.made (w := x17) (cs := #[.string ⟨#[32]⟩, .string ⟨#[]⟩, .string ⟨#[32, 32]⟩, .string ⟨#[9]⟩]) rfl (by decide) v hv
            have Hsx18 : Hid (Src x18 g o c.length cp (ax17) z) := Hsx17.out.below hbx18
            have Hgx18 : Hid (w1.grownBy x18 (some g)) := gr_trans Hgx17.out (gr_below hbx18)
            obtain ⟨bx18, hbbx18⟩ : ∃ b, x17.heap.size = b := ⟨_, rfl⟩
            have hnex18 : bx18 ≠ g := by have := Hgx17.out.size; have e : x17.heap.size = x17.heap.size := rfl; omega
            rw [← hx18]
            rw [hbbx18] at Htx18
            simp only [hbbx18]
            clear hx18 hbx18 hbbx18
            go_simp
            refine wpAny_take (i := 4) (v := .pointer (some ⟨bx18, v3, none⟩)) rfl (by kernel_rfl) (by kernel_rfl) (by kernel_rfl) (fun _ _ _ h => h) (Or.inl ⟨by rfl, ?_⟩) ?_
            · intro w
              go_simp
              all_goals omega
            go_simp
            refine wpAny_ready (rs := [5, 11]) (by kernel_rfl) (by simp) ?_
            refine AllReady.cons rfl (fun K hK => ?_) (AllReady.cons rfl (fun K hK => ?_) AllReady.nil)
            · obtain ⟨t3, hlt3, hzt3⟩ := Htx18.out v3 (by omega)
              go_simp
              refine hK _ _ ?_
              clear hK K
              go_simp
              refine wpAny_take (i := 6) (v := .string (t ++ t3)) rfl (by kernel_rfl) (by kernel_rfl) (by kernel_rfl) (fun _ _ _ h => h) (Or.inl ⟨by rfl, ?_⟩) ?_
              · intro w
                go_simp
                all_goals omega
              go_simp
              refine wpAny_take (i := 9) (v := .string (t ++ t3 ++ t4)) rfl (by kernel_rfl) (by kernel_rfl) (by kernel_rfl) (fun _ _ _ h => h) (Or.inl ⟨by rfl, ?_⟩) ?_
              · intro w
                go_simp
                all_goals omega
              go_simp
              refine wpAny_ready (rs := [11]) (by kernel_rfl) (by simp) ?_
              refine AllReady.cons rfl (fun K hK => ?_) AllReady.nil
              · go_simp
                go_wp2_with fail
                refine (srcWord g o c cp (ax17) z x18 Hsx18.out (HC1.out.grown Hgx18.out (Nat.le_refl _)) (by omega) hl).mono ?_
                rintro e x19 ⟨t5, ax19, rfl, ht5, hax19, hsx19, hgx19⟩
                show K _ x19
                refine hK _ _ ?_
                clear hK K
                have Hsx19 : Hid (Src x19 g o c.length cp ax19 z) := hsx19
                have Hgx19 : Hid (w1.grownBy x19 (some g)) := gr_trans Hgx18.out hgx19
                clear hsx19 hgx19
                go_simp
                refine wpAny_take (i := 12) (v := .string (t ++ t3 ++ t4 ++ t5)) rfl (by kernel_rfl) (by kernel_rfl) (by kernel_rfl) (fun _ _ _ h => h) (Or.inl ⟨by rfl, ?_⟩) ?_
                · intro w
                  go_simp
                  all_goals omega
                go_simp
                refine wpAny_take (i := 13) (v := .string (t ++ t3 ++ t4 ++ t5)) rfl (by kernel_rfl) (by kernel_rfl) (by kernel_rfl) (fun _ _ _ h => h) (Or.inl ⟨by rfl, ?_⟩) ?_
                · intro w
                  go_simp
                  all_goals omega
                go_simp
                refine wpAny_done (by kernel_rfl) ?_ _
                go_wp2
                go_roundw
                case rel => exact ⟨k - 1, _, ax19, by go_num, rfl, (by simp only [ByteArray.size_append]; omega), by omega, Hsx19, Hgx19⟩
                case measure => simp [Lib.intOf]; omega
            · go_simp
              go_wp2_with fail
              refine (srcWord g o c cp (ax17) z x18 Hsx18.out (HC1.out.grown Hgx18.out (Nat.le_refl _)) (by omega) hl).mono ?_
              rintro e x20 ⟨t5, ax20, rfl, ht5, hax20, hsx20, hgx20⟩
              show K _ x20
              refine hK _ _ ?_
              clear hK K
              have Hsx20 : Hid (Src x20 g o c.length cp ax20 z) := hsx20
              have Hgx20 : Hid (w1.grownBy x20 (some g)) := gr_trans Hgx18.out hgx20
              have Htx20 : Hid (Tb x20 bx18 4 3) := Tb.gr Htx18.out hgx20 hnex18
              clear hsx20 hgx20
              go_simp
              refine wpAny_ready (rs := [5]) (by kernel_rfl) (by simp) ?_
              refine AllReady.cons rfl (fun K hK => ?_) AllReady.nil
              · obtain ⟨t3, hlt3, hzt3⟩ := Htx20.out v3 (by omega)
                go_simp
                refine hK _ _ ?_
                clear hK K
                go_simp
                refine wpAny_take (i := 6) (v := .string (t ++ t3)) rfl (by kernel_rfl) (by kernel_rfl) (by kernel_rfl) (fun _ _ _ h => h) (Or.inl ⟨by rfl, ?_⟩) ?_
                · intro w
                  go_simp
                  all_goals omega
                go_simp
                refine wpAny_take (i := 9) (v := .string (t ++ t3 ++ t4)) rfl (by kernel_rfl) (by kernel_rfl) (by kernel_rfl) (fun _ _ _ h => h) (Or.inl ⟨by rfl, ?_⟩) ?_
                · intro w
                  go_simp
                  all_goals omega
                go_simp
                refine wpAny_take (i := 12) (v := .string (t ++ t3 ++ t4 ++ t5)) rfl (by kernel_rfl) (by kernel_rfl) (by kernel_rfl) (fun _ _ _ h => h) (Or.inl ⟨by rfl, ?_⟩) ?_
                · intro w
                  go_simp
                  all_goals omega
                go_simp
                refine wpAny_take (i := 13) (v := .string (t ++ t3 ++ t4 ++ t5)) rfl (by kernel_rfl) (by kernel_rfl) (by kernel_rfl) (fun _ _ _ h => h) (Or.inl ⟨by rfl, ?_⟩) ?_
                · intro w
                  go_simp
                  all_goals omega
                go_simp
                refine wpAny_done (by kernel_rfl) ?_ _
                go_wp2
                go_roundw
                case rel => exact ⟨k - 1, _, ax20, by go_num, rfl, (by simp only [ByteArray.size_append]; omega), by omega, Hsx20, Hgx20⟩
                case measure => simp [Lib.intOf]; omega
          · go_simp
            go_wp2_with fail
            refine (srcWord g o c cp (ax17) z x17 Hsx17.out (HC1.out.grown Hgx17.out (Nat.le_refl _)) (by omega) hl).mono ?_
            rintro e x21 ⟨t5, ax21, rfl, ht5, hax21, hsx21, hgx21⟩
            show K _ x21
            refine hK _ _ ?_
            clear hK K
            have Hsx21 : Hid (Src x21 g o c.length cp ax21 z) := hsx21
            have Hgx21 : Hid (w1.grownBy x21 (some g)) := gr_trans Hgx17.out hgx21
            clear hsx21 hgx21
            go_simp
            refine wpAny_ready (rs := [1]) (by kernel_rfl) (by simp) ?_
            refine AllReady.cons rfl (fun K hK => ?_) AllReady.nil
            · go_simp
              refine hK _ _ ?_
              clear hK K
              obtain ⟨x22, hx22⟩ : ∃ x22, x22 = (x21.alloc (.cells #[.string ⟨#[32]⟩, .string ⟨#[]⟩, .string ⟨#[32, 32]⟩, .string ⟨#[9]⟩] 9)) := ⟨_, rfl⟩
              have hbx22 : Below x21.heap.size x21 x22 := by rw [hx22]; exact (Below.refl _ _).alloc (Nat.le_refl _) _
              have Htx22 : Hid (Tb x22 x21.heap.size 4 3) := by rw [hx22]; exact fun v hv => Tb.made (w := x21) (cs := #[.string ⟨#[32]⟩, .string ⟨#[]⟩, .string ⟨#[32, 32]⟩, .string ⟨#[9]⟩]) rfl (by decide) v hv
              have Hsx22 : Hid (Src x22 g o c.length cp (ax21) z) := Hsx21.out.below hbx22
              have Hgx22 : Hid (w1.grownBy x22 (some g)) := gr_trans Hgx21.out (gr_below hbx22)
              obtain ⟨bx22, hbbx22⟩ : ∃ b, x21.heap.size = b := ⟨_, rfl⟩
              have hnex22 : bx22 ≠ g := by have := Hgx21.out.size; have e : x21.heap.size = x21.heap.size := rfl; omega
              rw [← hx22]
              rw [hbbx22] at Htx22
              simp only [hbbx22]
              clear hx22 hbx22 hbbx22
              go_simp
              refine wpAny_take (i := 4) (v := .pointer (some ⟨bx22, v3, none⟩)) rfl (by kernel_rfl) (by kernel_rfl) (by kernel_rfl) (fun _ _ _ h => h) (Or.inl ⟨by rfl, ?_⟩) ?_
              · intro w
                go_simp
                all_goals omega
              go_simp
              refine wpAny_ready (rs := [5]) (by kernel_rfl) (by simp) ?_
              refine AllReady.cons rfl (fun K hK => ?_) AllReady.nil
              · obtain ⟨t3, hlt3, hzt3⟩ := Htx22.out v3 (by omega)
                go_simp
                refine hK _ _ ?_
                clear hK K
                go_simp
                refine wpAny_take (i := 6) (v := .string (t ++ t3)) rfl (by kernel_rfl) (by kernel_rfl) (by kernel_rfl) (fun _ _ _ h => h) (Or.inl ⟨by rfl, ?_⟩) ?_
                · intro w
                  go_simp
                  all_goals omega
                go_simp
                refine wpAny_take (i := 9) (v := .string (t ++ t3 ++ t4)) rfl (by kernel_rfl) (by kernel_rfl) (by kernel_rfl) (fun _ _ _ h => h) (Or.inl ⟨by rfl, ?_⟩) ?_
                · intro w
                  go_simp
                  all_goals omega
                go_simp
                refine wpAny_take (i := 12) (v := .string (t ++ t3 ++ t4 ++ t5)) rfl (by kernel_rfl) (by kernel_rfl) (by kernel_rfl) (fun _ _ _ h => h) (Or.inl ⟨by rfl, ?_⟩) ?_
                · intro w
                  go_simp
                  all_goals omega
                go_simp
                refine wpAny_take (i := 13) (v := .string (t ++ t3 ++ t4 ++ t5)) rfl (by kernel_rfl) (by kernel_rfl) (by kernel_rfl) (fun _ _ _ h => h) (Or.inl ⟨by rfl, ?_⟩) ?_
                · intro w
                  go_simp
                  all_goals omega
                go_simp
                refine wpAny_done (by kernel_rfl) ?_ _
                go_wp2
                go_roundw
                case rel => exact ⟨k - 1, _, ax21, by go_num, rfl, (by simp only [ByteArray.size_append]; omega), by omega, Hsx22, Hgx22⟩
                case measure => simp [Lib.intOf]; omega
    · have hO := srcOne g o c cp a' z 8 wr Hs.out (HC1.out.grown Hg.out (Nat.le_refl _)) (by omega) hl (by omega) (by omega)
      go_wp2_with fail
      refine hO.mono ?_
      rintro e w3 ⟨b3, rfl, hs3, hg3⟩
      have Hs3 : Hid (Src w3 g o c.length cp (a' + 1) z) := hs3
      have Hg3 : Hid (w1.grownBy w3 (some g)) := gr_trans Hg.out hg3
      clear hO hs3 hg3 Hs Hg
      cases b3
      · go_wp2
        refine wp_region_any (by kernel_rfl) ?_
        refine wpAny_take (i := 0) (v := .string t) rfl (by kernel_rfl) (by kernel_rfl) (by kernel_rfl) (fun _ _ _ h => h) (Or.inl ⟨by rfl, ?_⟩) ?_
        · intro w
          go_simp
          all_goals omega
        go_simp
        refine wpAny_take (i := 2) (v := .pointer (some ⟨g, 0, none⟩)) rfl (by kernel_rfl) (by kernel_rfl) (by kernel_rfl) (fun _ _ _ h => h) (Or.inl ⟨by rfl, ?_⟩) ?_
        · intro w
          go_simp
          all_goals omega
        go_simp
        refine wpAny_take (i := 7) (v := .pointer (some ⟨g, 0, none⟩)) rfl (by kernel_rfl) (by kernel_rfl) (by kernel_rfl) (fun _ _ _ h => h) (Or.inl ⟨by rfl, ?_⟩) ?_
        · intro w
          go_simp
          all_goals omega
        go_simp
        refine wpAny_ready (rs := [1, 3]) (by kernel_rfl) (by simp) ?_
        refine AllReady.cons rfl (fun K hK => ?_) (AllReady.cons rfl (fun K hK => ?_) AllReady.nil)
        · have Hsy23 : Hid (Src w3.drew g o c.length cp (a' + 1) z) := ⟨Hs3.out.blk⟩
          have Hgy23 : Hid (w1.grownBy w3.drew (some g)) := gr_trans Hg3.out (gr_below (Below.refl _ _).drew)
          go_simp
          refine hK _ _ ?_
          clear hK K
          obtain ⟨x24, hx24⟩ : ∃ x24, x24 = (w3.alloc (.cells #[.string ⟨#[]⟩, .string ⟨#[32, 32, 32]⟩, .string ⟨#[32]⟩] 9)).drew := ⟨_, rfl⟩
          have hbx24 : Below w3.drew.heap.size w3.drew x24 := by rw [hx24]; exact (Below.refl _ _).alloc (Nat.le_refl _) _
          have Htx24 : Hid (Tb x24 w3.heap.size 3 3) := by rw [hx24]; exact fun v hv => Tb.made (w := w3) (cs := #[.string ⟨#[]⟩, .string ⟨#[32, 32, 32]⟩, .string ⟨#[32]⟩]) rfl (by decide) v hv
          have Hsx24 : Hid (Src x24 g o c.length cp (a' + 1) z) := Hsy23.out.below hbx24
          have Hgx24 : Hid (w1.grownBy x24 (some g)) := gr_trans Hgy23.out (gr_below hbx24)
          obtain ⟨bx24, hbbx24⟩ : ∃ b, w3.heap.size = b := ⟨_, rfl⟩
          have hnex24 : bx24 ≠ g := by have := Hgy23.out.size; have e : w3.drew.heap.size = w3.heap.size := rfl; omega
          rw [← hx24]
          rw [hbbx24] at Htx24
          simp only [hbbx24]
          clear hx24 hbx24 hbbx24
          go_simp
          refine wpAny_ready (rs := [3]) (by kernel_rfl) (by simp) ?_
          refine AllReady.cons rfl (fun K hK => ?_) AllReady.nil
          · go_simp
            go_wp2_with fail
            refine (srcN g o c cp (a' + 1) z 3 x24 Hsx24.out (HC1.out.grown Hgx24.out (Nat.le_refl _)) (by omega) hl (by omega) (by omega)).mono ?_
            rintro e x25 ⟨v4, rfl, hv4, hsx25, hgx25⟩
            show K _ x25
            refine hK _ _ ?_
            clear hK K
            have Hsx25 : Hid (Src x25 g o c.length cp (a' + 1 + 1) z) := hsx25
            have Hgx25 : Hid (w1.grownBy x25 (some g)) := gr_trans Hgx24.out hgx25
            have hv4i : v4 < 3 := by omega
            have Htx25 : Hid (Tb x25 bx24 3 3) := Tb.gr Htx24.out hgx25 hnex24
            clear hsx25 hgx25
            go_simp
            refine wpAny_take (i := 4) (v := .pointer (some ⟨bx24, v4, none⟩)) rfl (by kernel_rfl) (by kernel_rfl) (by kernel_rfl) (fun _ _ _ h => h) (Or.inl ⟨by rfl, ?_⟩) ?_
            · intro w
              go_simp
              all_goals omega
            go_simp
            refine wpAny_ready (rs := [5, 8]) (by kernel_rfl) (by simp) ?_
            refine AllReady.cons rfl (fun K hK => ?_) (AllReady.cons rfl (fun K hK => ?_) AllReady.nil)
            · obtain ⟨t4, hlt4, hzt4⟩ := Htx25.out v4 (by omega)
              go_simp
              refine hK _ _ ?_
              clear hK K
              go_simp
              refine wpAny_take (i := 6) (v := .string (t ++ t4)) rfl (by kernel_rfl) (by kernel_rfl) (by kernel_rfl) (fun _ _ _ h => h) (Or.inl ⟨by rfl, ?_⟩) ?_
              · intro w
                go_simp
                all_goals omega
              go_simp
              refine wpAny_ready (rs := [8]) (by kernel_rfl) (by simp) ?_
              refine AllReady.cons rfl (fun K hK => ?_) AllReady.nil
              · go_simp
                go_wp2_with fail
                refine (srcN g o c cp (a' + 1 + 1) z 82 x25 Hsx25.out (HC1.out.grown Hgx25.out (Nat.le_refl _)) (by omega) hl (by omega) (by omega)).mono ?_
                rintro e x26 ⟨v5, rfl, hv5, hsx26, hgx26⟩
                show K _ x26
                refine hK _ _ ?_
                clear hK K
                have Hsx26 : Hid (Src x26 g o c.length cp (a' + 1 + 1 + 1) z) := hsx26
                have Hgx26 : Hid (w1.grownBy x26 (some g)) := gr_trans Hgx25.out hgx26
                have hv5i : v5 < 82 := by omega
                have hw5 : IntKind.i64.wrap ((v5 : Int) - 1) = (v5 : Int) - 1 := wr64 _ (by omega) (by omega)
                clear hsx26 hgx26
                go_simp
                refine wpAny_take (i := 9) (v := .int .i64 ((v5 : Int) - 1)) rfl (by kernel_rfl) (by kernel_rfl) (by kernel_rfl) (fun _ _ _ h => h) (Or.inl ⟨by rfl, ?_⟩) ?_
                · intro w
                  go_simp
                  all_goals omega
                go_simp
                refine wpAny_take (i := 10) (v := .string (t ++ t4)) rfl (by kernel_rfl) (by kernel_rfl) (by kernel_rfl) (fun _ _ _ h => h) (Or.inl ⟨by rfl, ?_⟩) ?_
                · intro w
                  go_simp
                  all_goals omega
                go_simp
                refine wpAny_take (i := 11) (v := .int .i64 ((v5 : Int) - 1)) rfl (by kernel_rfl) (by kernel_rfl) (by kernel_rfl) (fun _ _ _ h => h) (Or.inl ⟨by rfl, ?_⟩) ?_
                · intro w
                  go_simp
                  all_goals omega
                go_simp
                refine wpAny_done (by kernel_rfl) ?_ _
                go_wp2
                refine bodyPost_ret (v := .tuple #[.string (t ++ t4), .int .i64 ((v5 : Int) - 1)]) (by simp [results, Try.results10, go_sem]) rfl ⟨_, _, rfl, (by rw [ByteArray.size_append]; omega), by omega, by omega, ?_⟩
                have hfin := gr_new2 (g := g) (by rw [hgw]; exact Hb1.out) Hgx26.out (by omega)
                rw [hgw] at hfin
                exact hfin
            · go_simp
              go_wp2_with fail
              refine (srcN g o c cp (a' + 1 + 1) z 82 x25 Hsx25.out (HC1.out.grown Hgx25.out (Nat.le_refl _)) (by omega) hl (by omega) (by omega)).mono ?_
              rintro e x27 ⟨v5, rfl, hv5, hsx27, hgx27⟩
              show K _ x27
              refine hK _ _ ?_
              clear hK K
              have Hsx27 : Hid (Src x27 g o c.length cp (a' + 1 + 1 + 1) z) := hsx27
              have Hgx27 : Hid (w1.grownBy x27 (some g)) := gr_trans Hgx25.out hgx27
              have hv5i : v5 < 82 := by omega
              have hw5 : IntKind.i64.wrap ((v5 : Int) - 1) = (v5 : Int) - 1 := wr64 _ (by omega) (by omega)
              have Htx27 : Hid (Tb x27 bx24 3 3) := Tb.gr Htx25.out hgx27 hnex24
              clear hsx27 hgx27
              go_simp
              refine wpAny_take (i := 9) (v := .int .i64 ((v5 : Int) - 1)) rfl (by kernel_rfl) (by kernel_rfl) (by kernel_rfl) (fun _ _ _ h => h) (Or.inl ⟨by rfl, ?_⟩) ?_
              · intro w
                go_simp
                all_goals omega
              go_simp
              refine wpAny_ready (rs := [5]) (by kernel_rfl) (by simp) ?_
              refine AllReady.cons rfl (fun K hK => ?_) AllReady.nil
              · obtain ⟨t4, hlt4, hzt4⟩ := Htx27.out v4 (by omega)
                go_simp
                refine hK _ _ ?_
                clear hK K
                go_simp
                refine wpAny_take (i := 6) (v := .string (t ++ t4)) rfl (by kernel_rfl) (by kernel_rfl) (by kernel_rfl) (fun _ _ _ h => h) (Or.inl ⟨by rfl, ?_⟩) ?_
                · intro w
                  go_simp
                  all_goals omega
                go_simp
                refine wpAny_take (i := 10) (v := .string (t ++ t4)) rfl (by kernel_rfl) (by kernel_rfl) (by kernel_rfl) (fun _ _ _ h => h) (Or.inl ⟨by rfl, ?_⟩) ?_
                · intro w
                  go_simp
                  all_goals omega
                go_simp
                refine wpAny_take (i := 11) (v := .int .i64 ((v5 : Int) - 1)) rfl (by kernel_rfl) (by kernel_rfl) (by kernel_rfl) (fun _ _ _ h => h) (Or.inl ⟨by rfl, ?_⟩) ?_
                · intro w
                  go_simp
                  all_goals omega
                go_simp
                refine wpAny_done (by kernel_rfl) ?_ _
                go_wp2
                refine bodyPost_ret (v := .tuple #[.string (t ++ t4), .int .i64 ((v5 : Int) - 1)]) (by simp [results, Try.results10, go_sem]) rfl ⟨_, _, rfl, (by rw [ByteArray.size_append]; omega), by omega, by omega, ?_⟩
                have hfin := gr_new2 (g := g) (by rw [hgw]; exact Hb1.out) Hgx27.out (by omega)
                rw [hgw] at hfin
                exact hfin
        · have Hsy28 : Hid (Src w3.drew g o c.length cp (a' + 1) z) := ⟨Hs3.out.blk⟩
          have Hgy28 : Hid (w1.grownBy w3.drew (some g)) := gr_trans Hg3.out (gr_below (Below.refl _ _).drew)
          go_simp
          go_wp2_with fail
          refine (srcN g o c cp (a' + 1) z 3 w3.drew Hsy28.out (HC1.out.grown Hgy28.out (Nat.le_refl _)) (by omega) hl (by omega) (by omega)).mono ?_
          rintro e x29 ⟨v4, rfl, hv4, hsx29, hgx29⟩
          show K _ x29
          refine hK _ _ ?_
          clear hK K
          have Hsx29 : Hid (Src x29 g o c.length cp (a' + 1 + 1) z) := hsx29
          have Hgx29 : Hid (w1.grownBy x29 (some g)) := gr_trans Hgy28.out hgx29
          have hv4i : v4 < 3 := by omega
          clear hsx29 hgx29
          go_simp
          refine wpAny_ready (rs := [1, 8]) (by kernel_rfl) (by simp) ?_
          refine AllReady.cons rfl (fun K hK => ?_) (AllReady.cons rfl (fun K hK => ?_) AllReady.nil)
          · go_simp
            refine hK _ _ ?_
            clear hK K
            obtain ⟨x30, hx30⟩ : ∃ x30, x30 = (x29.alloc (.cells #[.string ⟨#[]⟩, .string ⟨#[32, 32, 32]⟩, .string ⟨#[32]⟩] 9)) := ⟨_, rfl⟩
            have hbx30 : Below x29.heap.size x29 x30 := by rw [hx30]; exact (Below.refl _ _).alloc (Nat.le_refl _) _
            have Htx30 : Hid (Tb x30 x29.heap.size 3 3) := by rw [hx30]; exact fun v hv => Tb.made (w := x29) (cs := #[.string ⟨#[]⟩, .string ⟨#[32, 32, 32]⟩, .string ⟨#[32]⟩]) rfl (by decide) v hv
            have Hsx30 : Hid (Src x30 g o c.length cp (a' + 1 + 1) z) := Hsx29.out.below hbx30
            have Hgx30 : Hid (w1.grownBy x30 (some g)) := gr_trans Hgx29.out (gr_below hbx30)
            obtain ⟨bx30, hbbx30⟩ : ∃ b, x29.heap.size = b := ⟨_, rfl⟩
            have hnex30 : bx30 ≠ g := by have := Hgx29.out.size; have e : x29.heap.size = x29.heap.size := rfl; omega
            rw [← hx30]
            rw [hbbx30] at Htx30
            simp only [hbbx30]
            clear hx30 hbx30 hbbx30
            go_simp
            refine wpAny_take (i := 4) (v := .pointer (some ⟨bx30, v4, none⟩)) rfl (by kernel_rfl) (by kernel_rfl) (by kernel_rfl) (fun _ _ _ h => h) (Or.inl ⟨by rfl, ?_⟩) ?_
            · intro w
              go_simp
              all_goals omega
            go_simp
            refine wpAny_ready (rs := [5, 8]) (by kernel_rfl) (by simp) ?_
            refine AllReady.cons rfl (fun K hK => ?_) (AllReady.cons rfl (fun K hK => ?_) AllReady.nil)
            · obtain ⟨t4, hlt4, hzt4⟩ := Htx30.out v4 (by omega)
              go_simp
              refine hK _ _ ?_
              clear hK K
              go_simp
              refine wpAny_take (i := 6) (v := .string (t ++ t4)) rfl (by kernel_rfl) (by kernel_rfl) (by kernel_rfl) (fun _ _ _ h => h) (Or.inl ⟨by rfl, ?_⟩) ?_
              · intro w
                go_simp
                all_goals omega
              go_simp
              refine wpAny_ready (rs := [8]) (by kernel_rfl) (by simp) ?_
              refine AllReady.cons rfl (fun K hK => ?_) AllReady.nil
              · go_simp
                go_wp2_with fail
                refine (srcN g o c cp (a' + 1 + 1) z 82 x30 Hsx30.out (HC1.out.grown Hgx30.out (Nat.le_refl _)) (by omega) hl (by omega) (by omega)).mono ?_
                rintro e x31 ⟨v5, rfl, hv5, hsx31, hgx31⟩
                show K _ x31
                refine hK _ _ ?_
                clear hK K
                have Hsx31 : Hid (Src x31 g o c.length cp (a' + 1 + 1 + 1) z) := hsx31
                have Hgx31 : Hid (w1.grownBy x31 (some g)) := gr_trans Hgx30.out hgx31
                have hv5i : v5 < 82 := by omega
                have hw5 : IntKind.i64.wrap ((v5 : Int) - 1) = (v5 : Int) - 1 := wr64 _ (by omega) (by omega)
                clear hsx31 hgx31
                go_simp
                refine wpAny_take (i := 9) (v := .int .i64 ((v5 : Int) - 1)) rfl (by kernel_rfl) (by kernel_rfl) (by kernel_rfl) (fun _ _ _ h => h) (Or.inl ⟨by rfl, ?_⟩) ?_
                · intro w
                  go_simp
                  all_goals omega
                go_simp
                refine wpAny_take (i := 10) (v := .string (t ++ t4)) rfl (by kernel_rfl) (by kernel_rfl) (by kernel_rfl) (fun _ _ _ h => h) (Or.inl ⟨by rfl, ?_⟩) ?_
                · intro w
                  go_simp
                  all_goals omega
                go_simp
                refine wpAny_take (i := 11) (v := .int .i64 ((v5 : Int) - 1)) rfl (by kernel_rfl) (by kernel_rfl) (by kernel_rfl) (fun _ _ _ h => h) (Or.inl ⟨by rfl, ?_⟩) ?_
                · intro w
                  go_simp
                  all_goals omega
                go_simp
                refine wpAny_done (by kernel_rfl) ?_ _
                go_wp2
                refine bodyPost_ret (v := .tuple #[.string (t ++ t4), .int .i64 ((v5 : Int) - 1)]) (by simp [results, Try.results10, go_sem]) rfl ⟨_, _, rfl, (by rw [ByteArray.size_append]; omega), by omega, by omega, ?_⟩
                have hfin := gr_new2 (g := g) (by rw [hgw]; exact Hb1.out) Hgx31.out (by omega)
                rw [hgw] at hfin
                exact hfin
            · go_simp
              go_wp2_with fail
              refine (srcN g o c cp (a' + 1 + 1) z 82 x30 Hsx30.out (HC1.out.grown Hgx30.out (Nat.le_refl _)) (by omega) hl (by omega) (by omega)).mono ?_
              rintro e x32 ⟨v5, rfl, hv5, hsx32, hgx32⟩
              show K _ x32
              refine hK _ _ ?_
              clear hK K
              have Hsx32 : Hid (Src x32 g o c.length cp (a' + 1 + 1 + 1) z) := hsx32
              have Hgx32 : Hid (w1.grownBy x32 (some g)) := gr_trans Hgx30.out hgx32
              have hv5i : v5 < 82 := by omega
              have hw5 : IntKind.i64.wrap ((v5 : Int) - 1) = (v5 : Int) - 1 := wr64 _ (by omega) (by omega)
              have Htx32 : Hid (Tb x32 bx30 3 3) := Tb.gr Htx30.out hgx32 hnex30
              clear hsx32 hgx32
              go_simp
              refine wpAny_take (i := 9) (v := .int .i64 ((v5 : Int) - 1)) rfl (by kernel_rfl) (by kernel_rfl) (by kernel_rfl) (fun _ _ _ h => h) (Or.inl ⟨by rfl, ?_⟩) ?_
              · intro w
                go_simp
                all_goals omega
              go_simp
              refine wpAny_ready (rs := [5]) (by kernel_rfl) (by simp) ?_
              refine AllReady.cons rfl (fun K hK => ?_) AllReady.nil
              · obtain ⟨t4, hlt4, hzt4⟩ := Htx32.out v4 (by omega)
                go_simp
                refine hK _ _ ?_
                clear hK K
                go_simp
                refine wpAny_take (i := 6) (v := .string (t ++ t4)) rfl (by kernel_rfl) (by kernel_rfl) (by kernel_rfl) (fun _ _ _ h => h) (Or.inl ⟨by rfl, ?_⟩) ?_
                · intro w
                  go_simp
                  all_goals omega
                go_simp
                refine wpAny_take (i := 10) (v := .string (t ++ t4)) rfl (by kernel_rfl) (by kernel_rfl) (by kernel_rfl) (fun _ _ _ h => h) (Or.inl ⟨by rfl, ?_⟩) ?_
                · intro w
                  go_simp
                  all_goals omega
                go_simp
                refine wpAny_take (i := 11) (v := .int .i64 ((v5 : Int) - 1)) rfl (by kernel_rfl) (by kernel_rfl) (by kernel_rfl) (fun _ _ _ h => h) (Or.inl ⟨by rfl, ?_⟩) ?_
                · intro w
                  go_simp
                  all_goals omega
                go_simp
                refine wpAny_done (by kernel_rfl) ?_ _
                go_wp2
                refine bodyPost_ret (v := .tuple #[.string (t ++ t4), .int .i64 ((v5 : Int) - 1)]) (by simp [results, Try.results10, go_sem]) rfl ⟨_, _, rfl, (by rw [ByteArray.size_append]; omega), by omega, by omega, ?_⟩
                have hfin := gr_new2 (g := g) (by rw [hgw]; exact Hb1.out) Hgx32.out (by omega)
                rw [hgw] at hfin
                exact hfin
          · go_simp
            go_wp2_with fail
            refine (srcN g o c cp (a' + 1 + 1) z 82 x29 Hsx29.out (HC1.out.grown Hgx29.out (Nat.le_refl _)) (by omega) hl (by omega) (by omega)).mono ?_
            rintro e x33 ⟨v5, rfl, hv5, hsx33, hgx33⟩
            show K _ x33
            refine hK _ _ ?_
            clear hK K
            have Hsx33 : Hid (Src x33 g o c.length cp (a' + 1 + 1 + 1) z) := hsx33
            have Hgx33 : Hid (w1.grownBy x33 (some g)) := gr_trans Hgx29.out hgx33
            have hv5i : v5 < 82 := by omega
            have hw5 : IntKind.i64.wrap ((v5 : Int) - 1) = (v5 : Int) - 1 := wr64 _ (by omega) (by omega)
            clear hsx33 hgx33
            go_simp
            refine wpAny_take (i := 9) (v := .int .i64 ((v5 : Int) - 1)) rfl (by kernel_rfl) (by kernel_rfl) (by kernel_rfl) (fun _ _ _ h => h) (Or.inl ⟨by rfl, ?_⟩) ?_
            · intro w
              go_simp
              all_goals omega
            go_simp
            refine wpAny_ready (rs := [1]) (by kernel_rfl) (by simp) ?_
            refine AllReady.cons rfl (fun K hK => ?_) AllReady.nil
            · go_simp
              refine hK _ _ ?_
              clear hK K
              obtain ⟨x34, hx34⟩ : ∃ x34, x34 = (x33.alloc (.cells #[.string ⟨#[]⟩, .string ⟨#[32, 32, 32]⟩, .string ⟨#[32]⟩] 9)) := ⟨_, rfl⟩
              have hbx34 : Below x33.heap.size x33 x34 := by rw [hx34]; exact (Below.refl _ _).alloc (Nat.le_refl _) _
              have Htx34 : Hid (Tb x34 x33.heap.size 3 3) := by rw [hx34]; exact fun v hv => Tb.made (w := x33) (cs := #[.string ⟨#[]⟩, .string ⟨#[32, 32, 32]⟩, .string ⟨#[32]⟩]) rfl (by decide) v hv
              have Hsx34 : Hid (Src x34 g o c.length cp (a' + 1 + 1 + 1) z) := Hsx33.out.below hbx34
              have Hgx34 : Hid (w1.grownBy x34 (some g)) := gr_trans Hgx33.out (gr_below hbx34)
              obtain ⟨bx34, hbbx34⟩ : ∃ b, x33.heap.size = b := ⟨_, rfl⟩
              have hnex34 : bx34 ≠ g := by have := Hgx33.out.size; have e : x33.heap.size = x33.heap.size := rfl; omega
              rw [← hx34]
              rw [hbbx34] at Htx34
              simp only [hbbx34]
              clear hx34 hbx34 hbbx34
              go_simp
              refine wpAny_take (i := 4) (v := .pointer (some ⟨bx34, v4, none⟩)) rfl (by kernel_rfl) (by kernel_rfl) (by kernel_rfl) (fun _ _ _ h => h) (Or.inl ⟨by rfl, ?_⟩) ?_
              · intro w
                go_simp
                all_goals omega
              go_simp
              refine wpAny_ready (rs := [5]) (by kernel_rfl) (by simp) ?_
              refine AllReady.cons rfl (fun K hK => ?_) AllReady.nil
              · obtain ⟨t4, hlt4, hzt4⟩ := Htx34.out v4 (by omega)
                go_simp
                refine hK _ _ ?_
                clear hK K
                go_simp
                refine wpAny_take (i := 6) (v := .string (t ++ t4)) rfl (by kernel_rfl) (by kernel_rfl) (by kernel_rfl) (fun _ _ _ h => h) (Or.inl ⟨by rfl, ?_⟩) ?_
                · intro w
                  go_simp
                  all_goals omega
                go_simp
                refine wpAny_take (i := 10) (v := .string (t ++ t4)) rfl (by kernel_rfl) (by kernel_rfl) (by kernel_rfl) (fun _ _ _ h => h) (Or.inl ⟨by rfl, ?_⟩) ?_
                · intro w
                  go_simp
                  all_goals omega
                go_simp
                refine wpAny_take (i := 11) (v := .int .i64 ((v5 : Int) - 1)) rfl (by kernel_rfl) (by kernel_rfl) (by kernel_rfl) (fun _ _ _ h => h) (Or.inl ⟨by rfl, ?_⟩) ?_
                · intro w
                  go_simp
                  all_goals omega
                go_simp
                refine wpAny_done (by kernel_rfl) ?_ _
                go_wp2
                refine bodyPost_ret (v := .tuple #[.string (t ++ t4), .int .i64 ((v5 : Int) - 1)]) (by simp [results, Try.results10, go_sem]) rfl ⟨_, _, rfl, (by rw [ByteArray.size_append]; omega), by omega, by omega, ?_⟩
                have hfin := gr_new2 (g := g) (by rw [hgw]; exact Hb1.out) Hgx34.out (by omega)
                rw [hgw] at hfin
                exact hfin
      · go_wp2
        obtain ⟨t2, ht2⟩ : ∃ t2, t2 = t ++ (⟨#[13]⟩ : ByteArray) := ⟨_, rfl⟩
        have hts2 : t2.size = t.size + 1 := by rw [ht2, ByteArray.size_append]; rfl
        rw [← ht2]
        clear ht2
        refine wp_region_any (by kernel_rfl) ?_
        refine wpAny_take (i := 0) (v := .string t2) rfl (by kernel_rfl) (by kernel_rfl) (by kernel_rfl) (fun _ _ _ h => h) (Or.inl ⟨by rfl, ?_⟩) ?_
        · intro w
          go_simp
          all_goals omega
        go_simp
        refine wpAny_take (i := 2) (v := .pointer (some ⟨g, 0, none⟩)) rfl (by kernel_rfl) (by kernel_rfl) (by kernel_rfl) (fun _ _ _ h => h) (Or.inl ⟨by rfl, ?_⟩) ?_
        · intro w
          go_simp
          all_goals omega
        go_simp
        refine wpAny_take (i := 7) (v := .pointer (some ⟨g, 0, none⟩)) rfl (by kernel_rfl) (by kernel_rfl) (by kernel_rfl) (fun _ _ _ h => h) (Or.inl ⟨by rfl, ?_⟩) ?_
        · intro w
          go_simp
          all_goals omega
        go_simp
        refine wpAny_ready (rs := [1, 3]) (by kernel_rfl) (by simp) ?_
        refine AllReady.cons rfl (fun K hK => ?_) (AllReady.cons rfl (fun K hK => ?_) AllReady.nil)
        · have Hsy35 : Hid (Src w3.drew g o c.length cp (a' + 1) z) := ⟨Hs3.out.blk⟩
          have Hgy35 : Hid (w1.grownBy w3.drew (some g)) := gr_trans Hg3.out (gr_below (Below.refl _ _).drew)
          go_simp
          refine hK _ _ ?_
          clear hK K
          obtain ⟨x36, hx36⟩ : ∃ x36, x36 = (w3.alloc (.cells #[.string ⟨#[]⟩, .string ⟨#[32, 32, 32]⟩, .string ⟨#[32]⟩] 9)).drew := ⟨_, rfl⟩
          have hbx36 : Below w3.drew.heap.size w3.drew x36 := by rw [hx36]; exact (Below.refl _ _).alloc (Nat.le_refl _) _
          have Htx36 : Hid (Tb x36 w3.heap.size 3 3) := by rw [hx36]; exact fun v hv => Tb.made (w := w3) (cs := #[.string ⟨#[]⟩, .string ⟨#[32, 32, 32]⟩, .string ⟨#[32]⟩]) rfl (by decide) v hv
          have Hsx36 : Hid (Src x36 g o c.length cp (a' + 1) z) := Hsy35.out.below hbx36
          have Hgx36 : Hid (w1.grownBy x36 (some g)) := gr_trans Hgy35.out (gr_below hbx36)
          obtain ⟨bx36, hbbx36⟩ : ∃ b, w3.heap.size = b := ⟨_, rfl⟩
          have hnex36 : bx36 ≠ g := by have := Hgy35.out.size; have e : w3.drew.heap.size = w3.heap.size := rfl; omega
          rw [← hx36]
          rw [hbbx36] at Htx36
          simp only [hbbx36]
          clear hx36 hbx36 hbbx36
          go_simp
          refine wpAny_ready (rs := [3]) (by kernel_rfl) (by simp) ?_
          refine AllReady.cons rfl (fun K hK => ?_) AllReady.nil
          · go_simp
            go_wp2_with fail
            refine (srcN g o c cp (a' + 1) z 3 x36 Hsx36.out (HC1.out.grown Hgx36.out (Nat.le_refl _)) (by omega) hl (by omega) (by omega)).mono ?_
            rintro e x37 ⟨v4, rfl, hv4, hsx37, hgx37⟩
            show K _ x37
            refine hK _ _ ?_
            clear hK K
            have Hsx37 : Hid (Src x37 g o c.length cp (a' + 1 + 1) z) := hsx37
            have Hgx37 : Hid (w1.grownBy x37 (some g)) := gr_trans Hgx36.out hgx37
            have hv4i : v4 < 3 := by omega
            have Htx37 : Hid (Tb x37 bx36 3 3) := Tb.gr Htx36.out hgx37 hnex36
            clear hsx37 hgx37
            go_simp
            refine wpAny_take (i := 4) (v := .pointer (some ⟨bx36, v4, none⟩)) rfl (by kernel_rfl) (by kernel_rfl) (by kernel_rfl) (fun _ _ _ h => h) (Or.inl ⟨by rfl, ?_⟩) ?_
            · intro w
              go_simp
              all_goals omega
            go_simp
            refine wpAny_ready (rs := [5, 8]) (by kernel_rfl) (by simp) ?_
            refine AllReady.cons rfl (fun K hK => ?_) (AllReady.cons rfl (fun K hK => ?_) AllReady.nil)
            · obtain ⟨t4, hlt4, hzt4⟩ := Htx37.out v4 (by omega)
              go_simp
              refine hK _ _ ?_
              clear hK K
              go_simp
              refine wpAny_take (i := 6) (v := .string (t2 ++ t4)) rfl (by kernel_rfl) (by kernel_rfl) (by kernel_rfl) (fun _ _ _ h => h) (Or.inl ⟨by rfl, ?_⟩) ?_
              · intro w
                go_simp
                all_goals omega
              go_simp
              refine wpAny_ready (rs := [8]) (by kernel_rfl) (by simp) ?_
              refine AllReady.cons rfl (fun K hK => ?_) AllReady.nil
              · go_simp
                go_wp2_with fail
                refine (srcN g o c cp (a' + 1 + 1) z 82 x37 Hsx37.out (HC1.out.grown Hgx37.out (Nat.le_refl _)) (by omega) hl (by omega) (by omega)).mono ?_
                rintro e x38 ⟨v5, rfl, hv5, hsx38, hgx38⟩
                show K _ x38
                refine hK _ _ ?_
                clear hK K
                have Hsx38 : Hid (Src x38 g o c.length cp (a' + 1 + 1 + 1) z) := hsx38
                have Hgx38 : Hid (w1.grownBy x38 (some g)) := gr_trans Hgx37.out hgx38
                have hv5i : v5 < 82 := by omega
                have hw5 : IntKind.i64.wrap ((v5 : Int) - 1) = (v5 : Int) - 1 := wr64 _ (by omega) (by omega)
                clear hsx38 hgx38
                go_simp
                refine wpAny_take (i := 9) (v := .int .i64 ((v5 : Int) - 1)) rfl (by kernel_rfl) (by kernel_rfl) (by kernel_rfl) (fun _ _ _ h => h) (Or.inl ⟨by rfl, ?_⟩) ?_
                · intro w
                  go_simp
                  all_goals omega
                go_simp
                refine wpAny_take (i := 10) (v := .string (t2 ++ t4)) rfl (by kernel_rfl) (by kernel_rfl) (by kernel_rfl) (fun _ _ _ h => h) (Or.inl ⟨by rfl, ?_⟩) ?_
                · intro w
                  go_simp
                  all_goals omega
                go_simp
                refine wpAny_take (i := 11) (v := .int .i64 ((v5 : Int) - 1)) rfl (by kernel_rfl) (by kernel_rfl) (by kernel_rfl) (fun _ _ _ h => h) (Or.inl ⟨by rfl, ?_⟩) ?_
                · intro w
                  go_simp
                  all_goals omega
                go_simp
                refine wpAny_done (by kernel_rfl) ?_ _
                go_wp2
                refine bodyPost_ret (v := .tuple #[.string (t2 ++ t4), .int .i64 ((v5 : Int) - 1)]) (by simp [results, Try.results10, go_sem]) rfl ⟨_, _, rfl, (by rw [ByteArray.size_append]; omega), by omega, by omega, ?_⟩
                have hfin := gr_new2 (g := g) (by rw [hgw]; exact Hb1.out) Hgx38.out (by omega)
                rw [hgw] at hfin
                exact hfin
            · go_simp
              go_wp2_with fail
              refine (srcN g o c cp (a' + 1 + 1) z 82 x37 Hsx37.out (HC1.out.grown Hgx37.out (Nat.le_refl _)) (by omega) hl (by omega) (by omega)).mono ?_
              rintro e x39 ⟨v5, rfl, hv5, hsx39, hgx39⟩
              show K _ x39
              refine hK _ _ ?_
              clear hK K
              have Hsx39 : Hid (Src x39 g o c.length cp (a' + 1 + 1 + 1) z) := hsx39
              have Hgx39 : Hid (w1.grownBy x39 (some g)) := gr_trans Hgx37.out hgx39
              have hv5i : v5 < 82 := by omega
              have hw5 : IntKind.i64.wrap ((v5 : Int) - 1) = (v5 : Int) - 1 := wr64 _ (by omega) (by omega)
              have Htx39 : Hid (Tb x39 bx36 3 3) := Tb.gr Htx37.out hgx39 hnex36
              clear hsx39 hgx39
              go_simp
              refine wpAny_take (i := 9) (v := .int .i64 ((v5 : Int) - 1)) rfl (by kernel_rfl) (by kernel_rfl) (by kernel_rfl) (fun _ _ _ h => h) (Or.inl ⟨by rfl, ?_⟩) ?_
              · intro w
                go_simp
                all_goals omega
              go_simp
              refine wpAny_ready (rs := [5]) (by kernel_rfl) (by simp) ?_
              refine AllReady.cons rfl (fun K hK => ?_) AllReady.nil
              · obtain ⟨t4, hlt4, hzt4⟩ := Htx39.out v4 (by omega)
                go_simp
                refine hK _ _ ?_
                clear hK K
                go_simp
                refine wpAny_take (i := 6) (v := .string (t2 ++ t4)) rfl (by kernel_rfl) (by kernel_rfl) (by kernel_rfl) (fun _ _ _ h => h) (Or.inl ⟨by rfl, ?_⟩) ?_
                · intro w
                  go_simp
                  all_goals omega
                go_simp
                refine wpAny_take (i := 10) (v := .string (t2 ++ t4)) rfl (by kernel_rfl) (by kernel_rfl) (by kernel_rfl) (fun _ _ _ h => h) (Or.inl ⟨by rfl, ?_⟩) ?_
                · intro w
                  go_simp
                  all_goals omega
                go_simp
                refine wpAny_take (i := 11) (v := .int .i64 ((v5 : Int) - 1)) rfl (by kernel_rfl) (by kernel_rfl) (by kernel_rfl) (fun _ _ _ h => h) (Or.inl ⟨by rfl, ?_⟩) ?_
                · intro w
                  go_simp
                  all_goals omega
                go_simp
                refine wpAny_done (by kernel_rfl) ?_ _
                go_wp2
                refine bodyPost_ret (v := .tuple #[.string (t2 ++ t4), .int .i64 ((v5 : Int) - 1)]) (by simp [results, Try.results10, go_sem]) rfl ⟨_, _, rfl, (by rw [ByteArray.size_append]; omega), by omega, by omega, ?_⟩
                have hfin := gr_new2 (g := g) (by rw [hgw]; exact Hb1.out) Hgx39.out (by omega)
                rw [hgw] at hfin
                exact hfin
        · have Hsy40 : Hid (Src w3.drew g o c.length cp (a' + 1) z) := ⟨Hs3.out.blk⟩
          have Hgy40 : Hid (w1.grownBy w3.drew (some g)) := gr_trans Hg3.out (gr_below (Below.refl _ _).drew)
          go_simp
          go_wp2_with fail
          refine (srcN g o c cp (a' + 1) z 3 w3.drew Hsy40.out (HC1.out.grown Hgy40.out (Nat.le_refl _)) (by omega) hl (by omega) (by omega)).mono ?_
          rintro e x41 ⟨v4, rfl, hv4, hsx41, hgx41⟩
          show K _ x41
          refine hK _ _ ?_
          clear hK K
          have Hsx41 : Hid (Src x41 g o c.length cp (a' + 1 + 1) z) := hsx41
          have Hgx41 : Hid (w1.grownBy x41 (some g)) := gr_trans Hgy40.out hgx41
          have hv4i : v4 < 3 := by omega
          clear hsx41 hgx41
          go_simp
          refine wpAny_ready (rs := [1, 8]) (by kernel_rfl) (by simp) ?_
          refine AllReady.cons rfl (fun K hK => ?_) (AllReady.cons rfl (fun K hK => ?_) AllReady.nil)
          · go_simp
            refine hK _ _ ?_
            clear hK K
            obtain ⟨x42, hx42⟩ : ∃ x42, x42 = (x41.alloc (.cells #[.string ⟨#[]⟩, .string ⟨#[32, 32, 32]⟩, .string ⟨#[32]⟩] 9)) := ⟨_, rfl⟩
            have hbx42 : Below x41.heap.size x41 x42 := by rw [hx42]; exact (Below.refl _ _).alloc (Nat.le_refl _) _
            have Htx42 : Hid (Tb x42 x41.heap.size 3 3) := by rw [hx42]; exact fun v hv => Tb.made (w := x41) (cs := #[.string ⟨#[]⟩, .string ⟨#[32, 32, 32]⟩, .string ⟨#[32]⟩]) rfl (by decide) v hv
            have Hsx42 : Hid (Src x42 g o c.length cp (a' + 1 + 1) z) := Hsx41.out.below hbx42
            have Hgx42 : Hid (w1.grownBy x42 (some g)) := gr_trans Hgx41.out (gr_below hbx42)
            obtain ⟨bx42, hbbx42⟩ : ∃ b, x41.heap.size = b := ⟨_, rfl⟩
            have hnex42 : bx42 ≠ g := by have := Hgx41.out.size; have e : x41.heap.size = x41.heap.size := rfl; omega
            rw [← hx42]
            rw [hbbx42] at Htx42
            simp only [hbbx42]
            clear hx42 hbx42 hbbx42
            go_simp
            refine wpAny_take (i := 4) (v := .pointer (some ⟨bx42, v4, none⟩)) rfl (by kernel_rfl) (by kernel_rfl) (by kernel_rfl) (fun _ _ _ h => h) (Or.inl ⟨by rfl, ?_⟩) ?_
            · intro w
              go_simp
              all_goals omega
            go_simp
            refine wpAny_ready (rs := [5, 8]) (by kernel_rfl) (by simp) ?_
            refine AllReady.cons rfl (fun K hK => ?_) (AllReady.cons rfl (fun K hK => ?_) AllReady.nil)
            · obtain ⟨t4, hlt4, hzt4⟩ := Htx42.out v4 (by omega)
              go_simp
              refine hK _ _ ?_
              clear hK K
              go_simp
              refine wpAny_take (i := 6) (v := .string (t2 ++ t4)) rfl (by kernel_rfl) (by kernel_rfl) (by kernel_rfl) (fun _ _ _ h => h) (Or.inl ⟨by rfl, ?_⟩) ?_
              · intro w
                go_simp
                all_goals omega
              go_simp
              refine wpAny_ready (rs := [8]) (by kernel_rfl) (by simp) ?_
              refine AllReady.cons rfl (fun K hK => ?_) AllReady.nil
              · go_simp
                go_wp2_with fail
                refine (srcN g o c cp (a' + 1 + 1) z 82 x42 Hsx42.out (HC1.out.grown Hgx42.out (Nat.le_refl _)) (by omega) hl (by omega) (by omega)).mono ?_
                rintro e x43 ⟨v5, rfl, hv5, hsx43, hgx43⟩
                show K _ x43
                refine hK _ _ ?_
                clear hK K
                have Hsx43 : Hid (Src x43 g o c.length cp (a' + 1 + 1 + 1) z) := hsx43
                have Hgx43 : Hid (w1.grownBy x43 (some g)) := gr_trans Hgx42.out hgx43
                have hv5i : v5 < 82 := by omega
                have hw5 : IntKind.i64.wrap ((v5 : Int) - 1) = (v5 : Int) - 1 := wr64 _ (by omega) (by omega)
                clear hsx43 hgx43
                go_simp
                refine wpAny_take (i := 9) (v := .int .i64 ((v5 : Int) - 1)) rfl (by kernel_rfl) (by kernel_rfl) (by kernel_rfl) (fun _ _ _ h => h) (Or.inl ⟨by rfl, ?_⟩) ?_
                · intro w
                  go_simp
                  all_goals omega
                go_simp
                refine wpAny_take (i := 10) (v := .string (t2 ++ t4)) rfl (by kernel_rfl) (by kernel_rfl) (by kernel_rfl) (fun _ _ _ h => h) (Or.inl ⟨by rfl, ?_⟩) ?_
                · intro w
                  go_simp
                  all_goals omega
                go_simp
                refine wpAny_take (i := 11) (v := .int .i64 ((v5 : Int) - 1)) rfl (by kernel_rfl) (by kernel_rfl) (by kernel_rfl) (fun _ _ _ h => h) (Or.inl ⟨by rfl, ?_⟩) ?_
                · intro w
                  go_simp
                  all_goals omega
                go_simp
                refine wpAny_done (by kernel_rfl) ?_ _
                go_wp2
                refine bodyPost_ret (v := .tuple #[.string (t2 ++ t4), .int .i64 ((v5 : Int) - 1)]) (by simp [results, Try.results10, go_sem]) rfl ⟨_, _, rfl, (by rw [ByteArray.size_append]; omega), by omega, by omega, ?_⟩
                have hfin := gr_new2 (g := g) (by rw [hgw]; exact Hb1.out) Hgx43.out (by omega)
                rw [hgw] at hfin
                exact hfin
            · go_simp
              go_wp2_with fail
              refine (srcN g o c cp (a' + 1 + 1) z 82 x42 Hsx42.out (HC1.out.grown Hgx42.out (Nat.le_refl _)) (by omega) hl (by omega) (by omega)).mono ?_
              rintro e x44 ⟨v5, rfl, hv5, hsx44, hgx44⟩
              show K _ x44
              refine hK _ _ ?_
              clear hK K
              have Hsx44 : Hid (Src x44 g o c.length cp (a' + 1 + 1 + 1) z) := hsx44
              have Hgx44 : Hid (w1.grownBy x44 (some g)) := gr_trans Hgx42.out hgx44
              have hv5i : v5 < 82 := by omega
              have hw5 : IntKind.i64.wrap ((v5 : Int) - 1) = (v5 : Int) - 1 := wr64 _ (by omega) (by omega)
              have Htx44 : Hid (Tb x44 bx42 3 3) := Tb.gr Htx42.out hgx44 hnex42
              clear hsx44 hgx44
              go_simp
              refine wpAny_take (i := 9) (v := .int .i64 ((v5 : Int) - 1)) rfl (by kernel_rfl) (by kernel_rfl) (by kernel_rfl) (fun _ _ _ h => h) (Or.inl ⟨by rfl, ?_⟩) ?_
              · intro w
                go_simp
                all_goals omega
              go_simp
              refine wpAny_ready (rs := [5]) (by kernel_rfl) (by simp) ?_
              refine AllReady.cons rfl (fun K hK => ?_) AllReady.nil
              · obtain ⟨t4, hlt4, hzt4⟩ := Htx44.out v4 (by omega)
                go_simp
                refine hK _ _ ?_
                clear hK K
                go_simp
                refine wpAny_take (i := 6) (v := .string (t2 ++ t4)) rfl (by kernel_rfl) (by kernel_rfl) (by kernel_rfl) (fun _ _ _ h => h) (Or.inl ⟨by rfl, ?_⟩) ?_
                · intro w
                  go_simp
                  all_goals omega
                go_simp
                refine wpAny_take (i := 10) (v := .string (t2 ++ t4)) rfl (by kernel_rfl) (by kernel_rfl) (by kernel_rfl) (fun _ _ _ h => h) (Or.inl ⟨by rfl, ?_⟩) ?_
                · intro w
                  go_simp
                  all_goals omega
                go_simp
                refine wpAny_take (i := 11) (v := .int .i64 ((v5 : Int) - 1)) rfl (by kernel_rfl) (by kernel_rfl) (by kernel_rfl) (fun _ _ _ h => h) (Or.inl ⟨by rfl, ?_⟩) ?_
                · intro w
                  go_simp
                  all_goals omega
                go_simp
                refine wpAny_done (by kernel_rfl) ?_ _
                go_wp2
                refine bodyPost_ret (v := .tuple #[.string (t2 ++ t4), .int .i64 ((v5 : Int) - 1)]) (by simp [results, Try.results10, go_sem]) rfl ⟨_, _, rfl, (by rw [ByteArray.size_append]; omega), by omega, by omega, ?_⟩
                have hfin := gr_new2 (g := g) (by rw [hgw]; exact Hb1.out) Hgx44.out (by omega)
                rw [hgw] at hfin
                exact hfin
          · go_simp
            go_wp2_with fail
            refine (srcN g o c cp (a' + 1 + 1) z 82 x41 Hsx41.out (HC1.out.grown Hgx41.out (Nat.le_refl _)) (by omega) hl (by omega) (by omega)).mono ?_
            rintro e x45 ⟨v5, rfl, hv5, hsx45, hgx45⟩
            show K _ x45
            refine hK _ _ ?_
            clear hK K
            have Hsx45 : Hid (Src x45 g o c.length cp (a' + 1 + 1 + 1) z) := hsx45
            have Hgx45 : Hid (w1.grownBy x45 (some g)) := gr_trans Hgx41.out hgx45
            have hv5i : v5 < 82 := by omega
            have hw5 : IntKind.i64.wrap ((v5 : Int) - 1) = (v5 : Int) - 1 := wr64 _ (by omega) (by omega)
            clear hsx45 hgx45
            go_simp
            refine wpAny_take (i := 9) (v := .int .i64 ((v5 : Int) - 1)) rfl (by kernel_rfl) (by kernel_rfl) (by kernel_rfl) (fun _ _ _ h => h) (Or.inl ⟨by rfl, ?_⟩) ?_
            · intro w
              go_simp
              all_goals omega
            go_simp
            refine wpAny_ready (rs := [1]) (by kernel_rfl) (by simp) ?_
            refine AllReady.cons rfl (fun K hK => ?_) AllReady.nil
            · go_simp
              refine hK _ _ ?_
              clear hK K
              obtain ⟨x46, hx46⟩ : ∃ x46, x46 = (x45.alloc (.cells #[.string ⟨#[]⟩, .string ⟨#[32, 32, 32]⟩, .string ⟨#[32]⟩] 9)) := ⟨_, rfl⟩
              have hbx46 : Below x45.heap.size x45 x46 := by rw [hx46]; exact (Below.refl _ _).alloc (Nat.le_refl _) _
              have Htx46 : Hid (Tb x46 x45.heap.size 3 3) := by rw [hx46]; exact fun v hv => Tb.made (w := x45) (cs := #[.string ⟨#[]⟩, .string ⟨#[32, 32, 32]⟩, .string ⟨#[32]⟩]) rfl (by decide) v hv
              have Hsx46 : Hid (Src x46 g o c.length cp (a' + 1 + 1 + 1) z) := Hsx45.out.below hbx46
              have Hgx46 : Hid (w1.grownBy x46 (some g)) := gr_trans Hgx45.out (gr_below hbx46)
              obtain ⟨bx46, hbbx46⟩ : ∃ b, x45.heap.size = b := ⟨_, rfl⟩
              have hnex46 : bx46 ≠ g := by have := Hgx45.out.size; have e : x45.heap.size = x45.heap.size := rfl; omega
              rw [← hx46]
              rw [hbbx46] at Htx46
              simp only [hbbx46]
              clear hx46 hbx46 hbbx46
              go_simp
              refine wpAny_take (i := 4) (v := .pointer (some ⟨bx46, v4, none⟩)) rfl (by kernel_rfl) (by kernel_rfl) (by kernel_rfl) (fun _ _ _ h => h) (Or.inl ⟨by rfl, ?_⟩) ?_
              · intro w
                go_simp
                all_goals omega
              go_simp
              refine wpAny_ready (rs := [5]) (by kernel_rfl) (by simp) ?_
              refine AllReady.cons rfl (fun K hK => ?_) AllReady.nil
              · obtain ⟨t4, hlt4, hzt4⟩ := Htx46.out v4 (by omega)
                go_simp
                refine hK _ _ ?_
                clear hK K
                go_simp
                refine wpAny_take (i := 6) (v := .string (t2 ++ t4)) rfl (by kernel_rfl) (by kernel_rfl) (by kernel_rfl) (fun _ _ _ h => h) (Or.inl ⟨by rfl, ?_⟩) ?_
                · intro w
                  go_simp
                  all_goals omega
                go_simp
                refine wpAny_take (i := 10) (v := .string (t2 ++ t4)) rfl (by kernel_rfl) (by kernel_rfl) (by kernel_rfl) (fun _ _ _ h => h) (Or.inl ⟨by rfl, ?_⟩) ?_
                · intro w
                  go_simp
                  all_goals omega
                go_simp
                refine wpAny_take (i := 11) (v := .int .i64 ((v5 : Int) - 1)) rfl (by kernel_rfl) (by kernel_rfl) (by kernel_rfl) (fun _ _ _ h => h) (Or.inl ⟨by rfl, ?_⟩) ?_
                · intro w
                  go_simp
                  all_goals omega
                go_simp
                refine wpAny_done (by kernel_rfl) ?_ _
                go_wp2
                refine bodyPost_ret (v := .tuple #[.string (t2 ++ t4), .int .i64 ((v5 : Int) - 1)]) (by simp [results, Try.results10, go_sem]) rfl ⟨_, _, rfl, (by rw [ByteArray.size_append]; omega), by omega, by omega, ?_⟩
                have hfin := gr_new2 (g := g) (by rw [hgw]; exact Hb1.out) Hgx46.out (by omega)
                rw [hgw] at hfin
                exact hfin
end Go.Proofs.Ytffjgcpiamgejaa
