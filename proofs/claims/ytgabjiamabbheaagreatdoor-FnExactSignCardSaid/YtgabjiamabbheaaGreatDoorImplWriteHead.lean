
/- The walk of the program's WriteHead. -/
import Derived.Test.YtgabjiamabbheaaGreatDoorWriteHead
namespace Go.Proofs.YtgabjiamabbheaaGreatDoor
open Go.RowKit Go.Lib
set_option maxRecDepth 20000 in
theorem Own.keepb {B : Nat} {v : Value} {p : List UInt8} {w w' : World} (h : Own B v p w) (hb : Below w.heap.size w w') : Own B v p w' := by
  obtain ⟨h1, h2⟩ := h
  refine ⟨h1, ?_⟩
  rcases h2 with h2 | ⟨g, cap, cur, e1, e2, e3, e4⟩
  · exact .inl h2
  · refine .inr ⟨g, cap, cur, e1, e2, ?_, e4⟩
    have hlt : g < w.heap.size := by
      by_cases hg : g < w.heap.size
      · exact hg
      · rw [Array.getElem?_eq_none (by omega)] at e3; cases e3
    rw [hb.block g hlt]
    exact e3
set_option maxHeartbeats 2000000 in
set_option maxRecDepth 40000 in
theorem implWriteHead (o : Option Addr) (F : List Fd) (cap : Nat) (w : World) (hF : Fld w.heap.size w o F) (hlen : F.length ≤ 200) (hsz : ∀ f ∈ F, f.1.size ≤ 1048576 ∧ f.2.size ≤ 1048576) :
    Calls Tryz.prog 68 #[.slice o F.length cap] w fun e w' => e = .returned (.string ⟨(Pl.hd [] F).toArray⟩) ∧ Below w.heap.size w w' := by
  obtain ⟨i0, hi, hy0, hy1, hy2⟩ := info_parts Tryz.info5
  have HF : Hid (Fld w.heap.size w o F) := hF
  have Hsz : Hid (∀ f ∈ F, f.1.size ≤ 1048576 ∧ f.2.size ≤ 1048576) := hsz
  clear hF hsz
  go_enter Tryz.func68, Tryz.ntmps68
  go_wp2
  go_loopw [3, 5, 11] (fun v _ i wr => ∃ (k : Nat) (p : List UInt8), k ≤ F.length ∧ i = .int .i64 k ∧ p.length ≤ 100000 ∧ Hid (Pl.hd p (F.drop k) = Pl.hd [] F) ∧ Own w.heap.size v p wr ∧ Below w.heap.size w wr) (fun _ _ i _ => F.length - (Lib.intOf i).toNat)
  case atStart => exact ⟨0, [], Nat.zero_le _, rfl, by simp, rfl, Own.nil _ _, Below.refl _ _⟩
  case round =>
    obtain ⟨k, p, hk, rfl, hpl, hp, hown, hb⟩ := hrel
    by_cases hlt : k < F.length
    · obtain ⟨a, rfl, ha, hc0, hc1⟩ := (HF.out.below hb) k hlt
      obtain ⟨hs0, hs1⟩ := Hsz.out F[k] (List.getElem_mem _)
      have Hbad : Hid (Pl.okF F[k] = false → Pl.hd [] F = []) := show _ → _ from fun h => Pl.hd_bad p _ F k hlt h hp.out
      have Hlong : Hid (Pl.okF F[k] = true → 100000 < (p ++ Pl.line F[k]).length → Pl.hd [] F = []) := show _ → _ → _ from fun h hl => Pl.hd_long p _ F k hlt h hl hp.out
      have Hstep : Hid (Pl.okF F[k] = true → ¬ 100000 < (p ++ Pl.line F[k]).length → Pl.hd (p ++ Pl.line F[k]) (F.drop (k + 1)) = Pl.hd [] F) := show _ → _ → _ from fun h hl => Pl.hd_step p _ F k hlt h hl hp.out
      clear hp
      generalize F[k] = f at hc0 hc1 hs0 hs1 Hbad Hlong Hstep
      obtain ⟨n, v⟩ := f
      dsimp only at hc0 hc1 hs0 hs1
      have hct := fun w => implTooLong v w (by omega)
      have hcn := fun w => implFieldName n w (by omega)
      have hcv := fun w => implFieldValue v w (by omega)
      have hbs := hb.size
      by_cases hA : 100000 < v.size
      · have hE : Hid (Pl.hd [] F = []) := Hbad.out (Pl.okF_size _ (by dsimp only; omega))
        clear Hbad Hlong Hstep
        rw [decide_eq_true (show (100000 : Int) < v.size by omega)] at hct
        go_wp2_with (go_at_call 47; go_must (refine (hct _).mono ?_; rintro e wx ⟨rfl, rfl⟩))
        go_ret
        exact ⟨by rw [hE.out]; rfl, hb.alloc hbs _⟩
      · rw [decide_eq_false (show ¬ (100000 : Int) < v.size by omega)] at hct
        have hownA := hown.alloc (.cells #[.string n, .string v] 51)
        have hbA := hb.alloc hbs (.cells #[.string n, .string v] 51)
        have hfvA : (wr.alloc (.cells #[.string n, .string v] 51)).heap[wr.heap.size]? = some (.cells #[.string n, .string v] 51 (0, 0)) := heap_alloc_at _ _
        cases hN : Pl.nameOk n.data.toList
        · have hE : Hid (Pl.hd [] F = []) := Hbad.out (Pl.okF_name _ hN)
          simp only [hN] at hcn
          clear Hbad Hlong Hstep hN
          go_wp2_with (first | (go_at_call 47; go_must (refine (hct _).mono ?_; rintro e wx ⟨rfl, rfl⟩)) | (go_at_call 96; go_must (refine (hcn _).mono ?_; rintro e wx ⟨rfl, rfl⟩)))
          go_ret
          exact ⟨by rw [hE.out]; rfl, hb.alloc hbs _⟩
        · cases hV : Pl.val v.data.toList
          · have hE : Hid (Pl.hd [] F = []) := Hbad.out (Pl.okF_val _ hV)
            simp only [hN] at hcn
            simp only [hV] at hcv
            clear Hbad Hlong Hstep hN hV
            go_wp2_with (first | (go_at_call 47; go_must (refine (hct _).mono ?_; rintro e wx ⟨rfl, rfl⟩)) | (go_at_call 96; go_must (refine (hcn _).mono ?_; rintro e wx ⟨rfl, rfl⟩)) | (go_at_call 97; go_must (refine (hcv _).mono ?_; rintro e w5 ⟨rfl, hb5⟩; have hownA5 := Own.keepb (show Own w.heap.size u3 p _ from hownA) hb5; have hbA5 := hbA.trans (hb5.mono hbA.size); have hf5 := (hb5.block wr.heap.size (by simp)).trans hfvA; obtain ⟨hk0, hk1⟩ := var_cells hf5)))
            go_ret
            exact ⟨by rw [hE.out]; rfl, hbA5⟩
          · have hok : Pl.okF (n, v) = true := Pl.okF_mk _ (by dsimp only; omega) hN hV
            have hn7 := Pl.nameOk_size n hN
            simp only [hN] at hcn
            simp only [hV] at hcv
            clear hN hV Hbad
            have hll := Pl.line_len (n, v)
            dsimp only at hll
            by_cases hT : 100000 < p.length + n.size + v.size + 3
            · have hE : Hid (Pl.hd [] F = []) := Hlong.out hok (by rw [List.length_append, hll]; omega)
              clear Hlong Hstep hok
              go_wp2_with (first | (go_at_call 47; go_must (refine (hct _).mono ?_; rintro e wx ⟨rfl, rfl⟩)) | (go_at_call 96; go_must (refine (hcn _).mono ?_; rintro e wx ⟨rfl, rfl⟩)) | (go_at_call 97; go_must (refine (hcv _).mono ?_; rintro e w5 ⟨rfl, hb5⟩; have hownA5 := Own.keepb (show Own w.heap.size u3 p _ from hownA) hb5; have hbA5 := hbA.trans (hb5.mono hbA.size); have hf5 := (hb5.block wr.heap.size (by simp)).trans hfvA; obtain ⟨hk0, hk1⟩ := var_cells hf5)) | (at_builtin; go_must (first | (refine wp_apps_v (W := w) rfl _ _ 69 9 rfl i0 Tryz.underlying69 Tryz.underlying9 hi hy0 hy1 hy2 w.heap.size v3 (p ++ n.data.toList ++ [58] ++ v.data.toList) rfl hown3 ⟨#[13, 10]⟩ rfl (by rw [show (ByteArray.mk #[13, 10]).size = 2 from rfl]; simp; omega) (Nat.le_refl _) hb3 wr.heap.size _ 51 (0, 0) (by decide) hf3 ?_; intro v4 w4 hown4 hb4 hf4; obtain ⟨g4, cap4, L, rfl, hL⟩ := hown4.some_len (by simp; omega); have hLd : decide ((100000 : Int) < (L : Int)) = true := (by have e := hL; simp only [List.length_append, List.length_cons, List.length_nil, Pl.len_list] at e; first | exact decide_eq_true (by omega) | exact decide_eq_false (by omega)); clear hL) | (refine wp_apps_v (W := w) rfl _ _ 69 9 rfl i0 Tryz.underlying69 Tryz.underlying9 hi hy0 hy1 hy2 w.heap.size v2 (p ++ n.data.toList ++ [58]) rfl hown2 v rfl (by simp; omega) (Nat.le_refl _) hb2 wr.heap.size _ 51 (0, 0) (by decide) hf2 ?_; intro v3 w3 hown3 hb3 hf3) | (refine wp_app_v (W := w) rfl _ _ 69 rfl i0 Tryz.underlying69 hi hy0 hy1 hy2 w.heap.size v1 (p ++ n.data.toList) rfl hown1 _ [58] rfl 1 1 rfl rfl (by simp; omega) (Nat.le_refl _) hb1 wr.heap.size _ 51 (0, 0) (by decide) hf1 ?_; intro v2 w2 hown2 hb2 hf2; obtain ⟨he0, he1⟩ := var_cells hf2) | (refine wp_apps_v (W := w) rfl _ _ 69 9 rfl i0 Tryz.underlying69 Tryz.underlying9 hi hy0 hy1 hy2 w.heap.size u3 p rfl hownA5 n rfl (by omega) (Nat.le_refl _) hbA5 wr.heap.size _ 51 (0, 0) (by decide) hf5 ?_; intro v1 w1 hown1 hb1 hf1; obtain ⟨hd0, hd1⟩ := var_cells hf1))))
              go_ret
              exact ⟨by rw [hE.out]; rfl, hb4⟩
            · have hE : Hid (Pl.hd (p ++ n.data.toList ++ [58] ++ v.data.toList ++ [13, 10]) (F.drop (k + 1)) = Pl.hd [] F) := show _ = _ from by
                have := Hstep.out hok (by rw [List.length_append, hll]; omega)
                rw [← this]
                simp [Pl.line]
              clear Hlong Hstep hok
              go_wp2_with (first | (go_at_call 47; go_must (refine (hct _).mono ?_; rintro e wx ⟨rfl, rfl⟩)) | (go_at_call 96; go_must (refine (hcn _).mono ?_; rintro e wx ⟨rfl, rfl⟩)) | (go_at_call 97; go_must (refine (hcv _).mono ?_; rintro e w5 ⟨rfl, hb5⟩; have hownA5 := Own.keepb (show Own w.heap.size u3 p _ from hownA) hb5; have hbA5 := hbA.trans (hb5.mono hbA.size); have hf5 := (hb5.block wr.heap.size (by simp)).trans hfvA; obtain ⟨hk0, hk1⟩ := var_cells hf5)) | (at_builtin; go_must (first | (refine wp_apps_v (W := w) rfl _ _ 69 9 rfl i0 Tryz.underlying69 Tryz.underlying9 hi hy0 hy1 hy2 w.heap.size v3 (p ++ n.data.toList ++ [58] ++ v.data.toList) rfl hown3 ⟨#[13, 10]⟩ rfl (by rw [show (ByteArray.mk #[13, 10]).size = 2 from rfl]; simp; omega) (Nat.le_refl _) hb3 wr.heap.size _ 51 (0, 0) (by decide) hf3 ?_; intro v4 w4 hown4 hb4 hf4; obtain ⟨g4, cap4, L, rfl, hL⟩ := hown4.some_len (by simp; omega); have hLd : decide ((100000 : Int) < (L : Int)) = false := (by have e := hL; simp only [List.length_append, List.length_cons, List.length_nil, Pl.len_list] at e; first | exact decide_eq_true (by omega) | exact decide_eq_false (by omega)); clear hL) | (refine wp_apps_v (W := w) rfl _ _ 69 9 rfl i0 Tryz.underlying69 Tryz.underlying9 hi hy0 hy1 hy2 w.heap.size v2 (p ++ n.data.toList ++ [58]) rfl hown2 v rfl (by simp; omega) (Nat.le_refl _) hb2 wr.heap.size _ 51 (0, 0) (by decide) hf2 ?_; intro v3 w3 hown3 hb3 hf3) | (refine wp_app_v (W := w) rfl _ _ 69 rfl i0 Tryz.underlying69 hi hy0 hy1 hy2 w.heap.size v1 (p ++ n.data.toList) rfl hown1 _ [58] rfl 1 1 rfl rfl (by simp; omega) (Nat.le_refl _) hb1 wr.heap.size _ 51 (0, 0) (by decide) hf1 ?_; intro v2 w2 hown2 hb2 hf2; obtain ⟨he0, he1⟩ := var_cells hf2) | (refine wp_apps_v (W := w) rfl _ _ 69 9 rfl i0 Tryz.underlying69 Tryz.underlying9 hi hy0 hy1 hy2 w.heap.size u3 p rfl hownA5 n rfl (by omega) (Nat.le_refl _) hbA5 wr.heap.size _ 51 (0, 0) (by decide) hf5 ?_; intro v1 w1 hown1 hb1 hf1; obtain ⟨hd0, hd1⟩ := var_cells hf1))))
              go_roundw
              case rel => exact ⟨k + 1, _, by omega, by go_num, by simp; omega, hE, hown4, hb4⟩
              case measure => simp [Lib.intOf]; omega
    · have hpn : Hid (Pl.hd [] F = p) := show _ = _ from Pl.hd_done p _ F k (by omega) hp.out
      clear hp
      have hbk := hown.back (P := Tryz.prog) 69 9 Tryz.underlying69 Tryz.underlying5 Tryz.underlying9
      go_wp2
      go_ret
      rw [hpn.out]
      exact ⟨rfl, hb⟩
end Go.Proofs.YtgabjiamabbheaaGreatDoor
