
/- SignerFault, the specification's side. -/
import Derived.Test.YtgabjiamabbheaaGreatDoorSignBoth
namespace Go.Proofs.YtgabjiamabbheaaGreatDoor
open Go.RowKit Go.Lib
set_option maxRecDepth 10000 in
set_option maxHeartbeats 4000000 in
theorem specSigner (d s : ByteArray) (A B h b : Int) (o : Option Addr) (F : List ByteArray) (cap : Nat) (w : World) (hd : d.size ≤ 1048576) (hs : s.size ≤ 1048576) (hF : Tx w.heap.size w o F) (hlen : F.length ≤ 1048576) (hsz : ∀ t ∈ F, t.size ≤ 1048576) :
    Calls Tryz.prog 12 #[sgV d s A B (.slice o F.length cap) h b] w fun e w' => e = .returned (.int .i64 (dcode (signerOk d s A B F h b))) ∧ Below w.heap.size w w' := by
  obtain ⟨W, hW⟩ : ∃ W, W = w.alloc (.cells #[.string d, .string s, .int .i64 A, .int .i64 B, .slice o F.length cap, .int .i64 h, .int .i64 b] 31) := ⟨_, rfl⟩
  have hbA : Below w.heap.size w W := by rw [hW]; exact (Below.refl _ _).alloc (Nat.le_refl _) _
  have hk0 : W.heap[w.heap.size]? = some (.cells #[.string d, .string s, .int .i64 A, .int .i64 B, .slice o F.length cap, .int .i64 h, .int .i64 b] 31 (0, 0)) := by rw [hW]; exact heap_alloc_at _ _
  have hD := specSignDomain d W (by omega)
  have hS := fun w => specSelector s w (by omega)
  have hK := fun w => specKey d s A B w
  have HF : Hid (Tx w.heap.size w o F) := hF
  have Hsz : Hid (∀ t ∈ F, t.size ≤ 1048576) := hsz
  clear hF hsz
  unfold signerOk
  generalize Pl.domOk d.data.toList = b1 at *
  generalize Pl.selOk s.data.toList = b2 at *
  generalize keyOk A B = b3 at *
  obtain ⟨R, hR⟩ : ∃ R, F.all nameB = R := ⟨_, rfl⟩
  have HR : Hid ((F.drop 0).all nameB = R) := hR
  rw [hR]
  clear hR
  obtain ⟨r, hr⟩ : ∃ r, dcode (b1 && (b2 && (b3 && (decide (h = 0 ∨ h = 1) && (decide (b = 0 ∨ b = 1) && (decide (1 ≤ F.length) && (decide (F.length ≤ 30) && R))))))) = r := ⟨_, rfl⟩
  have Hr : Hid (dcode (b1 && (b2 && (b3 && (decide (h = 0 ∨ h = 1) && (decide (b = 0 ∨ b = 1) && (decide (1 ≤ F.length) && (decide (F.length ≤ 30) && R))))))) = r) := hr
  rw [hr]
  clear hr
  go_enter Tryz.func12, Tryz.ntmps12
  go_wp2_with fail
  rw [← hW]
  refine hD.mono ?_
  rintro e w2 ⟨rfl, hb2⟩
  have hk2 := (hb2.block _ (heap_lt hk0)).trans hk0
  have hB2 := hbA.trans (hb2.mono hbA.size)
  obtain ⟨c0, c1, c2, c3, c4, c5, c6⟩ := sg_cells hk2
  clear hD hb2 hk0 hbA hW
  cases b1
  · go_wp2
    go_ret
    exact ⟨by rw [← Hr.out]; rfl, hB2⟩
  · go_wp2_with fail
    refine (hS _).mono ?_
    rintro e w3 ⟨rfl, rfl⟩
    cases b2
    · go_wp2
      go_ret
      exact ⟨by rw [← Hr.out]; rfl, hB2⟩
    · go_wp2_with fail
      refine (hK _).mono ?_
      rintro e w3 ⟨rfl, hb3⟩
      have hk3 := (hb3.block _ (heap_lt hk2)).trans hk2
      have hB3 := hB2.trans (hb3.mono hB2.size)
      clear c0 c1 c2 c3 c4 c5 c6 hk2 hB2 hb3 hS hK
      obtain ⟨c0, c1, c2, c3, c4, c5, c6⟩ := sg_cells hk3
      have HFT : Hid (Tx w3.heap.size w3 o F) := (HF.out.below hB3).mono hB3.size
      have HB3 : Hid (Below w.heap.size w w3) := hB3
      clear HF hB3 hk3
      cases b3
      · go_wp2
        go_ret
        exact ⟨by rw [← Hr.out]; rfl, HB3.out⟩
      · by_cases hh : h = 0 ∨ h = 1
        · have Hh : Hid (h = 0 ∨ h = 1) := hh
          have g1 : ¬ h < 0 := by omega
          have g2 : ¬ 1 < h := by omega
          clear hh
          by_cases hb : b = 0 ∨ b = 1
          · have Hb : Hid (b = 0 ∨ b = 1) := hb
            have g3 : ¬ b < 0 := by omega
            have g4 : ¬ 1 < b := by omega
            clear hb
            by_cases h1 : 1 ≤ F.length
            · have H1 : Hid (1 ≤ F.length) := h1
              by_cases h2 : F.length ≤ 30
              · have H2 : Hid (F.length ≤ 30) := h2
                obtain ⟨V, hV⟩ : ∃ V, V = w3 := ⟨_, rfl⟩
                subst hV
                go_wp2
                go_loopw [3] (fun i wr => ∃ k : Nat, k ≤ F.length ∧ i = .int .i64 k ∧ Hid ((F.drop k).all nameB = R) ∧ wr = V) (fun i _ => F.length - (Lib.intOf i).toNat)
                case atStart => exact ⟨0, Nat.zero_le _, rfl, HR, rfl⟩
                case round =>
                  clear HR
                  obtain ⟨k, hk, rfl, hp, rfl⟩ := hrel
                  by_cases hlt : k < F.length
                  · obtain ⟨a, rfl, ha, hc0⟩ := HFT.out k hlt
                    have hst := Pl.all_stepT nameB F k hlt
                    rw [hp.out] at hst
                    have hzk := Hsz.out _ (List.getElem_mem hlt)
                    have hN := fun w => specName F[k] w (by omega)
                    have hA := fun w => specApart F[k] w (by omega)
                    have hNB : nameB F[k] = (Pl.nameOk F[k].data.toList && Pl.apart F[k].data.toList) := Pl.sName_eq _
                    rw [hNB] at hst
                    have Hst : Hid (R = ((Pl.nameOk F[k].data.toList && Pl.apart F[k].data.toList) && (F.drop (k + 1)).all nameB)) := hst
                    clear hst hp hNB hzk
                    generalize Pl.nameOk F[k].data.toList = n1 at *
                    generalize Pl.apart F[k].data.toList = n2 at *
                    generalize F[k] = f at *
                    cases n1
                    · have hR : R = false := by rw [Hst.out, Bool.false_and, Bool.false_and]
                      subst hR
                      clear Hst hA
                      go_wp2_with fail
                      refine (hN _).mono ?_
                      rintro e w4 ⟨rfl, rfl⟩
                      go_wp2
                      go_ret
                      exact ⟨by rw [← Hr.out, decide_eq_true Hh.out, decide_eq_true Hb.out, decide_eq_true H1.out, decide_eq_true H2.out]; rfl, HB3.out⟩
                    · cases n2
                      · have hR : R = false := by rw [Hst.out, Bool.and_false, Bool.false_and]
                        subst hR
                        clear Hst
                        go_wp2_with fail
                        refine (hN _).mono ?_
                        rintro e w4 ⟨rfl, rfl⟩
                        go_wp2_with fail
                        refine (hA _).mono ?_
                        rintro e w4 ⟨rfl, rfl⟩
                        go_wp2
                        go_ret
                        exact ⟨by rw [← Hr.out, decide_eq_true Hh.out, decide_eq_true Hb.out, decide_eq_true H1.out, decide_eq_true H2.out]; rfl, HB3.out⟩
                      · have HN : Hid ((F.drop (k + 1)).all nameB = R) := by show _ = _; rw [Hst.out, Bool.true_and, Bool.true_and]
                        clear Hst
                        go_wp2_with fail
                        refine (hN _).mono ?_
                        rintro e w4 ⟨rfl, rfl⟩
                        go_wp2_with fail
                        refine (hA _).mono ?_
                        rintro e w4 ⟨rfl, rfl⟩
                        go_wp2
                        go_roundw
                        case rel => exact ⟨k + 1, by omega, by go_num, HN, trivial⟩
                        case measure => simp [Lib.intOf]; omega
                  · have hR : R = true := by rw [← hp.out, List.drop_eq_nil_of_le (by omega)]; rfl
                    subst hR
                    clear hp
                    go_wp2
                    go_ret
                    exact ⟨by rw [← Hr.out, decide_eq_true Hh.out, decide_eq_true Hb.out, decide_eq_true H1.out, decide_eq_true H2.out]; rfl, HB3.out⟩
              · have H2 : Hid (¬ F.length ≤ 30) := h2
                go_wp2
                go_ret
                exact ⟨by rw [← Hr.out, decide_eq_true Hh.out, decide_eq_true Hb.out, decide_eq_true H1.out, decide_eq_false H2.out]; rfl, HB3.out⟩
            · have H1 : Hid (¬ 1 ≤ F.length) := h1
              go_wp2
              go_ret
              exact ⟨by rw [← Hr.out, decide_eq_true Hh.out, decide_eq_true Hb.out, decide_eq_false H1.out]; rfl, HB3.out⟩
          · have Hb : Hid (¬ (b = 0 ∨ b = 1)) := hb
            by_cases g3 : b < 0
            · clear hb
              go_wp2
              go_ret
              exact ⟨by rw [← Hr.out, decide_eq_true Hh.out, decide_eq_false Hb.out]; rfl, HB3.out⟩
            · have g4 : 1 < b := by omega
              clear hb
              go_wp2
              go_ret
              exact ⟨by rw [← Hr.out, decide_eq_true Hh.out, decide_eq_false Hb.out]; rfl, HB3.out⟩
        · have Hh : Hid (¬ (h = 0 ∨ h = 1)) := hh
          by_cases g1 : h < 0
          · clear hh
            go_wp2
            go_ret
            exact ⟨by rw [← Hr.out, decide_eq_false Hh.out]; rfl, HB3.out⟩
          · have g2 : 1 < h := by omega
            clear hh
            go_wp2
            go_ret
            exact ⟨by rw [← Hr.out, decide_eq_false Hh.out]; rfl, HB3.out⟩
end Go.Proofs.YtgabjiamabbheaaGreatDoor
