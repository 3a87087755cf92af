
/- FnExactSign: the law's walk. -/
import Derived.Test.YtgabjiamabbheaaGreatDoorSgImplSign
import Derived.Test.YtgabjiamabbheaaGreatDoorSgSpecSign
import Derived.Test.YtgabjiamabbheaaGreatDoorSignProof
import Derived.OrdersHeld
namespace Go.Proofs.YtgabjiamabbheaaGreatDoor
open Go.RowKit Go.Lib Go.Maps
abbrev sgCs (d s : ByteArray) (A B : Int) (v : Value) (h b : Int) : Array Value := #[.string d, .string s, .int .i64 A, .int .i64 B, v, .int .i64 h, .int .i64 b]
set_option maxHeartbeats 8000000 in
set_option maxRecDepth 20000 in
theorem walkSign (msg d s : ByteArray) (A B h b m : Int) (o : Option Addr) (F : List ByteArray) (cap : Nat) (w : World) (hms : msg.size ≤ maxLen) (hd : d.size ≤ maxLen) (hs : s.size ≤ maxLen) (hF : Tx w.heap.size w o F) (hlen : F.length ≤ maxLen) (hsz : ∀ t ∈ F, t.size ≤ maxLen) (hm : w.cell? ⟨0, 0, none⟩ = some (.int .i64 m)) (hP : PTab w) :
    Calls Tryz.prog 3 #[.string msg, sgV d s A B (.slice o F.length cap) h b] w fun e w' => e = .returned (.bool true) ∧ Below w.heap.size w w' := by
  unfold maxLen at hms
  obtain ⟨W, hW⟩ : ∃ W, W = w.alloc (.cells #[.string d, .string s, .int .i64 A, .int .i64 B, .slice o F.length cap, .int .i64 h, .int .i64 b] 26) := ⟨_, rfl⟩
  have hbA : Below w.heap.size w W := by rw [hW]; exact (Below.refl _ _).alloc (Nat.le_refl _) _
  have hk0 : W.heap[w.heap.size]? = some (.cells #[.string d, .string s, .int .i64 A, .int .i64 B, .slice o F.length cap, .int .i64 h, .int .i64 b] 26 (0, 0)) := by rw [hW]; exact heap_alloc_at _ _
  by_cases hbig : msg.size ≤ 1048576
  rotate_left
  · have hx : decide ((1048576 : Int) < (msg.size : Int)) = true := decide_eq_true (by omega)
    have HbA := mkHid hbA
    have HW := mkHid hW
    clear hk0 hF hsz hm hP hbA hW
    go_enter Tryz.func3, Tryz.ntmps3
    go_wp2
    go_ret
    rw [← HW.out]
    exact ⟨rfl, HbA.out⟩
  have hx : decide ((1048576 : Int) < (msg.size : Int)) = false := decide_eq_false (by omega)
  have hZ := lawSzSigner d s A B h b o F cap W hd hs ((hF.below hbA).mono hbA.size) hlen hsz
  have HF : Hid (Tx w.heap.size w o F) := hF
  have Hm : Hid (w.cell? ⟨0, 0, none⟩ = some (.int .i64 m)) := hm
  have HP := mkHid hP
  have HZ := mkHid hZ
  clear hF hsz hm hP hZ
  go_enter Tryz.func3, Tryz.ntmps3
  go_wp2_with fail
  rw [← hW]
  refine HZ.out.mono ?_
  rintro e w2 ⟨r, rfl, hr, hb2⟩
  have hk2 := (hb2.block _ (heap_lt hk0)).trans hk0
  have hB2 := hbA.trans (hb2.mono hbA.size)
  obtain ⟨c0, c1, c2, c3, c4, c5, c6⟩ := sg_cells hk2
  clear HZ hb2 hk0 hbA hW
  rcases hr with rfl | ⟨hr0, hd2, hs2, hl2, hz2⟩
  · go_wp2
    go_ret
    exact ⟨rfl, hB2⟩
  · have HZ2 : Hid (∀ t ∈ F, t.size ≤ 1048576) := hz2
    have HTo := mkHid (fun (w : World) (hF : Tx w.heap.size w o F) => lawToSigner d s A B h b o F cap w hF hl2)
    have HSp := mkHid (fun (g : Nat) (w : World) (hF : Tx w.heap.size w (some ⟨g, 0, none⟩) F) => specSign msg d s A B h b (some ⟨g, 0, none⟩) F F.length w hbig hd2 hs2 hF hl2 hz2)
    have HIm := mkHid (fun (g : Nat) (w : World) (hF : Tx w.heap.size w (some ⟨g, 0, none⟩) F) (hm : w.cell? ⟨0, 0, none⟩ = some (.int .i64 m)) (hP : PTab w) => implSign msg d s A B h b g F F.length w m hm hP hbig hd2 hs2 hF hl2 (Nat.le_refl _) hz2)
    have hT2 := mkHid (HTo.out w2 ((HF.out.below hB2).mono hB2.size))
    clear hz2
    generalize plSign msg d s A B F h b = R at *
    go_wp2_with fail
    refine hT2.out.mono ?_
    rintro e w3 ⟨g1, rfl, HT3, hb3⟩
    have hk3 := (hb3.block _ (heap_lt hk2)).trans hk2
    have hB3 := hB2.trans (hb3.mono hB2.size)
    clear c0 c1 c2 c3 c4 c5 c6 hk2 hb3 hB2 hT2
    obtain ⟨c0, c1, c2, c3, c4, c5, c6⟩ := sg_cells hk3
    go_wp2_with fail
    refine (HSp.out g1 w3 HT3.out).mono ?_
    rintro e w4 ⟨rfl, hb4⟩
    have hk4 := (hb4.block _ (heap_lt hk3)).trans hk3
    have hB4 := hB3.trans (hb4.mono hB3.size)
    clear c0 c1 c2 c3 c4 c5 c6 hk3 hb4 hB3 HT3 HSp
    obtain ⟨c0, c1, c2, c3, c4, c5, c6⟩ := sg_cells hk4
    have hT4 := mkHid (HTo.out w4 ((HF.out.below hB4).mono hB4.size))
    go_wp2_with fail
    refine hT4.out.mono ?_
    rintro e w5 ⟨g2, rfl, HT5, hb5⟩
    have hk5 := (hb5.block _ (heap_lt hk4)).trans hk4
    have hB5 := hB4.trans (hb5.mono hB4.size)
    clear c0 c1 c2 c3 c4 c5 c6 hk4 hb5 hB4 hT4
    obtain ⟨W6, hW6⟩ : ∃ W6, W6 = w5.alloc (.cells #[.string d, .string s, .int .i64 A, .int .i64 B, .slice (some ⟨g2, 0, none⟩) F.length F.length, .int .i64 h, .int .i64 b] 31) := ⟨_, rfl⟩
    have hb6 : Below w5.heap.size w5 W6 := by rw [hW6]; exact (Below.refl _ _).alloc (Nat.le_refl _) _
    have hx6 : W6.heap[w5.heap.size]? = some (.cells #[.string d, .string s, .int .i64 A, .int .i64 B, .slice (some ⟨g2, 0, none⟩) F.length F.length, .int .i64 h, .int .i64 b] 31 (0, 0)) := by rw [hW6]; exact heap_alloc_at _ _
    have hk6 := (hb6.block _ (heap_lt hk5)).trans hk5
    have hB6 := hB5.trans (hb6.mono hB5.size)
    have HT6 : Hid (Tx W6.heap.size W6 (some ⟨g2, 0, none⟩) F) := (HT5.out.below hb6).mono hb6.size
    have hm6 := (hB6.cell (bcellS Hm.out)).trans Hm.out
    have hI6 := mkHid (HIm.out g2 W6 HT6.out hm6 (ptab_on HP.out (ptab_lt HP.out) hB6))
    clear hk5 hb6 HT5 HIm hm6
    go_wp2_with fail
    rw [← hW6]
    refine hI6.out.mono ?_
    rintro e w7 ⟨rfl, hb7⟩
    have hx7 := (hb7.block _ (heap_lt hx6)).trans hx6
    have hk7 := (hb7.block _ (heap_lt hk6)).trans hk6
    have hB7 := hB6.trans (hb7.mono hB6.size)
    have HT7 : Hid (Tx w7.heap.size w7 (some ⟨g2, 0, none⟩) F) := (HT6.out.below hb7).mono hb7.size
    obtain ⟨gx, hgx⟩ : ∃ gx, w5.heap.size = gx := ⟨_, rfl⟩
    obtain ⟨gw, hgw⟩ : ∃ gw, w.heap.size = gw := ⟨_, rfl⟩
    rw [hgx] at hx7 ⊢
    rw [hgw] at hk7
    have Hgw := mkHid hgw
    clear hk6 hx6 hb7 hB5 hB6 HT6 hI6 hW6 hgx
    obtain ⟨c0, c1, c2, c3, c4, c5, c6⟩ := sg_cells hk7
    obtain ⟨x0, x1, x2, x3, x4, x5, x6⟩ := sg_cells hx7
    have hT7 : Hid (∀ X, Below w7.heap.size w7 X → Calls Tryz.prog 6 #[sgV d s A B (.slice o F.length cap) h b] X fun e w' => ∃ g, e = .returned (sgV d s A B (.slice (some ⟨g, 0, none⟩) F.length F.length) h b) ∧ Hid (Tx w'.heap.size w' (some ⟨g, 0, none⟩) F) ∧ Below X.heap.size X w') := fun X hb => HTo.out X ((HF.out.below (hB7.trans (hb.mono hB7.size))).mono (hB7.trans (hb.mono hB7.size)).size)
    have HB7 := mkHid hB7
    have HX7 := mkHid hx7
    have HK7 := mkHid hk7
    have hne : (R.toList != R.toList) = false := by simp
    have hgl : gx < w7.heap.size := heap_lt hx7
    have hgl2 : gw < w7.heap.size := heap_lt hk7
    clear hx7 hk7 hB7
    rw [hgw]
    clear hgw
    go_wp2
    have HS : Hid (∀ X, Below w7.heap.size w7 X → (X.cell? ⟨gx, 0, none⟩ = some (.string d) ∧ X.cell? ⟨gx, 1, none⟩ = some (.string s) ∧ X.cell? ⟨gx, 2, none⟩ = some (.int .i64 A) ∧ X.cell? ⟨gx, 3, none⟩ = some (.int .i64 B) ∧ X.cell? ⟨gx, 4, none⟩ = some (.slice (some ⟨g2, 0, none⟩) F.length F.length) ∧ X.cell? ⟨gx, 5, none⟩ = some (.int .i64 h) ∧ X.cell? ⟨gx, 6, none⟩ = some (.int .i64 b)) ∧ (X.cell? ⟨gw, 0, none⟩ = some (.string d) ∧ X.cell? ⟨gw, 1, none⟩ = some (.string s) ∧ X.cell? ⟨gw, 2, none⟩ = some (.int .i64 A) ∧ X.cell? ⟨gw, 3, none⟩ = some (.int .i64 B) ∧ X.cell? ⟨gw, 4, none⟩ = some (.slice o F.length cap) ∧ X.cell? ⟨gw, 5, none⟩ = some (.int .i64 h) ∧ X.cell? ⟨gw, 6, none⟩ = some (.int .i64 b))) := fun X hb => ⟨sg_cells ((hb.block gx hgl).trans HX7.out), sg_cells ((hb.block gw hgl2).trans HK7.out)⟩
    have hS0 := HS.out w7 (Below.refl _ _)
    clear c0 c1 c2 c3 c4 c5 c6 x0 x1 x2 x3 x4 x5 x6
    refine wp_region_held (S := fun X => (X.cell? ⟨gx, 0, none⟩ = some (.string d) ∧ X.cell? ⟨gx, 1, none⟩ = some (.string s) ∧ X.cell? ⟨gx, 2, none⟩ = some (.int .i64 A) ∧ X.cell? ⟨gx, 3, none⟩ = some (.int .i64 B) ∧ X.cell? ⟨gx, 4, none⟩ = some (.slice (some ⟨g2, 0, none⟩) F.length F.length) ∧ X.cell? ⟨gx, 5, none⟩ = some (.int .i64 h) ∧ X.cell? ⟨gx, 6, none⟩ = some (.int .i64 b)) ∧ (X.cell? ⟨gw, 0, none⟩ = some (.string d) ∧ X.cell? ⟨gw, 1, none⟩ = some (.string s) ∧ X.cell? ⟨gw, 2, none⟩ = some (.int .i64 A) ∧ X.cell? ⟨gw, 3, none⟩ = some (.int .i64 B) ∧ X.cell? ⟨gw, 4, none⟩ = some (.slice o F.length cap) ∧ X.cell? ⟨gw, 5, none⟩ = some (.int .i64 h) ∧ X.cell? ⟨gw, 6, none⟩ = some (.int .i64 b))) (by kernel_rfl) ?_
    refine wpAnyH_take (i := 0) (v := .agg #[.string d, .string s, .int .i64 A, .int .i64 B, .slice (some ⟨g2, 0, none⟩) F.length F.length, .int .i64 h, .int .i64 b]) rfl (by kernel_rfl) (by kernel_rfl) (by kernel_rfl) (fun _ _ _ h => h) (Or.inl ⟨by rfl, ?_⟩) hS0 ?_
    · rintro w ⟨⟨s0, s1, s2, s3, s4, s5, s6⟩, t0, t1, t2, t3, t4, t5, t6⟩
      go_simp
    go_simp
    refine wpAnyH_take (i := 1) (v := .agg #[.string d, .string s, .int .i64 A, .int .i64 B, .slice o F.length cap, .int .i64 h, .int .i64 b]) rfl (by kernel_rfl) (by kernel_rfl) (by kernel_rfl) (fun _ _ _ h => h) (Or.inl ⟨by rfl, ?_⟩) hS0 ?_
    · rintro w ⟨⟨s0, s1, s2, s3, s4, s5, s6⟩, t0, t1, t2, t3, t4, t5, t6⟩
      go_simp
    go_simp
    refine wpAnyH_all (rs := [2]) (by kernel_rfl) (by simp) ?_
    intro q hq
    simp only [List.mem_cons, List.not_mem_nil, or_false] at hq
    subst hq
    refine wpOp_step rfl (fun K hK => ?_)
    go_simp
    refine (hT7.out _ (by first | exact Below.refl _ _ | exact belowDrew (Below.refl _ _))).mono ?_
    rintro e w8 ⟨g3, rfl, HT8, hb8'⟩
    have hb8 : Below w7.heap.size w7 w8 := ⟨hb8'.os, hb8'.tape, hb8'.output, hb8'.size, hb8'.block⟩
    refine hK _ _ ⟨HS.out _ hb8, ?_⟩
    clear hK K hb8'
    go_simp
    have HA8 : Hid (Tx w8.heap.size w8 (some ⟨g2, 0, none⟩) F) := (HT7.out.below hb8).mono hb8.size
    refine wpAnyH_all (rs := [3]) (by kernel_rfl) (by simp) ?_
    intro q hq
    simp only [List.mem_cons, List.not_mem_nil, or_false] at hq
    subst hq
    refine wpOp_step rfl (fun K hK => ?_)
    go_simp
    refine (lawEqSigner d s A B h b g2 g3 F F.length F.length w8 HA8.out HT8.out hl2).mono ?_
    rintro e w9 ⟨rfl, hb9⟩
    have hb79 := hb8.trans (hb9.mono hb8.size)
    have hS9 := HS.out _ hb79
    refine hK _ _ ⟨hS9, ?_⟩
    clear hK K
    go_simp
    refine wpAnyH_take (i := 4) (v := .bool false) rfl (by kernel_rfl) (by kernel_rfl) (by kernel_rfl) (fun _ _ _ h => h) (Or.inl ⟨by rfl, ?_⟩) hS9 ?_
    · rintro w ⟨⟨s0, s1, s2, s3, s4, s5, s6⟩, t0, t1, t2, t3, t4, t5, t6⟩
      go_simp
    go_simp
    refine wpAnyH_done (by kernel_rfl) ?_ _
    have hend := mkHid (HB7.out.trans (hb79.mono HB7.out.size))
    clear hS9 hS0 HS hb8 hb9 hb79
    go_wp2
    go_ret
    exact ⟨rfl, hend.out⟩
end Go.Proofs.YtgabjiamabbheaaGreatDoor
