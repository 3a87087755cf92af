
/- The program's frameSum and PutFrame. -/

/- The program's decoder in memory. -/

/- The program's decoder: a number, a text. -/

/- The program's walks with a decoder. -/
import Derived.Test.YtillilllceeonaaDoorSumImpl
namespace Go.Proofs.YtillilllceeonaaDoor
open Go.RowKit Go.Lib Go.Maps
/-- The sum of a frame's operation. -/
def frS (t : ByteArray) : Nat := Ps.sm 65539 1 t.data.toList
set_option maxRecDepth 20000 in
theorem frS_lt (t : ByteArray) : frS t < 2147483647 := Ps.sm_lt 65539 _ 1 (by decide)
set_option maxRecDepth 20000 in
theorem fieldSum (a b : Int) (w : World) : (Instr.field 70 (.agg #[.int .i64 a, .int .i64 b]) 0).run Tryd.prog w = .ok (.int .i64 a) w := by kernel_rfl
set_option maxRecDepth 20000 in
set_option maxHeartbeats 1000000 in
theorem implFrameSum (t : ByteArray) (w : World) (ht : t.size ≤ 200000) (s : Nat) (hs : s = frS t) :
    Calls Tryd.prog 15 #[.string t] w fun e w' => e = .returned (.int .i64 (s : Int)) ∧ Below w.heap.size w w' := by
  have cS := mkHid (implSum ⟨#[]⟩ ⟨#[]⟩ t 65539 1 w (by decide) (by decide) ht (by decide) (by decide) (by decide) (by decide))
  unfold frS at hs
  rw [← hs] at cS
  generalize Ps.sm 1 1 t.data.toList = s2 at cS
  unfold keyV sumV at cS
  clear hs
  go_enter Tryd.func15, Tryd.ntmps15
  go_wp2_with fail
  refine cS.out.mono ?_
  rintro e w' ⟨rfl, hb⟩
  have Hb := mkHid hb
  clear hb
  go_wp2
  rw [fieldSum]
  go_simp
  go_wp2
  go_ret
  exact ⟨rfl, Hb.out⟩
set_option maxRecDepth 20000 in
set_option maxHeartbeats 8000000 in
theorem encFrame (g B : Nat) (v : Value) (w : World) (hE : Enc g B v [] w) (b s : Nat) (t : ByteArray) (hblk : w.heap[b]? = some (.cells #[.int .i64 70, .int .i64 (t.size : Int), .int .i64 (s : Int), .string t] 50 (0, 0))) (hb : b < B) (hbg : b ≠ g) (ht : t.size ≤ 200000) (ht1 : 1 ≤ t.size) (hs : s ≤ 4294967295) (R : List UInt8) (hR : R = be 1 70 ++ be 4 t.size ++ be 4 s ++ t.data.toList) :
    Calls Tryd.prog 14 #[.iface 46 (.pointer (some ⟨g, 0, none⟩)), .pointer (some ⟨b, 0, none⟩)] w fun e w' => e = .returned (.tuple #[]) ∧ EncR g B R w w' := by
  have HR := mkHid hR
  clear hR
  have HBk : Hid (∀ W', Fr g B w W' → W'.heap[b]? = some (.cells #[.int .i64 70, .int .i64 (t.size : Int), .int .i64 (s : Int), .string t] 50 (0, 0))) := mkHid fun W' hF => (hF.keep b hb hbg).trans hblk
  have hbd : Below w.heap.size w w.drew := (Below.refl w.heap.size w).drew
  have hE0 := hE.below hbd
  have c0 : w.drew.cell? ⟨b, 0, none⟩ = some (.int .i64 ((70 : Nat) : Int)) := (show w.cell? ⟨b, 0, none⟩ = _ by simp [World.cell?, hblk])
  have cA := mkHid (encNumber g B v [] w.drew hE0 b 0 70 1 70 70 c0 (Nat.lt_of_lt_of_le hb hE0.bs) hbg (fun e => by have := (World.ownsRow.lt hE0.own b e.symm).1; omega) (by omega) (by omega) (by omega) (by simp))
  have HE0 := mkHid hE0
  have HF0 : Hid (Fr g B w w.drew) := mkHid (Fr.of_below hbd hE.bs)
  clear hE hblk c0 hbd hE0
  go_enter Tryd.func14, Tryd.ntmps14
  go_wp2
  refine wp_region_any (by kernel_rfl) ?_
  refine wpAny_take (i := 0) (v := .iface 46 (.pointer (some ⟨g, 0, none⟩))) rfl (by kernel_rfl) (by kernel_rfl) (by kernel_rfl) (fun _ _ _ h => h) (Or.inl ⟨by rfl, ?_⟩) ?_
  · intro w
    go_simp
    all_goals first | done | (intro h; exfalso; omega) | omega
  go_simp
  refine wpAny_take (i := 1) (v := .pointer (some ⟨b, 0, none⟩)) rfl (by kernel_rfl) (by kernel_rfl) (by kernel_rfl) (fun _ _ _ h => h) (Or.inl ⟨by rfl, ?_⟩) ?_
  · intro w
    go_simp
    all_goals first | done | (intro h; exfalso; omega) | omega
  go_simp
  refine wpAny_take (i := 2) (v := .pointer (some ⟨b, 0, none⟩)) rfl (by kernel_rfl) (by kernel_rfl) (by kernel_rfl) (fun _ _ _ h => h) (Or.inl ⟨by rfl, ?_⟩) ?_
  · intro w
    go_simp
    all_goals first | done | (intro h; exfalso; omega) | omega
  go_simp
  refine wpAny_take (i := 3) (v := .pointer (some ⟨b, 0, none⟩)) rfl (by kernel_rfl) (by kernel_rfl) (by kernel_rfl) (fun _ _ _ h => h) (Or.inl ⟨by rfl, ?_⟩) ?_
  · intro w
    go_simp
    all_goals first | done | (intro h; exfalso; omega) | omega
  go_simp
  refine wpAny_take (i := 4) (v := .func (.method "loop.example/g00013/impl.number") #[.iface 46 (.pointer (some ⟨g, 0, none⟩))] #[]) rfl (by kernel_rfl) (by kernel_rfl) (by kernel_rfl) (fun _ _ _ h => h) (Or.inl ⟨by rfl, ?_⟩) ?_
  · intro w
    go_simp
    all_goals first | done | (intro h; exfalso; omega) | omega
  go_simp
  refine wpAny_ready (rs := [5]) (by kernel_rfl) (by simp) ?_
  refine AllReady.cons rfl (fun K hK => ?_) AllReady.nil
  go_simp
  rw [nilEnN]
  go_simp
  refine hK _ _ ?_
  clear hK K
  go_simp
  refine wpAny_ready (rs := [6]) (by kernel_rfl) (by simp) ?_
  refine AllReady.cons rfl (fun K hK => ?_) AllReady.nil
  go_simp
  refine hK _ _ ?_
  clear hK K
  go_simp
  refine wpAny_ready (rs := [7]) (by kernel_rfl) (by simp) ?_
  refine AllReady.cons rfl (fun K hK => ?_) AllReady.nil
  go_simp
  simp only [methEnN, Result.andThen, entersEnN]
  go_simp
  refine cA.out.mono ?_
  rintro e W1 ⟨rfl, v1, hE1, hK1, hN1⟩
  have HF1 := mkHid (HF0.out.trans (hK1.fr HE0.out))
  have HE1 := mkHid hE1
  have hl1 : ([] ++ be 1 70).length ≤ 10 := by simp [be_len]
  have e1 : Hid ([] ++ be 1 70 = be 1 70) := mkHid rfl
  generalize [] ++ be 1 70 = p1 at hl1 HE1 e1 hE1
  have hbd : Below W1.heap.size W1 W1.drew := (Below.refl W1.heap.size W1).drew
  have hE1d := HE1.out.below hbd
  have HF1d := mkHid (HF1.out.trans (Fr.of_below (g := g) hbd HE1.out.bs))
  have x1 : W1.drew.cell? ⟨b, 1, none⟩ = some (.int .i64 (t.size : Int)) := (show W1.cell? ⟨b, 1, none⟩ = _ by simp [World.cell?, HBk.out W1 HF1.out])
  have c1 := mkHid (encNumber g B v1 p1 W1.drew hE1d b 1 t.size 4 1 200000 x1 (Nat.lt_of_lt_of_le hb hE1d.bs) hbg (fun e => by have := (World.ownsRow.lt hE1d.own b e.symm).1; omega) (by omega) (by omega) (by omega) (by omega))
  have HE1d := mkHid hE1d
  clear hE1 hK1 hN1 cA HE0 HF0 hE1d hbd x1
  refine hK _ _ ?_
  clear hK K
  go_simp
  refine wpAny_done (by kernel_rfl) ?_ _
  go_wp2
  refine wp_region_any (by kernel_rfl) ?_
  refine wpAny_take (i := 0) (v := .iface 46 (.pointer (some ⟨g, 0, none⟩))) rfl (by kernel_rfl) (by kernel_rfl) (by kernel_rfl) (fun _ _ _ h => h) (Or.inl ⟨by rfl, ?_⟩) ?_
  · intro w
    go_simp
    all_goals first | done | (intro h; exfalso; omega) | omega
  go_simp
  refine wpAny_take (i := 1) (v := .pointer (some ⟨b, 0, none⟩)) rfl (by kernel_rfl) (by kernel_rfl) (by kernel_rfl) (fun _ _ _ h => h) (Or.inl ⟨by rfl, ?_⟩) ?_
  · intro w
    go_simp
    all_goals first | done | (intro h; exfalso; omega) | omega
  go_simp
  refine wpAny_take (i := 2) (v := .pointer (some ⟨b, 0, none⟩)) rfl (by kernel_rfl) (by kernel_rfl) (by kernel_rfl) (fun _ _ _ h => h) (Or.inl ⟨by rfl, ?_⟩) ?_
  · intro w
    go_simp
    all_goals first | done | (intro h; exfalso; omega) | omega
  go_simp
  refine wpAny_take (i := 3) (v := .pointer (some ⟨b, 1, none⟩)) rfl (by kernel_rfl) (by kernel_rfl) (by kernel_rfl) (fun _ _ _ h => h) (Or.inl ⟨by rfl, ?_⟩) ?_
  · intro w
    go_simp
    all_goals first | done | (intro h; exfalso; omega) | omega
  go_simp
  refine wpAny_take (i := 4) (v := .func (.method "loop.example/g00013/impl.number") #[.iface 46 (.pointer (some ⟨g, 0, none⟩))] #[]) rfl (by kernel_rfl) (by kernel_rfl) (by kernel_rfl) (fun _ _ _ h => h) (Or.inl ⟨by rfl, ?_⟩) ?_
  · intro w
    go_simp
    all_goals first | done | (intro h; exfalso; omega) | omega
  go_simp
  refine wpAny_ready (rs := [5]) (by kernel_rfl) (by simp) ?_
  refine AllReady.cons rfl (fun K hK => ?_) AllReady.nil
  go_simp
  rw [nilEnN]
  go_simp
  refine hK _ _ ?_
  clear hK K
  go_simp
  refine wpAny_ready (rs := [6]) (by kernel_rfl) (by simp) ?_
  refine AllReady.cons rfl (fun K hK => ?_) AllReady.nil
  go_simp
  refine hK _ _ ?_
  clear hK K
  go_simp
  refine wpAny_ready (rs := [7]) (by kernel_rfl) (by simp) ?_
  refine AllReady.cons rfl (fun K hK => ?_) AllReady.nil
  go_simp
  simp only [methEnN, Result.andThen, entersEnN]
  go_simp
  refine c1.out.mono ?_
  rintro e W2 ⟨rfl, v2, hE2, hK2, hN2⟩
  have HF2 := mkHid (HF1d.out.trans (hK2.fr HE1d.out))
  have HE2 := mkHid hE2
  have hl2 : (p1 ++ be 4 t.size).length ≤ 20 := by rw [List.length_append, be_len]; omega
  obtain ⟨p2, hp2⟩ : ∃ x, x = p1 ++ be 4 t.size := ⟨_, rfl⟩
  rw [← hp2] at hl2 HE2
  have e2 := mkHid hp2
  have x2 : W2.cell? ⟨b, 2, none⟩ = some (.int .i64 (s : Int)) := by simp [World.cell?, HBk.out W2 HF2.out]
  have c2 := mkHid (encWord g B v2 p2 W2 HE2.out b 2 s x2 hb hbg hs (by omega))
  clear hp2 hE2 hK2 hN2 HE1 HF1 HE1d HF1d c1 x2
  refine hK _ _ ?_
  clear hK K
  go_simp
  refine wpAny_done (by kernel_rfl) ?_ _
  go_wp2_with fail
  refine c2.out.mono ?_
  rintro e W3 ⟨rfl, v3, hE3, hF3⟩
  have HF3 := mkHid (HF2.out.trans hF3)
  have HE3 := mkHid hE3
  have hl3 : (p2 ++ be 4 s).length ≤ 30 := by rw [List.length_append, be_len]; omega
  obtain ⟨p3, hp3⟩ : ∃ x, x = p2 ++ be 4 s := ⟨_, rfl⟩
  rw [← hp3] at hl3 HE3
  have e3 := mkHid hp3
  have hbd : Below W3.heap.size W3 W3.drew := (Below.refl W3.heap.size W3).drew
  have hE3d := HE3.out.below hbd
  have HF3d := mkHid (HF3.out.trans (Fr.of_below (g := g) hbd HE3.out.bs))
  have x3 : W3.cell? ⟨b, 3, none⟩ = some (.string t) := by simp [World.cell?, HBk.out W3 HF3.out]
  have y3 : W3.cell? ⟨b, 1, none⟩ = some (.int .i64 (t.size : Int)) := by simp [World.cell?, HBk.out W3 HF3.out]
  have c3 := mkHid (encBytes g B v3 p3 W3.drew hE3d b 3 t t.size x3 (by omega))
  clear hp3 hE3 hF3 HE2 HF2 c2 hE3d hbd
  go_wp2
  refine wp_region_any (by kernel_rfl) ?_
  refine wpAny_take (i := 0) (v := .iface 46 (.pointer (some ⟨g, 0, none⟩))) rfl (by kernel_rfl) (by kernel_rfl) (by kernel_rfl) (fun _ _ _ h => h) (Or.inl ⟨by rfl, ?_⟩) ?_
  · intro w
    go_simp
    all_goals first | done | (intro h; exfalso; omega) | omega
  go_simp
  refine wpAny_take (i := 1) (v := .pointer (some ⟨b, 0, none⟩)) rfl (by kernel_rfl) (by kernel_rfl) (by kernel_rfl) (fun _ _ _ h => h) (Or.inl ⟨by rfl, ?_⟩) ?_
  · intro w
    go_simp
    all_goals first | done | (intro h; exfalso; omega) | omega
  go_simp
  refine wpAny_take (i := 2) (v := .pointer (some ⟨b, 0, none⟩)) rfl (by kernel_rfl) (by kernel_rfl) (by kernel_rfl) (fun _ _ _ h => h) (Or.inl ⟨by rfl, ?_⟩) ?_
  · intro w
    go_simp
    all_goals first | done | (intro h; exfalso; omega) | omega
  go_simp
  refine wpAny_take (i := 3) (v := .pointer (some ⟨b, 3, none⟩)) rfl (by kernel_rfl) (by kernel_rfl) (by kernel_rfl) (fun _ _ _ h => h) (Or.inl ⟨by rfl, ?_⟩) ?_
  · intro w
    go_simp
    all_goals first | done | (intro h; exfalso; omega) | omega
  go_simp
  refine wpAny_take (i := 4) (v := .pointer (some ⟨b, 0, none⟩)) rfl (by kernel_rfl) (by kernel_rfl) (by kernel_rfl) (fun _ _ _ h => h) (Or.inl ⟨by rfl, ?_⟩) ?_
  · intro w
    go_simp
    all_goals first | done | (intro h; exfalso; omega) | omega
  go_simp
  refine wpAny_take (i := 5) (v := .pointer (some ⟨b, 0, none⟩)) rfl (by kernel_rfl) (by kernel_rfl) (by kernel_rfl) (fun _ _ _ h => h) (Or.inl ⟨by rfl, ?_⟩) ?_
  · intro w
    go_simp
    all_goals first | done | (intro h; exfalso; omega) | omega
  go_simp
  refine wpAny_take (i := 6) (v := .pointer (some ⟨b, 1, none⟩)) rfl (by kernel_rfl) (by kernel_rfl) (by kernel_rfl) (fun _ _ _ h => h) (Or.inl ⟨by rfl, ?_⟩) ?_
  · intro w
    go_simp
    all_goals first | done | (intro h; exfalso; omega) | omega
  go_simp
  refine wpAny_take (i := 8) (v := .func (.method "loop.example/g00013/impl.bytes") #[.iface 46 (.pointer (some ⟨g, 0, none⟩))] #[]) rfl (by kernel_rfl) (by kernel_rfl) (by kernel_rfl) (fun _ _ _ h => h) (Or.inl ⟨by rfl, ?_⟩) ?_
  · intro w
    go_simp
    all_goals first | done | (intro h; exfalso; omega) | omega
  go_simp
  refine wpAny_ready (rs := [7, 9]) (by kernel_rfl) (by simp) ?_
  refine AllReady.cons rfl (fun K hK => ?_) (AllReady.cons rfl (fun K hK => ?_) AllReady.nil)
  · go_simp
    refine hK _ _ ?_
    clear hK K
    go_simp
    refine wpAny_ready (rs := [9]) (by kernel_rfl) (by simp) ?_
    refine AllReady.cons rfl (fun K hK => ?_) AllReady.nil
    go_simp
    rw [nilEnB]
    go_simp
    refine hK _ _ ?_
    clear hK K
    go_simp
    refine wpAny_take (i := 10) (v := .iface 46 (.pointer (some ⟨g, 0, none⟩))) rfl (by kernel_rfl) (by kernel_rfl) (by kernel_rfl) (fun _ _ _ h => h) (Or.inl ⟨by rfl, ?_⟩) ?_
    · intro w
      go_simp
      all_goals first | done | (intro h; exfalso; omega) | omega
    go_simp
    refine wpAny_ready (rs := [11]) (by kernel_rfl) (by simp) ?_
    refine AllReady.cons rfl (fun K hK => ?_) AllReady.nil
    go_simp
    simp only [methEnB, Result.andThen, entersEnB]
    go_simp
    refine c3.out.mono ?_
    rintro e W4 ⟨rfl, v4, hE4, hF4⟩
    have HF4 := mkHid (HF3d.out.trans hF4)
    have HE4 : Hid (Enc g B v4 R W4) := by
      rw [HR.out]
      have e := hE4
      rw [e3.out, e2.out, e1.out] at e
      exact mkHid e
    refine hK _ _ ?_
    clear hK K hE4 hF4
    go_simp
    refine wpAny_done (by kernel_rfl) ?_ _
    exact bodyPost_end (v := .tuple #[]) (results_none Tryd.results14 _ _ _) rfl ⟨rfl, ⟨v4, HE4.out, HF4.out⟩⟩
  · go_simp
    rw [nilEnB]
    go_simp
    refine hK _ _ ?_
    clear hK K
    go_simp
    refine wpAny_take (i := 10) (v := .iface 46 (.pointer (some ⟨g, 0, none⟩))) rfl (by kernel_rfl) (by kernel_rfl) (by kernel_rfl) (fun _ _ _ h => h) (Or.inl ⟨by rfl, ?_⟩) ?_
    · intro w
      go_simp
      all_goals first | done | (intro h; exfalso; omega) | omega
    go_simp
    refine wpAny_ready (rs := [7]) (by kernel_rfl) (by simp) ?_
    refine AllReady.cons rfl (fun K hK => ?_) AllReady.nil
    go_simp
    refine hK _ _ ?_
    clear hK K
    go_simp
    refine wpAny_ready (rs := [11]) (by kernel_rfl) (by simp) ?_
    refine AllReady.cons rfl (fun K hK => ?_) AllReady.nil
    go_simp
    simp only [methEnB, Result.andThen, entersEnB]
    go_simp
    refine c3.out.mono ?_
    rintro e W4 ⟨rfl, v4, hE4, hF4⟩
    have HF4 := mkHid (HF3d.out.trans hF4)
    have HE4 : Hid (Enc g B v4 R W4) := by
      rw [HR.out]
      have e := hE4
      rw [e3.out, e2.out, e1.out] at e
      exact mkHid e
    refine hK _ _ ?_
    clear hK K hE4 hF4
    go_simp
    refine wpAny_done (by kernel_rfl) ?_ _
    exact bodyPost_end (v := .tuple #[]) (results_none Tryd.results14 _ _ _) rfl ⟨rfl, ⟨v4, HE4.out, HF4.out⟩⟩
/-- A frame's bytes. -/
def frB (t : ByteArray) : List UInt8 := be 1 70 ++ be 4 t.size ++ be 4 (frS t) ++ t.data.toList
set_option maxRecDepth 20000 in
set_option maxHeartbeats 4000000 in
theorem implPutFrame (t : ByteArray) (w : World) (ht : t.size ≤ 200000) (ht1 : 1 ≤ t.size) (R : List UInt8) (hR : R = frB t) :
    Calls Tryd.prog 6 #[.string t] w fun e w' => e = .returned (.string ⟨R.toArray⟩) ∧ Below w.heap.size w w' := by
  obtain ⟨s, hs⟩ : ∃ s, s = frS t := ⟨_, rfl⟩
  unfold frB at hR
  rw [← hs] at hR
  have hs4 : s ≤ 4294967295 := by have := frS_lt t; omega
  have cS := fun W => implFrameSum t W ht s hs
  clear hs
  obtain ⟨W, hW⟩ : ∃ W, W = w.alloc (.cells #[.slice none 0 0, .nilIface] 44) := ⟨_, rfl⟩
  have hbW : Below w.heap.size w W := by rw [hW]; exact (Below.refl _ _).alloc (Nat.le_refl _) _
  have hsW : W.heap.size = w.heap.size + 1 := by rw [hW]; simp
  have hgW : W.heap[w.heap.size]? = some (.cells #[.slice none 0 0, .nilIface] 44 (0, 0)) := by rw [hW]; exact hp_alloc _ _
  have HW := mkHid hW
  have HsW := mkHid hsW
  have HbW := mkHid hbW
  have HgW := mkHid hgW
  have hltW : w.heap.size < W.heap.size := by omega
  have c1 := mkHid (cS W)
  have HR := mkHid hR
  clear hW hsW hbW hgW cS hR
  go_enter Tryd.func6, Tryd.ntmps6
  go_wp2_with fail
  rw [← HW.out]
  refine c1.out.mono ?_
  rintro e W1 ⟨rfl, hb1⟩
  obtain ⟨W2, hW2⟩ : ∃ X, X = W1.alloc (.cells #[.int .i64 70, .int .i64 (t.size : Int), .int .i64 (s : Int), .string t] 50) := ⟨_, rfl⟩
  have hb2 : Below W.heap.size W W2 := by rw [hW2]; exact hb1.alloc hb1.size _
  have hs2 : W2.heap.size = W1.heap.size + 1 := by rw [hW2]; simp
  have hlt1 : w.heap.size < W1.heap.size := Nat.lt_of_lt_of_le hltW hb1.size
  have hE2 : Enc w.heap.size (W1.heap.size + 1) (.slice none 0 0) [] W2 := ⟨(hb2.block _ hltW).trans HgW.out, Own.nil _ _, by omega, by omega⟩
  have hblk : W2.heap[W1.heap.size]? = some (.cells #[.int .i64 70, .int .i64 (t.size : Int), .int .i64 (s : Int), .string t] 50 (0, 0)) := by rw [hW2]; exact hp_alloc _ _
  have c2 := mkHid (encFrame w.heap.size (W1.heap.size + 1) _ W2 hE2 W1.heap.size s t hblk (by omega) (by omega) ht ht1 hs4 R HR.out)
  have HW2 := mkHid hW2
  have Hb2 := mkHid (HbW.out.trans (hb2.mono (by omega)))
  have hle2 : w.heap.size ≤ W1.heap.size := by omega
  clear hW2 hb2 hs2 hE2 hblk hb1
  go_wp2_with fail
  rw [← HW2.out]
  refine c2.out.mono ?_
  rintro e W3 ⟨rfl, hR3⟩
  obtain ⟨v3, hE3, hF3⟩ := hR3
  have c3 := mkHid (encWritten _ _ _ _ W3 hE3)
  have Hb3 : Hid (Below w.heap.size w W3) := mkHid (Hb2.out.trans ⟨hF3.os, hF3.tape, hF3.output, hF3.size, fun k hk => hF3.keep k (by omega) (by omega)⟩)
  clear hE3 hF3
  go_wp2_with fail
  refine c3.out.mono ?_
  rintro e W4 ⟨rfl, rfl⟩
  go_wp2
  go_ret
  exact ⟨rfl, Hb3.out⟩
end Go.Proofs.YtillilllceeonaaDoor
namespace Go.Proofs.YtillilllceeonaaDoor
open Go.RowKit Go.Lib Go.Maps
/-- The decoder at block g has the bytes F before it, which lie in block r, and no error. -/
structure Dec (g r : Nat) (F : List UInt8) (w : World) : Prop where
  ex : ∃ a c, w.heap[g]? = some (.cells #[.slice (some ⟨r, a, none⟩) F.length c, .nilIface] 55 (0, 0)) ∧ F.length ≤ c ∧ ∀ j (hj : j < F.length), w.cell? ⟨r, a + j, none⟩ = some (.int .u8 (F[j].toNat : Int))
  ne : r ≠ g
  gl : g < w.heap.size
  rl : r < w.heap.size
/-- Nothing but the blocks g and b has changed. -/
structure D2 (g b : Nat) (w w' : World) : Prop where
  os : w'.os = w.os
  tape : w'.tape = w.tape
  output : w'.output = w.output
  size : w.heap.size ≤ w'.heap.size
  keep : ∀ k, k < w.heap.size → k ≠ g → k ≠ b → w'.heap[k]? = w.heap[k]?
set_option maxRecDepth 20000 in
theorem D2.refl (g b : Nat) (w : World) : D2 g b w w := ⟨rfl, rfl, rfl, Nat.le_refl _, fun _ _ _ _ => rfl⟩
set_option maxRecDepth 20000 in
theorem D2.trans {g b : Nat} {w w1 w2 : World} (h : D2 g b w w1) (h2 : D2 g b w1 w2) : D2 g b w w2 := ⟨h2.os.trans h.os, h2.tape.trans h.tape, h2.output.trans h.output, Nat.le_trans h.size h2.size, fun k hk h1 h3 => (h2.keep k (Nat.lt_of_lt_of_le hk h.size) h1 h3).trans (h.keep k hk h1 h3)⟩
set_option maxRecDepth 20000 in
theorem D2.of_gr {g b : Nat} {w w' : World} (h : w.grownBy w' (some g)) : D2 g b w w' := ⟨h.os, h.tape, h.output, h.size, fun k hk h1 _ => h.block k hk (by intro e; cases e; exact h1 rfl)⟩
set_option maxRecDepth 20000 in
theorem D2.of_below {g b : Nat} {w w' : World} (h : Below w.heap.size w w') : D2 g b w w' := ⟨h.os, h.tape, h.output, h.size, fun k hk _ _ => h.block k hk⟩
set_option maxRecDepth 20000 in
/-- A block that is new ahead of a call does not count. -/
theorem D2.new {g b b' : Nat} {w w1 w2 : World} (h : Below w.heap.size w w1) (h2 : D2 g b' w1 w2) (hb : w.heap.size ≤ b') : D2 g b w w2 := ⟨h2.os.trans h.os, h2.tape.trans h.tape, h2.output.trans h.output, Nat.le_trans h.size h2.size, fun k hk h1 _ => (h2.keep k (Nat.lt_of_lt_of_le hk h.size) h1 (by omega)).trans (h.block k hk)⟩
set_option maxRecDepth 20000 in
theorem Dec.below {g r : Nat} {F : List UInt8} {w w' : World} (h : Dec g r F w) (hb : Below w.heap.size w w') : Dec g r F w' := by
  obtain ⟨a, c, h1, h2, h3⟩ := h.ex
  exact ⟨⟨a, c, (hb.block g h.gl).trans h1, h2, fun j hj => (World.cell?_of_block (a := ⟨r, a + j, none⟩) (hb.block r h.rl)).trans (h3 j hj)⟩, h.ne, Nat.lt_of_lt_of_le h.gl hb.size, Nat.lt_of_lt_of_le h.rl hb.size⟩
set_option maxRecDepth 20000 in
/-- Another block is stored into. -/
theorem Dec.stored {g r b : Nat} {F : List UInt8} {w w' : World} (h : Dec g r F w) (hg : w.grownBy w' (some b)) (hb : b ≠ g) (hr : b ≠ r) : Dec g r F w' := by
  obtain ⟨a, c, h1, h2, h3⟩ := h.ex
  exact ⟨⟨a, c, (hg.block g h.gl (by intro e; cases e; exact hb rfl)).trans h1, h2, fun j hj => (World.cell?_of_block (a := ⟨r, a + j, none⟩) (hg.block r h.rl (by intro e; cases e; exact hr rfl))).trans (h3 j hj)⟩, h.ne, Nat.lt_of_lt_of_le h.gl hg.size, Nat.lt_of_lt_of_le h.rl hg.size⟩
set_option maxRecDepth 20000 in
/-- What take leaves. -/
theorem Dec.took {g r n a c : Nat} {F : List UInt8} {w : World} (h : Dec g r F w) (hn : n ≤ F.length)
    (h1 : w.heap[g]? = some (.cells #[.slice (some ⟨r, a, none⟩) F.length c, .nilIface] 55 (0, 0))) (h2 : F.length ≤ c) (h3 : ∀ j (hj : j < F.length), w.cell? ⟨r, a + j, none⟩ = some (.int .u8 (F[j].toNat : Int)))
    (x : Addr) (hx : x = if c = n then ⟨r, a, none⟩ else ⟨r, a + n, none⟩) : Dec g r (F.drop n) (w.setCell ⟨g, 0, none⟩ (.slice (some x) (F.length - n) (c - n))) := by
  have hS := grG_set w g 0 (.slice (some x) (F.length - n) (c - n))
  have hb : (w.setCell ⟨g, 0, none⟩ (.slice (some x) (F.length - n) (c - n))).heap[g]? = some (.cells #[.slice (some x) (F.length - n) (c - n), .nilIface] 55 (0, 0)) := by simp [World.setCell, Array.getElem?_modify, h1]
  have hr : ∀ j, (w.setCell ⟨g, 0, none⟩ (.slice (some x) (F.length - n) (c - n))).cell? ⟨r, j, none⟩ = w.cell? ⟨r, j, none⟩ := fun j => World.cell?_of_block (a := ⟨r, j, none⟩) (hS.block r h.rl (by intro e; cases e; exact h.ne rfl))
  refine ⟨?_, h.ne, Nat.lt_of_lt_of_le h.gl hS.size, Nat.lt_of_lt_of_le h.rl hS.size⟩
  by_cases hc : c = n
  · rw [if_pos hc] at hx
    subst hx
    refine ⟨a, c - n, by rw [hb, List.length_drop], by rw [List.length_drop]; omega, fun j hj => ?_⟩
    rw [List.length_drop] at hj
    omega
  · rw [if_neg hc] at hx
    subst hx
    refine ⟨a + n, c - n, by rw [hb, List.length_drop], by rw [List.length_drop]; omega, fun j hj => ?_⟩
    rw [List.length_drop] at hj
    rw [hr, List.getElem_drop, Nat.add_assoc]
    exact h3 (n + j) (by omega)
/-- What take answers and leaves. -/
def TookR (g r n : Nat) (F : List UInt8) (w : World) (e : Ending) (w' : World) : Prop := ∃ a, e = .returned (.slice (some ⟨r, a, none⟩) n n) ∧ (∀ j (hj : j < n) (hf : j < F.length), w'.cell? ⟨r, a + j, none⟩ = some (.int .u8 (F[j].toNat : Int))) ∧ Dec g r (F.drop n) w' ∧ w.grownBy w' (some g)
set_option maxRecDepth 20000 in
set_option maxHeartbeats 4000000 in
theorem decTake (g r n : Nat) (F : List UInt8) (w : World) (h : Dec g r F w) (hn : n ≤ F.length) (hF : F.length ≤ 1000000) :
    Calls Tryd.prog 41 #[.pointer (some ⟨g, 0, none⟩), .int .i64 n] w fun e w' => TookR g r n F w e w' := by
  obtain ⟨a, c, h1, h2, h3⟩ := h.ex
  have c0 : w.cell? ⟨g, 0, none⟩ = some (.slice (some ⟨r, a, none⟩) F.length c) := by simp [World.cell?, h1]
  have cn : w.cell? ⟨g, 1, none⟩ = some .nilIface := by simp [World.cell?, h1]
  have z0 : w.frozen? ⟨g, 0, none⟩ = false := by simp [World.frozen?, h1]
  have hT := mkHid (fun x hx => h.took hn h1 h2 h3 x hx)
  have hcell : Hid (∀ v, ∀ j (hj : j < n) (hf : j < F.length), (w.setCell ⟨g, 0, none⟩ v).cell? ⟨r, a + j, none⟩ = some (.int .u8 (F[j].toNat : Int))) := mkHid (by
    intro v j hj hf
    rw [World.cell?_of_block (a := ⟨r, a + j, none⟩) ((grG_set w g 0 v).block r h.rl (by intro e; cases e; exact h.ne rfl))]
    exact h3 j (by omega))
  have hle : ¬ (F.length : Int) < (n : Int) := by omega
  have hnc : (n : Int) ≤ (c : Int) := by omega
  have hnF : (n : Int) ≤ (F.length : Int) := by omega
  have hn0 : (0 : Int) ≤ (n : Int) := by omega
  obtain ⟨Q, hQ⟩ : ∃ Q, Q = TookR g r n F w := ⟨_, rfl⟩
  have HQ : Hid (∀ (x : Addr), (x = if c = n then ⟨r, a, none⟩ else ⟨r, a + n, none⟩) → Q (.returned (.slice (some ⟨r, a, none⟩) n n)) (w.setCell ⟨g, 0, none⟩ (.slice (some x) (F.length - n) (c - n)))) := mkHid (by
    intro x hx
    rw [hQ]
    exact ⟨a, rfl, hcell.out _, hT.out x hx, grG_set _ _ _ _⟩)
  show Calls _ _ _ _ fun e w' => TookR g r n F w e w'
  rw [← hQ]
  clear h h1 h3 hT hcell hQ
  rcases Nat.eq_zero_or_pos n with rfl | hz
  · by_cases hc : c = 0
    · subst hc
      have HQ2 := HQ.out ⟨r, a, none⟩ (by simp)
      have HQ3 := mkHid HQ2
      clear HQ2 HQ
      go_enter Tryd.func41, Tryd.ntmps41
      go_wp2
      have e : F.length = 0 := by omega
      simpa [e] using HQ3.out
    · have HQ2 := HQ.out ⟨r, a + 0, none⟩ (by simp [hc])
      have HQ3 := mkHid HQ2
      clear HQ2 HQ
      go_enter Tryd.func41, Tryd.ntmps41
      go_wp2
      simpa using HQ3.out
  · have hz1 : ¬ n = 0 := by omega
    by_cases hc : c = n
    · subst hc
      have HQ2 := HQ.out ⟨r, a, none⟩ (by simp)
      have HQ3 := mkHid HQ2
      clear HQ2 HQ
      go_enter Tryd.func41, Tryd.ntmps41
      go_wp2
      have h9 := HQ3.out
      rw [show F.length - c = 0 by omega, Nat.sub_self] at h9
      exact h9
    · have HQ2 := HQ.out ⟨r, a + n, none⟩ (by simp [hc])
      have HQ3 := mkHid HQ2
      clear HQ2 HQ
      have hadd := add_off r n
      go_enter Tryd.func41, Tryd.ntmps41
      go_wp2
      first | exact HQ3.out | simpa using HQ3.out
end Go.Proofs.YtillilllceeonaaDoor
namespace Go.Proofs.YtillilllceeonaaDoor
open Go.RowKit Go.Lib Go.Maps
/-- The number that bytes make. -/
def num (l : List UInt8) : Nat := l.foldl (fun a b => a * 256 + b.toNat) 0
set_option maxRecDepth 20000 in
theorem num_app (l : List UInt8) (b : UInt8) : num (l ++ [b]) = num l * 256 + b.toNat := by simp [num]
set_option maxRecDepth 20000 in
theorem num_lt : ∀ (k : Nat) (l : List UInt8), l.length ≤ k → num l < 256 ^ k := by
  intro k
  induction k with
  | zero => intro l h; cases l with | nil => decide | cons a l => simp at h
  | succ k ih =>
    intro l h
    rcases List.eq_nil_or_concat l with rfl | ⟨l', b, rfl⟩
    · exact Nat.pow_pos (by decide)
    · rw [List.concat_eq_append] at h ⊢
      rw [num_app, Nat.pow_succ]
      have h1 := ih l' (by simp at h; omega)
      have h2 : b.toNat < 256 := b.toNat_lt
      omega
set_option maxRecDepth 20000 in
theorem foldl_num (l : List UInt8) (a : Nat) : l.foldl (fun a b => a * 256 + b.toNat) a = a * 256 ^ l.length + num l := by
  induction l generalizing a with
  | nil => simp [num]
  | cons b l ih =>
    have e : num (b :: l) = (0 * 256 + b.toNat) * 256 ^ l.length + num l := by
      show List.foldl _ _ _ = _
      rw [List.foldl_cons, ih]
    rw [List.foldl_cons, ih, e, List.length_cons, Nat.pow_succ, Nat.add_mul, Nat.zero_mul, Nat.zero_add, Nat.mul_assoc, Nat.mul_comm 256, Nat.add_assoc]
set_option maxRecDepth 20000 in
theorem num_be : ∀ (k n : Nat), num (be k n) = n % 256 ^ k
  | 0, n => by simp [be, num, Nat.mod_one]
  | k + 1, n => by
    rw [be, num, List.foldl_cons, foldl_num, num_be k n, be_len]
    have h1 : (UInt8.ofNat (n / 2 ^ (8 * k))).toNat = n / 256 ^ k % 256 := by
      rw [UInt8.toNat_ofNat', Nat.pow_mul]
    rw [h1, Nat.zero_mul, Nat.zero_add, Nat.pow_succ, Nat.mod_mul, Nat.mul_comm (256 ^ k), Nat.add_comm]
set_option maxRecDepth 20000 in
theorem lt_of_blk {w : World} {b : Nat} {o : Obj} (h : w.heap[b]? = some o) : b < w.heap.size := by
  rcases Nat.lt_or_ge b w.heap.size with h1 | h1
  · exact h1
  · rw [Array.getElem?_eq_none h1] at h; cases h
set_option maxRecDepth 20000 in
theorem or64 (x y : Nat) (hx : x < 4294967296) (hy : y < 256) : bits .or .i64 ((x : Int) * 256) (y : Int) = ((x * 256 + y : Nat) : Int) := by
  have e : ∀ n : Nat, n < 1099511627776 → (BitVec.ofInt 64 (n : Int)).toNat = n := by
    intro n hn
    rw [BitVec.toNat_ofInt]
    omega
  have h3 : x * 256 ||| y = x * 256 + y := by
    have := Nat.two_pow_add_eq_or_of_lt (i := 8) (b := y) (by omega) x
    rw [Nat.mul_comm] at this
    exact this.symm
  show IntKind.i64.wrap ((BitVec.ofInt 64 ((x : Int) * 256) ||| BitVec.ofInt 64 (y : Int)).toNat : Int) = _
  rw [BitVec.toNat_or, show ((x : Int) * 256) = ((x * 256 : Nat) : Int) by omega, e _ (by omega), e _ (by omega), h3]
  exact wrap_in _ (by omega) (by omega)
/-- What a method of the decoder leaves: F is before it, the block b has cs. -/
def DecR (g r b : Nat) (F : List UInt8) (cs : Array Value) (T : TypeId) (w w' : World) : Prop := Dec g r F w' ∧ w'.heap[b]? = some (.cells cs T (0, 0)) ∧ D2 g b w w'
set_option maxRecDepth 20000 in
set_option maxHeartbeats 8000000 in
theorem decNumber (g r b jo k n : Nat) (lo hi : Int) (F : List UInt8) (cs cs' : Array Value) (T : TypeId) (w : World) (h : Dec g r F w) (hb : b ≠ g) (hbr : b ≠ r) (hblk : w.heap[b]? = some (.cells cs T (0, 0))) (m0 : Int) (hj : cs[jo]? = some (.int .i64 m0)) (hcs : cs' = cs.setIfInBounds jo (.int .i64 n)) (hkF : k ≤ F.length) (hn : num (F.take k) = n) (hk1 : 1 ≤ k) (hk : k ≤ 5) (h1 : lo ≤ n) (h2 : n ≤ hi) (hF : F.length ≤ 1000000) :
    Calls Tryd.prog 100 #[.pointer (some ⟨g, 0, none⟩), .pointer (some ⟨b, jo, none⟩), .int .i64 k, .int .i64 lo, .int .i64 hi] w fun e w' => e = .returned (.tuple #[]) ∧ DecR g r b (F.drop k) cs' T w w' := by
  have cT := mkHid (decTake g r k F w h hkF hF)
  have H := mkHid h
  have Hblk := mkHid hblk
  have Hcs := mkHid hcs
  have Hj := mkHid hj
  have hbl : b < w.heap.size := lt_of_blk hblk
  have hk8 : (k : Int) ≤ 5 := by omega
  clear h hblk hcs hj
  go_enter Tryd.func100, Tryd.ntmps100
  go_wp2_with fail
  refine cT.out.mono ?_
  rintro e W ⟨a, rfl, hc, hD, hg⟩
  have Hc := mkHid hc
  have HD := mkHid hD
  have Hg := mkHid hg
  clear hc hD hg cT
  go_wp2
  go_loopw [10, 17] (fun rv iv wr => ∃ (i x : Nat), i ≤ k ∧ iv = .int .i64 i ∧ rv = .int .i64 x ∧ Hid (x = num (F.take i)) ∧ W = wr) (fun _ iv _ => k - (Lib.intOf iv).toNat)
  case atStart => exact ⟨0, 0, Nat.zero_le _, rfl, rfl, mkHid rfl, rfl⟩
  case round =>
    obtain ⟨i, x, hik0, rfl, rfl, hx, rfl⟩ := hrel
    by_cases hlt : i < k
    · have hlti : (i : Int) < (k : Int) := by omega
      have c0 := Hc.out i hlt (by omega)
      have hadd : (⟨r, a, none⟩ : Addr).add i = ⟨r, a + i, none⟩ := by simp [Addr.add]
      have hxl : x < 4294967296 := by
        rw [hx.out]
        have := num_lt 4 (F.take i) (by rw [List.length_take]; omega)
        omega
      have hx2 : Hid (x * 256 + (F[i]'(by omega)).toNat = num (F.take (i + 1))) := mkHid (by rw [List.take_succ_eq_append_getElem (by omega), num_app, hx.out])
      have hbb : (F[i]'(by omega)).toNat < 256 := UInt8.toNat_lt _
      generalize (F[i]'(by omega)).toNat = y at *
      have hor := or64 x y hxl hbb
      go_wp2
      refine ⟨⟨i + 1, x * 256 + y, by omega, by go_num, rfl, hx2, trivial⟩, by simp [Lib.intOf]; omega⟩
    · have hik : i = k := by omega
      subst hik
      have hxn : x = n := by rw [← hn]; exact hx.out
      subst hxn
      obtain ⟨a2, c2, hb2, -⟩ := HD.out.ex
      have cn : W.cell? ⟨g, 1, none⟩ = some .nilIface := by simp [World.cell?, hb2]
      have hbW : W.heap[b]? = some (.cells cs T (0, 0)) := (Hg.out.block b hbl (by intro e; cases e; exact hb rfl)).trans Hblk.out
      have cb : W.cell? ⟨b, jo, none⟩ = some (.int .i64 m0) := by simp [World.cell?, hbW, Hj.out]
      have zb : W.frozen? ⟨b, jo, none⟩ = false := by simp [World.frozen?, hbW]
      have cF := mkHid (implFromIn (x : Int) lo hi W h1 h2)
      have HR : Hid (DecR g r b (F.drop i) cs' T w (W.setCell ⟨b, jo, none⟩ (.int .i64 x))) := mkHid (by
        have hS := grG_set W b jo (.int .i64 (x : Int))
        refine ⟨HD.out.stored hS hb hbr, ?_, (D2.of_gr Hg.out).trans ⟨hS.os, hS.tape, hS.output, hS.size, fun k hk _ h9 => hS.block k hk (by intro e; cases e; exact h9 rfl)⟩⟩
        rw [Hcs.out]
        simp [World.setCell, Array.getElem?_modify, hbW])
      clear hb2 hbW hx Hc
      go_wp2_with fail
      refine cF.out.mono ?_
      rintro e W2 ⟨rfl, rfl⟩
      go_wp2
      exact bodyPost_end (v := .tuple #[]) (results_none Tryd.results100 _ _ _) rfl ⟨rfl, HR.out⟩
set_option maxRecDepth 20000 in
set_option maxHeartbeats 4000000 in
theorem decBytes (g r b jo n : Nat) (F : List UInt8) (cs cs' : Array Value) (T : TypeId) (w : World) (h : Dec g r F w) (hb : b ≠ g) (hbr : b ≠ r) (hblk : w.heap[b]? = some (.cells cs T (0, 0))) (t0 t : ByteArray) (hj : cs[jo]? = some (.string t0)) (ht : t = ⟨(F.take n).toArray⟩) (hcs : cs' = cs.setIfInBounds jo (.string t)) (hn : n ≤ F.length) (hF : F.length ≤ 1000000) :
    Calls Tryd.prog 99 #[.pointer (some ⟨g, 0, none⟩), .pointer (some ⟨b, jo, none⟩), .int .i64 n] w fun e w' => e = .returned (.tuple #[]) ∧ DecR g r b (F.drop n) cs' T w w' := by
  have cT := mkHid (decTake g r n F w h hn hF)
  have Hblk := mkHid hblk
  have Hcs := mkHid hcs
  have Hj := mkHid hj
  have Ht := mkHid ht
  have hbl : b < w.heap.size := lt_of_blk hblk
  clear h hblk hcs hj ht
  go_enter Tryd.func99, Tryd.ntmps99
  go_wp2_with fail
  refine cT.out.mono ?_
  rintro e W ⟨a, rfl, hc, hD, hg⟩
  have Hc := mkHid hc
  have HD := mkHid hD
  have Hg := mkHid hg
  have hbW : W.heap[b]? = some (.cells cs T (0, 0)) := (Hg.out.block b hbl (by intro e; cases e; exact hb rfl)).trans Hblk.out
  have cb : W.cell? ⟨b, jo, none⟩ = some (.string t0) := by simp [World.cell?, hbW, Hj.out]
  have zb : W.frozen? ⟨b, jo, none⟩ = false := by simp [World.frozen?, hbW]
  have HR : Hid (DecR g r b (F.drop n) cs' T w (W.setCell ⟨b, jo, none⟩ (.string t))) := mkHid (by
    have hS := grG_set W b jo (.string t)
    refine ⟨HD.out.stored hS hb hbr, ?_, (D2.of_gr Hg.out).trans ⟨hS.os, hS.tape, hS.output, hS.size, fun k hk _ h9 => hS.block k hk (by intro e; cases e; exact h9 rfl)⟩⟩
    rw [Hcs.out]
    simp [World.setCell, Array.getElem?_modify, hbW])
  have hlt : (F.take n).length = n := by rw [List.length_take]; omega
  have hbk : (convert 22 9 (.slice (some ⟨r, a, none⟩) n n)).run Tryd.prog W = .ok (.string t) W := by
    have h9 := run_convert_bytes_back (P := Tryd.prog) W 22 9 5 ⟨r, a, none⟩ n (F.take n) Tryd.underlying22 Tryd.underlying5 Tryd.underlying9 (fun j hj => by
      rw [show (⟨r, a, none⟩ : Addr).add j = ⟨r, a + j, none⟩ by simp [Addr.add], List.getElem_take]
      exact Hc.out j (by omega) (by omega))
    rw [hlt] at h9
    rw [Ht.out]
    exact h9
  clear hc hD hg cT hbW hlt
  go_wp2
  exact bodyPost_end (v := .tuple #[]) (results_none Tryd.results99 _ _ _) rfl ⟨rfl, HR.out⟩
end Go.Proofs.YtillilllceeonaaDoor
namespace Go.Proofs.YtillilllceeonaaDoor
open Go.RowKit Go.Lib Go.Maps
set_option maxRecDepth 20000 in
set_option maxHeartbeats 4000000 in
theorem decWord (g r b jo n : Nat) (F : List UInt8) (cs cs' : Array Value) (T : TypeId) (w : World) (h : Dec g r F w) (hb : b ≠ g) (hbr : b ≠ r) (hblk : w.heap[b]? = some (.cells cs T (0, 0))) (m0 : Int) (hj : cs[jo]? = some (.int .i64 m0)) (hcs : cs' = cs.setIfInBounds jo (.int .i64 n)) (hkF : 4 ≤ F.length) (hn : num (F.take 4) = n) (hF : F.length ≤ 1000000) :
    Calls Tryd.prog 22 #[.iface 80 (.pointer (some ⟨g, 0, none⟩)), .pointer (some ⟨b, jo, none⟩)] w fun e w' => e = .returned (.tuple #[]) ∧ DecR g r b (F.drop 4) cs' T w w' := by
  have hlt := num_lt 4 (F.take 4) (by rw [List.length_take]; omega)
  have cN := mkHid (decNumber g r b jo 4 n 0 4294967295 F cs cs' T w h hb hbr hblk m0 hj hcs hkF hn (by omega) (by omega) (by omega) (by omega) hF)
  clear h hblk hj hcs hlt hn
  go_enter Tryd.func22, Tryd.ntmps22
  go_wp2_with fail
  refine cN.out.mono ?_
  rintro e w' ⟨rfl, hR⟩
  have HR := mkHid hR
  clear hR
  go_wp2
  exact bodyPost_end (v := .tuple #[]) (results_none Tryd.results22 _ _ _) rfl ⟨rfl, HR.out⟩
set_option maxRecDepth 20000 in
set_option maxHeartbeats 4000000 in
theorem decText (g r b jo k m n : Nat) (F : List UInt8) (cs cs' : Array Value) (T : TypeId) (w : World) (h : Dec g r F w) (hb : b ≠ g) (hbr : b ≠ r) (hblk : w.heap[b]? = some (.cells cs T (0, 0))) (t0 t : ByteArray) (hj : cs[jo]? = some (.string t0)) (ht : t = ⟨((F.drop k).take n).toArray⟩) (hcs : cs' = cs.setIfInBounds jo (.string t)) (hn : num (F.take k) = n) (hk1 : 1 ≤ k) (hk : k ≤ 5) (hnm : n ≤ m) (hnF : k + n ≤ F.length) (hF : F.length ≤ 1000000) (R : List UInt8) (hR : R = F.drop (k + n)) :
    Calls Tryd.prog 27 #[.iface 80 (.pointer (some ⟨g, 0, none⟩)), .pointer (some ⟨b, jo, none⟩), .int .i64 k, .int .i64 m] w fun e w' => e = .returned (.tuple #[]) ∧ DecR g r b R cs' T w w' := by
  obtain ⟨W, hW⟩ : ∃ W, W = w.alloc (.cells #[.int .i64 t0.size] 2) := ⟨_, rfl⟩
  have hbW : Below w.heap.size w W := by rw [hW]; exact (Below.refl _ _).alloc (Nat.le_refl _) _
  have hbl : b < w.heap.size := lt_of_blk hblk
  have hblkL : W.heap[w.heap.size]? = some (.cells #[.int .i64 t0.size] 2 (0, 0)) := by rw [hW]; exact hp_alloc _ _
  have cN := mkHid (decNumber g r w.heap.size 0 k n 0 m F #[.int .i64 t0.size] #[.int .i64 n] 2 W (h.below hbW) (by have := h.gl; omega) (by have := h.rl; omega) hblkL t0.size rfl rfl (by omega) hn hk1 hk (by omega) (by omega) hF)
  have cb : w.cell? ⟨b, jo, none⟩ = some (.string t0) := by simp [World.cell?, hblk, hj]
  have HW := mkHid hW
  have HbW := mkHid hbW
  have Hblk := mkHid hblk
  have Hj := mkHid hj
  have Hcs := mkHid hcs
  have Ht := mkHid ht
  have HR := mkHid hR
  have hlL : Hid (w.heap.size < W.heap.size) := mkHid (lt_of_blk hblkL)
  have hrw := h.rl
  have hgw := h.gl
  clear h hW hbW hblk hj hcs ht hblkL hR hn
  go_enter Tryd.func27, Tryd.ntmps27
  go_wp2_with fail
  rw [← HW.out]
  refine cN.out.mono ?_
  rintro e W1 ⟨rfl, hD1⟩
  obtain ⟨hd1, hL1, h21⟩ := hD1
  have hbk1 : W1.heap[b]? = some (.cells cs T (0, 0)) := (h21.keep b (Nat.lt_trans hbl hlL.out) hb (by omega)).trans ((HbW.out.block b hbl).trans Hblk.out)
  have cL : W1.cell? ⟨w.heap.size, 0, none⟩ = some (.int .i64 n) := by simp [World.cell?, hL1]
  have cB := mkHid (decBytes g r b jo n (F.drop k) cs cs' T W1 hd1 hb hbr hbk1 t0 t Hj.out Ht.out Hcs.out (by rw [List.length_drop]; omega) (by rw [List.length_drop]; omega))
  have H2 : Hid (D2 g b w W1) := mkHid (D2.new HbW.out h21 (Nat.le_refl _))
  clear hd1 hL1 h21 hbk1 cb cN
  go_wp2_with fail
  refine cB.out.mono ?_
  rintro e W2 ⟨rfl, hD2⟩
  have HR2 : Hid (DecR g r b R cs' T w W2) := mkHid (by
    obtain ⟨h1, h2, h3⟩ := hD2
    rw [List.drop_drop] at h1
    rw [HR.out]
    exact ⟨h1, h2, H2.out.trans h3⟩)
  clear hD2
  go_wp2
  exact bodyPost_end (v := .tuple #[]) (results_none Tryd.results27 _ _ _) rfl ⟨rfl, HR2.out⟩
set_option maxRecDepth 20000 in
set_option maxHeartbeats 4000000 in
theorem decName (g r b jo n : Nat) (F : List UInt8) (cs cs' : Array Value) (T : TypeId) (w : World) (h : Dec g r F w) (hb : b ≠ g) (hbr : b ≠ r) (hblk : w.heap[b]? = some (.cells cs T (0, 0))) (t0 t : ByteArray) (hj : cs[jo]? = some (.string t0)) (ht : t = ⟨((F.drop 1).take n).toArray⟩) (hcs : cs' = cs.setIfInBounds jo (.string t)) (hn : num (F.take 1) = n) (hnF : 1 + n ≤ F.length) (hF : F.length ≤ 1000000) (R : List UInt8) (hR : R = F.drop (1 + n)) :
    Calls Tryd.prog 24 #[.iface 80 (.pointer (some ⟨g, 0, none⟩)), .pointer (some ⟨b, jo, none⟩)] w fun e w' => e = .returned (.tuple #[]) ∧ DecR g r b R cs' T w w' := by
  have hlt := num_lt 1 (F.take 1) (by rw [List.length_take]; omega)
  have cN := mkHid (decText g r b jo 1 255 n F cs cs' T w h hb hbr hblk t0 t hj ht hcs hn (by omega) (by omega) (by omega) hnF hF R hR)
  clear h hblk hj hcs ht hR hlt hn
  go_enter Tryd.func24, Tryd.ntmps24
  go_wp2_with fail
  refine cN.out.mono ?_
  rintro e w' ⟨rfl, hR⟩
  have HR := mkHid hR
  clear hR
  go_wp2
  exact bodyPost_end (v := .tuple #[]) (results_none Tryd.results24 _ _ _) rfl ⟨rfl, HR.out⟩
end Go.Proofs.YtillilllceeonaaDoor
