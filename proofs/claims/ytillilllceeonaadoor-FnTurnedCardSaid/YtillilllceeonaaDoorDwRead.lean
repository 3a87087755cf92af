
/- The program's walkFrame with a decoder. -/

/- The program's decoder.op, onlyOp, and errors.Is at one and the same sentinel. -/
import Derived.Test.YtillilllceeonaaDoorDwBad
import Derived.OrdersHeld
import Derived.LaidEql
import Derived.Stop.Asserts
import Derived.Laws.ResultCell
namespace Go.Proofs.YtillilllceeonaaDoor
open Go.RowKit Go.Lib Go.Maps
set_option maxRecDepth 20000 in
set_option maxHeartbeats 8000000 in
theorem decFrame (g r b s : Nat) (t : ByteArray) (F G : List UInt8) (w : World) (h : Dec g r F w) (hb : b ≠ g) (hbr : b ≠ r) (hblk : w.heap[b]? = some (.cells #[.int .i64 0, .int .i64 0, .int .i64 0, .string ⟨#[]⟩] 50 (0, 0))) (ht : t.size ≤ 200000) (ht1 : 1 ≤ t.size) (hs : s ≤ 4294967295) (hFe : F = be 1 70 ++ (be 4 t.size ++ (be 4 s ++ (t.data.toList ++ G)))) (hF : F.length ≤ 1000000) :
    Calls Tryd.prog 14 #[.iface 80 (.pointer (some ⟨g, 0, none⟩)), .pointer (some ⟨b, 0, none⟩)] w fun e w' => e = .returned (.tuple #[]) ∧ DecR g r b G #[.int .i64 70, .int .i64 (t.size : Int), .int .i64 (s : Int), .string t] 50 w w' := by
  obtain ⟨F4, h4⟩ : ∃ X, X = t.data.toList ++ G := ⟨_, rfl⟩
  rw [← h4] at hFe
  obtain ⟨F3, h3⟩ : ∃ X, X = be 4 s ++ F4 := ⟨_, rfl⟩
  rw [← h3] at hFe
  obtain ⟨F2, h2⟩ : ∃ X, X = be 4 t.size ++ F3 := ⟨_, rfl⟩
  rw [← h2] at hFe
  have htl : t.data.toList.length = t.size := by simp
  have l2 : F2.length ≤ 1000000 := by rw [hFe, List.length_append] at hF; omega
  have l3 : F3.length ≤ 1000000 := by rw [h2, List.length_append] at l2; omega
  have l4 : F4.length ≤ 1000000 := by rw [h3, List.length_append] at l3; omega
  have n2 : 4 ≤ F2.length := by rw [h2, List.length_append, be_len]; omega
  have n3 : 4 ≤ F3.length := by rw [h3, List.length_append, be_len]; omega
  have n4 : t.size ≤ F4.length := by rw [h4, List.length_append]; omega
  have hbd : Below w.heap.size w w.drew := (Below.refl w.heap.size w).drew
  have cA := mkHid (decNumber g r b 0 1 70 70 70 F _ #[.int .i64 70, .int .i64 0, .int .i64 0, .string ⟨#[]⟩] 50 w.drew (h.below hbd) hb hbr hblk 0 rfl rfl (by rw [hFe, List.length_append, be_len]; omega) (by rw [hFe, take_be, num_be]) (by omega) (by omega) (by omega) (by omega) hF)
  rw [hFe, drop_be] at cA
  have e2 := mkHid h2
  have e3 := mkHid h3
  have e4 := mkHid h4
  have Hbd : Hid (D2 g b w w.drew) := mkHid (D2.of_below hbd)
  clear h2 h3 h4 hFe h hblk hbd hF
  go_enter Tryd.func14, Tryd.ntmps14
  go_wp2
  refine wp_region_any (by kernel_rfl) ?_
  refine wpAny_take (i := 0) (v := .iface 80 (.pointer (some ⟨g, 0, none⟩))) rfl (by kernel_rfl) (by kernel_rfl) (by kernel_rfl) (fun _ _ _ h => h) (Or.inl ⟨by rfl, ?_⟩) ?_
  · intro w
    go_simp
    all_goals first | done | (intro h; exfalso; omega) | omega
  go_simp
  refine wpAny_take (i := 1) (v := .pointer (some ⟨b, 0, none⟩)) rfl (by kernel_rfl) (by kernel_rfl) (by kernel_rfl) (fun _ _ _ h => h) (Or.inl ⟨by rfl, ?_⟩) ?_
  · intro w
    go_simp
    all_goals first | done | (intro h; exfalso; omega) | omega
  go_simp
  refine wpAny_take (i := 2) (v := .pointer (some ⟨b, 0, none⟩)) rfl (by kernel_rfl) (by kernel_rfl) (by kernel_rfl) (fun _ _ _ h => h) (Or.inl ⟨by rfl, ?_⟩) ?_
  · intro w
    go_simp
    all_goals first | done | (intro h; exfalso; omega) | omega
  go_simp
  refine wpAny_take (i := 3) (v := .pointer (some ⟨b, 0, none⟩)) rfl (by kernel_rfl) (by kernel_rfl) (by kernel_rfl) (fun _ _ _ h => h) (Or.inl ⟨by rfl, ?_⟩) ?_
  · intro w
    go_simp
    all_goals first | done | (intro h; exfalso; omega) | omega
  go_simp
  refine wpAny_take (i := 4) (v := .func (.method "loop.example/g00013/impl.number") #[.iface 80 (.pointer (some ⟨g, 0, none⟩))] #[]) rfl (by kernel_rfl) (by kernel_rfl) (by kernel_rfl) (fun _ _ _ h => h) (Or.inl ⟨by rfl, ?_⟩) ?_
  · intro w
    go_simp
    all_goals first | done | (intro h; exfalso; omega) | omega
  go_simp
  refine wpAny_ready (rs := [5]) (by kernel_rfl) (by simp) ?_
  refine AllReady.cons rfl (fun K hK => ?_) AllReady.nil
  go_simp
  rw [nilDeN]
  go_simp
  refine hK _ _ ?_
  clear hK K
  go_simp
  refine wpAny_ready (rs := [6]) (by kernel_rfl) (by simp) ?_
  refine AllReady.cons rfl (fun K hK => ?_) AllReady.nil
  go_simp
  refine hK _ _ ?_
  clear hK K
  go_simp
  refine wpAny_ready (rs := [7]) (by kernel_rfl) (by simp) ?_
  refine AllReady.cons rfl (fun K hK => ?_) AllReady.nil
  go_simp
  simp only [methDeN, Result.andThen, entersDeN]
  go_simp
  refine cA.out.mono ?_
  rintro e W1 ⟨rfl, hd1, hb1, h21⟩
  have hbd : Below W1.heap.size W1 W1.drew := (Below.refl W1.heap.size W1).drew
  have H1 := mkHid ((Hbd.out.trans h21).trans (D2.of_below (g := g) (b := b) hbd))
  have c1 := mkHid (decNumber g r b 1 4 t.size 1 200000 F2 _ #[.int .i64 70, .int .i64 (t.size : Int), .int .i64 0, .string ⟨#[]⟩] 50 W1.drew (hd1.below hbd) hb hbr hb1 0 rfl rfl n2 (by rw [e2.out, take_be, num_be]; omega) (by omega) (by omega) (by omega) (by omega) l2)
  clear hd1 hb1 h21 cA Hbd hbd
  refine hK _ _ ?_
  clear hK K
  go_simp
  refine wpAny_done (by kernel_rfl) ?_ _
  go_wp2
  refine wp_region_any (by kernel_rfl) ?_
  refine wpAny_take (i := 0) (v := .iface 80 (.pointer (some ⟨g, 0, none⟩))) rfl (by kernel_rfl) (by kernel_rfl) (by kernel_rfl) (fun _ _ _ h => h) (Or.inl ⟨by rfl, ?_⟩) ?_
  · intro w
    go_simp
    all_goals first | done | (intro h; exfalso; omega) | omega
  go_simp
  refine wpAny_take (i := 1) (v := .pointer (some ⟨b, 0, none⟩)) rfl (by kernel_rfl) (by kernel_rfl) (by kernel_rfl) (fun _ _ _ h => h) (Or.inl ⟨by rfl, ?_⟩) ?_
  · intro w
    go_simp
    all_goals first | done | (intro h; exfalso; omega) | omega
  go_simp
  refine wpAny_take (i := 2) (v := .pointer (some ⟨b, 0, none⟩)) rfl (by kernel_rfl) (by kernel_rfl) (by kernel_rfl) (fun _ _ _ h => h) (Or.inl ⟨by rfl, ?_⟩) ?_
  · intro w
    go_simp
    all_goals first | done | (intro h; exfalso; omega) | omega
  go_simp
  refine wpAny_take (i := 3) (v := .pointer (some ⟨b, 1, none⟩)) rfl (by kernel_rfl) (by kernel_rfl) (by kernel_rfl) (fun _ _ _ h => h) (Or.inl ⟨by rfl, ?_⟩) ?_
  · intro w
    go_simp
    all_goals first | done | (intro h; exfalso; omega) | omega
  go_simp
  refine wpAny_take (i := 4) (v := .func (.method "loop.example/g00013/impl.number") #[.iface 80 (.pointer (some ⟨g, 0, none⟩))] #[]) rfl (by kernel_rfl) (by kernel_rfl) (by kernel_rfl) (fun _ _ _ h => h) (Or.inl ⟨by rfl, ?_⟩) ?_
  · intro w
    go_simp
    all_goals first | done | (intro h; exfalso; omega) | omega
  go_simp
  refine wpAny_ready (rs := [5]) (by kernel_rfl) (by simp) ?_
  refine AllReady.cons rfl (fun K hK => ?_) AllReady.nil
  go_simp
  rw [nilDeN]
  go_simp
  refine hK _ _ ?_
  clear hK K
  go_simp
  refine wpAny_ready (rs := [6]) (by kernel_rfl) (by simp) ?_
  refine AllReady.cons rfl (fun K hK => ?_) AllReady.nil
  go_simp
  refine hK _ _ ?_
  clear hK K
  go_simp
  refine wpAny_ready (rs := [7]) (by kernel_rfl) (by simp) ?_
  refine AllReady.cons rfl (fun K hK => ?_) AllReady.nil
  go_simp
  simp only [methDeN, Result.andThen, entersDeN]
  go_simp
  refine c1.out.mono ?_
  rintro e W2 ⟨rfl, hd2, hb2, h22⟩
  rw [e2.out, drop_be] at hd2
  have H2 := mkHid (H1.out.trans h22)
  have c2 := mkHid (decWord g r b 2 s F3 _ #[.int .i64 70, .int .i64 (t.size : Int), .int .i64 (s : Int), .string ⟨#[]⟩] 50 W2 hd2 hb hbr hb2 0 rfl rfl n3 (by rw [e3.out, take_be, num_be]; omega) l3)
  clear hd2 hb2 h22 c1 H1
  refine hK _ _ ?_
  clear hK K
  go_simp
  refine wpAny_done (by kernel_rfl) ?_ _
  go_wp2_with fail
  refine c2.out.mono ?_
  rintro e W3 ⟨rfl, hd3, hb3, h23⟩
  rw [e3.out, drop_be] at hd3
  have hbd : Below W3.heap.size W3 W3.drew := (Below.refl W3.heap.size W3).drew
  have H3 := mkHid ((H2.out.trans h23).trans (D2.of_below (g := g) (b := b) hbd))
  have y3 : W3.cell? ⟨b, 1, none⟩ = some (.int .i64 (t.size : Int)) := by simp [World.cell?, hb3]
  have c3 := mkHid (decBytes g r b 3 t.size F4 _ #[.int .i64 70, .int .i64 (t.size : Int), .int .i64 (s : Int), .string t] 50 W3.drew (hd3.below hbd) hb hbr hb3 ⟨#[]⟩ t rfl (by rw [e4.out, ← htl, List.take_left]) rfl n4 l4)
  clear hd3 hb3 h23 c2 H2 hbd
  go_wp2
  refine wp_region_any (by kernel_rfl) ?_
  refine wpAny_take (i := 0) (v := .iface 80 (.pointer (some ⟨g, 0, none⟩))) rfl (by kernel_rfl) (by kernel_rfl) (by kernel_rfl) (fun _ _ _ h => h) (Or.inl ⟨by rfl, ?_⟩) ?_
  · intro w
    go_simp
    all_goals first | done | (intro h; exfalso; omega) | omega
  go_simp
  refine wpAny_take (i := 1) (v := .pointer (some ⟨b, 0, none⟩)) rfl (by kernel_rfl) (by kernel_rfl) (by kernel_rfl) (fun _ _ _ h => h) (Or.inl ⟨by rfl, ?_⟩) ?_
  · intro w
    go_simp
    all_goals first | done | (intro h; exfalso; omega) | omega
  go_simp
  refine wpAny_take (i := 2) (v := .pointer (some ⟨b, 0, none⟩)) rfl (by kernel_rfl) (by kernel_rfl) (by kernel_rfl) (fun _ _ _ h => h) (Or.inl ⟨by rfl, ?_⟩) ?_
  · intro w
    go_simp
    all_goals first | done | (intro h; exfalso; omega) | omega
  go_simp
  refine wpAny_take (i := 3) (v := .pointer (some ⟨b, 3, none⟩)) rfl (by kernel_rfl) (by kernel_rfl) (by kernel_rfl) (fun _ _ _ h => h) (Or.inl ⟨by rfl, ?_⟩) ?_
  · intro w
    go_simp
    all_goals first | done | (intro h; exfalso; omega) | omega
  go_simp
  refine wpAny_take (i := 4) (v := .pointer (some ⟨b, 0, none⟩)) rfl (by kernel_rfl) (by kernel_rfl) (by kernel_rfl) (fun _ _ _ h => h) (Or.inl ⟨by rfl, ?_⟩) ?_
  · intro w
    go_simp
    all_goals first | done | (intro h; exfalso; omega) | omega
  go_simp
  refine wpAny_take (i := 5) (v := .pointer (some ⟨b, 0, none⟩)) rfl (by kernel_rfl) (by kernel_rfl) (by kernel_rfl) (fun _ _ _ h => h) (Or.inl ⟨by rfl, ?_⟩) ?_
  · intro w
    go_simp
    all_goals first | done | (intro h; exfalso; omega) | omega
  go_simp
  refine wpAny_take (i := 6) (v := .pointer (some ⟨b, 1, none⟩)) rfl (by kernel_rfl) (by kernel_rfl) (by kernel_rfl) (fun _ _ _ h => h) (Or.inl ⟨by rfl, ?_⟩) ?_
  · intro w
    go_simp
    all_goals first | done | (intro h; exfalso; omega) | omega
  go_simp
  refine wpAny_take (i := 8) (v := .func (.method "loop.example/g00013/impl.bytes") #[.iface 80 (.pointer (some ⟨g, 0, none⟩))] #[]) rfl (by kernel_rfl) (by kernel_rfl) (by kernel_rfl) (fun _ _ _ h => h) (Or.inl ⟨by rfl, ?_⟩) ?_
  · intro w
    go_simp
    all_goals first | done | (intro h; exfalso; omega) | omega
  go_simp
  refine wpAny_ready (rs := [7, 9]) (by kernel_rfl) (by simp) ?_
  refine AllReady.cons rfl (fun K hK => ?_) (AllReady.cons rfl (fun K hK => ?_) AllReady.nil)
  · go_simp
    refine hK _ _ ?_
    clear hK K
    go_simp
    refine wpAny_ready (rs := [9]) (by kernel_rfl) (by simp) ?_
    refine AllReady.cons rfl (fun K hK => ?_) AllReady.nil
    go_simp
    rw [nilDeB]
    go_simp
    refine hK _ _ ?_
    clear hK K
    go_simp
    refine wpAny_take (i := 10) (v := .iface 80 (.pointer (some ⟨g, 0, none⟩))) rfl (by kernel_rfl) (by kernel_rfl) (by kernel_rfl) (fun _ _ _ h => h) (Or.inl ⟨by rfl, ?_⟩) ?_
    · intro w
      go_simp
      all_goals first | done | (intro h; exfalso; omega) | omega
    go_simp
    refine wpAny_ready (rs := [11]) (by kernel_rfl) (by simp) ?_
    refine AllReady.cons rfl (fun K hK => ?_) AllReady.nil
    go_simp
    simp only [methDeB, Result.andThen, entersDeB]
    go_simp
    refine c3.out.mono ?_
    rintro e W4 ⟨rfl, hd4, hb4, h24⟩
    have hdG : F4.drop t.size = G := by rw [e4.out, ← htl, List.drop_left]
    rw [hdG] at hd4
    have HO : Hid (DecR g r b G #[.int .i64 70, .int .i64 (t.size : Int), .int .i64 (s : Int), .string t] 50 w W4) := mkHid ⟨hd4, hb4, H3.out.trans h24⟩
    refine hK _ _ ?_
    clear hK K hd4 hb4 h24 hdG
    go_simp
    refine wpAny_done (by kernel_rfl) ?_ _
    exact bodyPost_end (v := .tuple #[]) (results_none Tryd.results14 _ _ _) rfl ⟨rfl, HO.out⟩
  · go_simp
    rw [nilDeB]
    go_simp
    refine hK _ _ ?_
    clear hK K
    go_simp
    refine wpAny_take (i := 10) (v := .iface 80 (.pointer (some ⟨g, 0, none⟩))) rfl (by kernel_rfl) (by kernel_rfl) (by kernel_rfl) (fun _ _ _ h => h) (Or.inl ⟨by rfl, ?_⟩) ?_
    · intro w
      go_simp
      all_goals first | done | (intro h; exfalso; omega) | omega
    go_simp
    refine wpAny_ready (rs := [7]) (by kernel_rfl) (by simp) ?_
    refine AllReady.cons rfl (fun K hK => ?_) AllReady.nil
    go_simp
    refine hK _ _ ?_
    clear hK K
    go_simp
    refine wpAny_ready (rs := [11]) (by kernel_rfl) (by simp) ?_
    refine AllReady.cons rfl (fun K hK => ?_) AllReady.nil
    go_simp
    simp only [methDeB, Result.andThen, entersDeB]
    go_simp
    refine c3.out.mono ?_
    rintro e W4 ⟨rfl, hd4, hb4, h24⟩
    have hdG : F4.drop t.size = G := by rw [e4.out, ← htl, List.drop_left]
    rw [hdG] at hd4
    have HO : Hid (DecR g r b G #[.int .i64 70, .int .i64 (t.size : Int), .int .i64 (s : Int), .string t] 50 w W4) := mkHid ⟨hd4, hb4, H3.out.trans h24⟩
    refine hK _ _ ?_
    clear hK K hd4 hb4 h24 hdG
    go_simp
    refine wpAny_done (by kernel_rfl) ?_ _
    exact bodyPost_end (v := .tuple #[]) (results_none Tryd.results14 _ _ _) rfl ⟨rfl, HO.out⟩
set_option maxRecDepth 20000 in
set_option maxHeartbeats 4000000 in
theorem decWordX (g : Nat) (et : TypeId) (ep : Value) (a : Addr) (w : World) (h : DecX g et ep w) :
    Calls Tryd.prog 22 #[.iface 80 (.pointer (some ⟨g, 0, none⟩)), .pointer (some a)] w fun e w' => e = .returned (.tuple #[]) ∧ w = w' := by
  have cN := mkHid (decNumberX g 4 et ep a 0 4294967295 w h)
  clear h
  go_enter Tryd.func22, Tryd.ntmps22
  go_wp2_with fail
  refine cN.out.mono ?_
  rintro e W ⟨rfl, rfl⟩
  go_wp2
  exact bodyPost_end (v := .tuple #[]) (results_none Tryd.results22 _ _ _) rfl ⟨rfl, rfl⟩
/-- What walkFrame leaves where no bytes are. -/
def FrX (g b : Nat) (et : TypeId) (ep : Value) (w w' : World) : Prop := DecX g et ep w' ∧ w'.heap[b]? = some (.cells #[.int .i64 0, .int .i64 0, .int .i64 0, .string ⟨#[]⟩] 50 (0, 0)) ∧ D2 g b w w'
set_option maxRecDepth 20000 in
theorem DecX.below {g : Nat} {et : TypeId} {ep : Value} {w w' : World} (h : DecX g et ep w) (hb : Below w.heap.size w w') : DecX g et ep w' := by
  obtain ⟨o, m, c, h1⟩ := h
  exact ⟨o, m, c, (hb.block g (lt_of_blk h1)).trans h1⟩
set_option maxRecDepth 20000 in
set_option maxHeartbeats 8000000 in
theorem decFrameX (g r b : Nat) (et : TypeId) (ep : Value) (w : World) (h : Dec g r [] w) (hs : w.cell? ⟨1, 0, none⟩ = some (.iface et ep)) (hb : b ≠ g) (hblk : w.heap[b]? = some (.cells #[.int .i64 0, .int .i64 0, .int .i64 0, .string ⟨#[]⟩] 50 (0, 0))) :
    Calls Tryd.prog 14 #[.iface 80 (.pointer (some ⟨g, 0, none⟩)), .pointer (some ⟨b, 0, none⟩)] w fun e w' => e = .returned (.tuple #[]) ∧ FrX g b et ep w w' := by
  have hbd : Below w.heap.size w w.drew := (Below.refl w.heap.size w).drew
  have cA := mkHid (decNumberLack g r 1 [] et ep ⟨b, 0, none⟩ 70 70 w.drew (h.below hbd) hs (by simp))
  have Hbd : Hid (D2 g b w w.drew) := mkHid (D2.of_below hbd)
  have Hblk := mkHid hblk
  have hbl := lt_of_blk hblk
  clear h hblk hbd hs
  go_enter Tryd.func14, Tryd.ntmps14
  go_wp2
  refine wp_region_any (by kernel_rfl) ?_
  refine wpAny_take (i := 0) (v := .iface 80 (.pointer (some ⟨g, 0, none⟩))) rfl (by kernel_rfl) (by kernel_rfl) (by kernel_rfl) (fun _ _ _ h => h) (Or.inl ⟨by rfl, ?_⟩) ?_
  · intro w
    go_simp
    all_goals first | done | (intro h; exfalso; omega) | omega
  go_simp
  refine wpAny_take (i := 1) (v := .pointer (some ⟨b, 0, none⟩)) rfl (by kernel_rfl) (by kernel_rfl) (by kernel_rfl) (fun _ _ _ h => h) (Or.inl ⟨by rfl, ?_⟩) ?_
  · intro w
    go_simp
    all_goals first | done | (intro h; exfalso; omega) | omega
  go_simp
  refine wpAny_take (i := 2) (v := .pointer (some ⟨b, 0, none⟩)) rfl (by kernel_rfl) (by kernel_rfl) (by kernel_rfl) (fun _ _ _ h => h) (Or.inl ⟨by rfl, ?_⟩) ?_
  · intro w
    go_simp
    all_goals first | done | (intro h; exfalso; omega) | omega
  go_simp
  refine wpAny_take (i := 3) (v := .pointer (some ⟨b, 0, none⟩)) rfl (by kernel_rfl) (by kernel_rfl) (by kernel_rfl) (fun _ _ _ h => h) (Or.inl ⟨by rfl, ?_⟩) ?_
  · intro w
    go_simp
    all_goals first | done | (intro h; exfalso; omega) | omega
  go_simp
  refine wpAny_take (i := 4) (v := .func (.method "loop.example/g00013/impl.number") #[.iface 80 (.pointer (some ⟨g, 0, none⟩))] #[]) rfl (by kernel_rfl) (by kernel_rfl) (by kernel_rfl) (fun _ _ _ h => h) (Or.inl ⟨by rfl, ?_⟩) ?_
  · intro w
    go_simp
    all_goals first | done | (intro h; exfalso; omega) | omega
  go_simp
  refine wpAny_ready (rs := [5]) (by kernel_rfl) (by simp) ?_
  refine AllReady.cons rfl (fun K hK => ?_) AllReady.nil
  go_simp
  rw [nilDeN]
  go_simp
  refine hK _ _ ?_
  clear hK K
  go_simp
  refine wpAny_ready (rs := [6]) (by kernel_rfl) (by simp) ?_
  refine AllReady.cons rfl (fun K hK => ?_) AllReady.nil
  go_simp
  refine hK _ _ ?_
  clear hK K
  go_simp
  refine wpAny_ready (rs := [7]) (by kernel_rfl) (by simp) ?_
  refine AllReady.cons rfl (fun K hK => ?_) AllReady.nil
  go_simp
  simp only [methDeN, Result.andThen, entersDeN]
  go_simp
  refine cA.out.mono ?_
  rintro e W1 ⟨rfl, hx1, hg1⟩
  have hbd : Below W1.heap.size W1 W1.drew := (Below.refl W1.heap.size W1).drew
  have H1 := mkHid ((Hbd.out.trans (D2.of_gr (b := b) hg1)).trans (D2.of_below (g := g) (b := b) hbd))
  have hb1 : W1.heap[b]? = some (.cells #[.int .i64 0, .int .i64 0, .int .i64 0, .string ⟨#[]⟩] 50 (0, 0)) := (hg1.block b hbl (by intro e; cases e; exact hb rfl)).trans Hblk.out
  have HX1 := mkHid (hx1.below hbd)
  have c1 := mkHid (decNumberX g 4 et ep ⟨b, 1, none⟩ 1 200000 W1.drew HX1.out)
  have Hb1 := mkHid hb1
  clear hx1 hb1 hg1 cA Hbd hbd
  refine hK _ _ ?_
  clear hK K
  go_simp
  refine wpAny_done (by kernel_rfl) ?_ _
  go_wp2
  refine wp_region_any (by kernel_rfl) ?_
  refine wpAny_take (i := 0) (v := .iface 80 (.pointer (some ⟨g, 0, none⟩))) rfl (by kernel_rfl) (by kernel_rfl) (by kernel_rfl) (fun _ _ _ h => h) (Or.inl ⟨by rfl, ?_⟩) ?_
  · intro w
    go_simp
    all_goals first | done | (intro h; exfalso; omega) | omega
  go_simp
  refine wpAny_take (i := 1) (v := .pointer (some ⟨b, 0, none⟩)) rfl (by kernel_rfl) (by kernel_rfl) (by kernel_rfl) (fun _ _ _ h => h) (Or.inl ⟨by rfl, ?_⟩) ?_
  · intro w
    go_simp
    all_goals first | done | (intro h; exfalso; omega) | omega
  go_simp
  refine wpAny_take (i := 2) (v := .pointer (some ⟨b, 0, none⟩)) rfl (by kernel_rfl) (by kernel_rfl) (by kernel_rfl) (fun _ _ _ h => h) (Or.inl ⟨by rfl, ?_⟩) ?_
  · intro w
    go_simp
    all_goals first | done | (intro h; exfalso; omega) | omega
  go_simp
  refine wpAny_take (i := 3) (v := .pointer (some ⟨b, 1, none⟩)) rfl (by kernel_rfl) (by kernel_rfl) (by kernel_rfl) (fun _ _ _ h => h) (Or.inl ⟨by rfl, ?_⟩) ?_
  · intro w
    go_simp
    all_goals first | done | (intro h; exfalso; omega) | omega
  go_simp
  refine wpAny_take (i := 4) (v := .func (.method "loop.example/g00013/impl.number") #[.iface 80 (.pointer (some ⟨g, 0, none⟩))] #[]) rfl (by kernel_rfl) (by kernel_rfl) (by kernel_rfl) (fun _ _ _ h => h) (Or.inl ⟨by rfl, ?_⟩) ?_
  · intro w
    go_simp
    all_goals first | done | (intro h; exfalso; omega) | omega
  go_simp
  refine wpAny_ready (rs := [5]) (by kernel_rfl) (by simp) ?_
  refine AllReady.cons rfl (fun K hK => ?_) AllReady.nil
  go_simp
  rw [nilDeN]
  go_simp
  refine hK _ _ ?_
  clear hK K
  go_simp
  refine wpAny_ready (rs := [6]) (by kernel_rfl) (by simp) ?_
  refine AllReady.cons rfl (fun K hK => ?_) AllReady.nil
  go_simp
  refine hK _ _ ?_
  clear hK K
  go_simp
  refine wpAny_ready (rs := [7]) (by kernel_rfl) (by simp) ?_
  refine AllReady.cons rfl (fun K hK => ?_) AllReady.nil
  go_simp
  simp only [methDeN, Result.andThen, entersDeN]
  go_simp
  refine c1.out.mono ?_
  rintro e W2 ⟨rfl, hW2⟩
  have HX2 := HX1
  rw [hW2] at HX2 H1
  have hb2 : W2.heap[b]? = some (.cells #[.int .i64 0, .int .i64 0, .int .i64 0, .string ⟨#[]⟩] 50 (0, 0)) := by rw [← hW2]; exact Hb1.out
  have c2 := mkHid (decWordX g et ep ⟨b, 2, none⟩ W2 HX2.out)
  have Hb2 := mkHid hb2
  clear c1 HX1 Hb1 hW2 hb2
  refine hK _ _ ?_
  clear hK K
  go_simp
  refine wpAny_done (by kernel_rfl) ?_ _
  go_wp2_with fail
  refine c2.out.mono ?_
  rintro e W3 ⟨rfl, hW3⟩
  rw [hW3] at HX2 H1 Hb2
  have hbd : Below W3.heap.size W3 W3.drew := (Below.refl W3.heap.size W3).drew
  have HX3 := mkHid (HX2.out.below hbd)
  have H3 := mkHid (H1.out.trans (D2.of_below (g := g) (b := b) hbd))
  have y3 : W3.cell? ⟨b, 1, none⟩ = some (.int .i64 0) := by simp [World.cell?, Hb2.out]
  have c3 := mkHid (decBytesX g b 3 0 et ep _ #[.int .i64 0, .int .i64 0, .int .i64 0, .string ⟨#[]⟩] 50 W3.drew HX3.out Hb2.out ⟨#[]⟩ rfl rfl)
  clear hW3 c2 H1 hbd HX2
  go_wp2
  refine wp_region_any (by kernel_rfl) ?_
  refine wpAny_take (i := 0) (v := .iface 80 (.pointer (some ⟨g, 0, none⟩))) rfl (by kernel_rfl) (by kernel_rfl) (by kernel_rfl) (fun _ _ _ h => h) (Or.inl ⟨by rfl, ?_⟩) ?_
  · intro w
    go_simp
    all_goals first | done | (intro h; exfalso; omega) | omega
  go_simp
  refine wpAny_take (i := 1) (v := .pointer (some ⟨b, 0, none⟩)) rfl (by kernel_rfl) (by kernel_rfl) (by kernel_rfl) (fun _ _ _ h => h) (Or.inl ⟨by rfl, ?_⟩) ?_
  · intro w
    go_simp
    all_goals first | done | (intro h; exfalso; omega) | omega
  go_simp
  refine wpAny_take (i := 2) (v := .pointer (some ⟨b, 0, none⟩)) rfl (by kernel_rfl) (by kernel_rfl) (by kernel_rfl) (fun _ _ _ h => h) (Or.inl ⟨by rfl, ?_⟩) ?_
  · intro w
    go_simp
    all_goals first | done | (intro h; exfalso; omega) | omega
  go_simp
  refine wpAny_take (i := 3) (v := .pointer (some ⟨b, 3, none⟩)) rfl (by kernel_rfl) (by kernel_rfl) (by kernel_rfl) (fun _ _ _ h => h) (Or.inl ⟨by rfl, ?_⟩) ?_
  · intro w
    go_simp
    all_goals first | done | (intro h; exfalso; omega) | omega
  go_simp
  refine wpAny_take (i := 4) (v := .pointer (some ⟨b, 0, none⟩)) rfl (by kernel_rfl) (by kernel_rfl) (by kernel_rfl) (fun _ _ _ h => h) (Or.inl ⟨by rfl, ?_⟩) ?_
  · intro w
    go_simp
    all_goals first | done | (intro h; exfalso; omega) | omega
  go_simp
  refine wpAny_take (i := 5) (v := .pointer (some ⟨b, 0, none⟩)) rfl (by kernel_rfl) (by kernel_rfl) (by kernel_rfl) (fun _ _ _ h => h) (Or.inl ⟨by rfl, ?_⟩) ?_
  · intro w
    go_simp
    all_goals first | done | (intro h; exfalso; omega) | omega
  go_simp
  refine wpAny_take (i := 6) (v := .pointer (some ⟨b, 1, none⟩)) rfl (by kernel_rfl) (by kernel_rfl) (by kernel_rfl) (fun _ _ _ h => h) (Or.inl ⟨by rfl, ?_⟩) ?_
  · intro w
    go_simp
    all_goals first | done | (intro h; exfalso; omega) | omega
  go_simp
  refine wpAny_take (i := 8) (v := .func (.method "loop.example/g00013/impl.bytes") #[.iface 80 (.pointer (some ⟨g, 0, none⟩))] #[]) rfl (by kernel_rfl) (by kernel_rfl) (by kernel_rfl) (fun _ _ _ h => h) (Or.inl ⟨by rfl, ?_⟩) ?_
  · intro w
    go_simp
    all_goals first | done | (intro h; exfalso; omega) | omega
  go_simp
  refine wpAny_ready (rs := [7, 9]) (by kernel_rfl) (by simp) ?_
  refine AllReady.cons rfl (fun K hK => ?_) (AllReady.cons rfl (fun K hK => ?_) AllReady.nil)
  · go_simp
    refine hK _ _ ?_
    clear hK K
    go_simp
    refine wpAny_ready (rs := [9]) (by kernel_rfl) (by simp) ?_
    refine AllReady.cons rfl (fun K hK => ?_) AllReady.nil
    go_simp
    rw [nilDeB]
    go_simp
    refine hK _ _ ?_
    clear hK K
    go_simp
    refine wpAny_take (i := 10) (v := .iface 80 (.pointer (some ⟨g, 0, none⟩))) rfl (by kernel_rfl) (by kernel_rfl) (by kernel_rfl) (fun _ _ _ h => h) (Or.inl ⟨by rfl, ?_⟩) ?_
    · intro w
      go_simp
      all_goals first | done | (intro h; exfalso; omega) | omega
    go_simp
    refine wpAny_ready (rs := [11]) (by kernel_rfl) (by simp) ?_
    refine AllReady.cons rfl (fun K hK => ?_) AllReady.nil
    go_simp
    simp only [methDeB, Result.andThen, entersDeB]
    go_simp
    refine c3.out.mono ?_
    rintro e W4 ⟨rfl, hb4, hg4⟩
    have HO : Hid (FrX g b et ep w W4) := mkHid (by
      obtain ⟨o, m, c, h1⟩ := HX3.out
      refine ⟨⟨o, m, c, (hg4.block g (lt_of_blk h1) (by intro e; cases e; exact hb rfl)).trans h1⟩, hb4, H3.out.trans ⟨hg4.os, hg4.tape, hg4.output, hg4.size, fun k hk _ h2 => hg4.block k hk (by intro e; cases e; exact h2 rfl)⟩⟩)
    refine hK _ _ ?_
    clear hK K hb4 hg4
    go_simp
    refine wpAny_done (by kernel_rfl) ?_ _
    exact bodyPost_end (v := .tuple #[]) (results_none Tryd.results14 _ _ _) rfl ⟨rfl, HO.out⟩
  · go_simp
    rw [nilDeB]
    go_simp
    refine hK _ _ ?_
    clear hK K
    go_simp
    refine wpAny_take (i := 10) (v := .iface 80 (.pointer (some ⟨g, 0, none⟩))) rfl (by kernel_rfl) (by kernel_rfl) (by kernel_rfl) (fun _ _ _ h => h) (Or.inl ⟨by rfl, ?_⟩) ?_
    · intro w
      go_simp
      all_goals first | done | (intro h; exfalso; omega) | omega
    go_simp
    refine wpAny_ready (rs := [7]) (by kernel_rfl) (by simp) ?_
    refine AllReady.cons rfl (fun K hK => ?_) AllReady.nil
    go_simp
    refine hK _ _ ?_
    clear hK K
    go_simp
    refine wpAny_ready (rs := [11]) (by kernel_rfl) (by simp) ?_
    refine AllReady.cons rfl (fun K hK => ?_) AllReady.nil
    go_simp
    simp only [methDeB, Result.andThen, entersDeB]
    go_simp
    refine c3.out.mono ?_
    rintro e W4 ⟨rfl, hb4, hg4⟩
    have HO : Hid (FrX g b et ep w W4) := mkHid (by
      obtain ⟨o, m, c, h1⟩ := HX3.out
      refine ⟨⟨o, m, c, (hg4.block g (lt_of_blk h1) (by intro e; cases e; exact hb rfl)).trans h1⟩, hb4, H3.out.trans ⟨hg4.os, hg4.tape, hg4.output, hg4.size, fun k hk _ h2 => hg4.block k hk (by intro e; cases e; exact h2 rfl)⟩⟩)
    refine hK _ _ ?_
    clear hK K hb4 hg4
    go_simp
    refine wpAny_done (by kernel_rfl) ?_ _
    exact bodyPost_end (v := .tuple #[]) (results_none Tryd.results14 _ _ _) rfl ⟨rfl, HO.out⟩
end Go.Proofs.YtillilllceeonaaDoor
namespace Go.Proofs.YtillilllceeonaaDoor
open Go.RowKit Go.Lib Go.Maps
set_option maxRecDepth 20000 in
theorem isTypeOf (v : Value) (w : World) : (Extern.ReflectliteType.typeOf #[.iface 132 v]).run Tryd.prog w = .ok (.iface 119 (.agg #[.pointer (some ⟨4, 132, none⟩)])) w := by kernel_rfl
set_option maxRecDepth 20000 in
theorem isComparable (w : World) : ((Extern.ReflectliteType.method fun t => do Extern.Rtype.noPackHeld "Comparable" t; (fun a => Value.bool a.comparable) <$> typeInfo t) #[.agg #[.pointer (some ⟨4, 132, none⟩)]]).run Tryd.prog w = .ok (.bool true) w := by kernel_rfl
set_option maxRecDepth 20000 in
theorem isMethodComparable (v : Value) (w : World) : (Go.method 271 119 v "Comparable").run Tryd.prog w = .ok (104, v) w := by kernel_rfl
set_option maxRecDepth 20000 in
theorem isComp : (Tryd.prog.info? 132).map (·.comparable) = some true := by kernel_rfl
set_option maxRecDepth 20000 in
theorem isSize : (Tryd.prog.info? 159).map (·.size) = some 1 := by kernel_rfl
set_option maxRecDepth 20000 in
set_option maxHeartbeats 4000000 in
/-- errors.Is at one and the same sentinel. -/
theorem isSame (a : Addr) (w : World) :
    Calls Tryd.prog 42 #[.iface 132 (.pointer (some a)), .iface 132 (.pointer (some a))] w fun e w' => e = .returned (.bool true) ∧ w = w' := by
  obtain ⟨i, hi, hcmp⟩ := Option.map_eq_some_iff.1 isComp
  obtain ⟨j, hj, hjs⟩ := Option.map_eq_some_iff.1 isSize
  have h8 := @run_callFunc_extern Tryd.prog 54 _ Extern.ReflectliteType.typeOf Tryd.func54 (by kernel_rfl) (by kernel_rfl) (by kernel_rfl) (by kernel_rfl)
  have h32 := @run_callFunc_extern Tryd.prog 104 _ (Extern.ReflectliteType.method fun t => do Extern.Rtype.noPackHeld "Comparable" t; pure (.bool (← typeInfo t).comparable)) Tryd.func104 (by kernel_rfl) (by kernel_rfl) (by kernel_rfl) (by kernel_rfl)
  have tT := isTypeOf
  have cT := isComparable
  have mR := isMethodComparable
  have heq := run_eql_iface_ptr_same (P := Tryd.prog) w a Tryd.underlying42 Tryd.underlying132 hi hcmp hj
  go_enter Tryd.func42, Tryd.ntmps42
  go_wp2
  refine wp_loop_rounds 1 ?_
  rw [rounds_succ]
  go_wp2
  go_ret
  exact ⟨rfl, rfl⟩
set_option maxRecDepth 20000 in
theorem results_row_tmp {P : Program} {fn : Func} {p u : Tmp} {ty : TypeId} (h : fn.results = #[.cell p ty, .tmp u]) (tmps : Array Value) (w : World) (g : Nat) (t : TypeId) (cs : Array Value) (fr : Nat × Nat) (d : TypeDesc) (x : Value)
    (hp : tmps.getD p undef = .pointer (some ⟨g, 0, none⟩)) (hg : w.heap[g]? = some (.cells cs t fr))
    (hu : P.underlying ty = some d) (hd : (match d with | .struct _ | .array _ _ => true | _ => false) = true) (hi : (P.info? ty).map (·.size) = some cs.size) (hx : tmps.getD u undef = x) :
    (results fn tmps).run P w = .ok (.tuple #[.agg cs, x]) w := by
  rw [results_cell_tmp h, hp, hx]
  simp [asAddr, Result.andThen, run_loadVar_row w g t ty cs fr d hg hu hd hi]
/-- What decoder.op answers and leaves. -/
def OpM (g r : Nat) (q : OpP) (G : List UInt8) (w : World) (e : Ending) (w' : World) : Prop := ∃ uo uc fo fc, e = .returned (.tuple #[.agg #[.int .i64 q.k, .string q.bx, .string q.tt, .slice uo q.U.length uc, .slice fo q.P.length fc, .int .i64 q.tm, .int .i64 q.md, .string q.ms], .nilIface]) ∧ Dec g r G w' ∧ w.grownBy w' (some g)
set_option maxRecDepth 20000 in
set_option maxHeartbeats 8000000 in
theorem decOpM (g r : Nat) (q : OpP) (F G : List UInt8) (w : World) (h : Dec g r F w) (hq : q.full) (hFe : F = q.enc ++ G) (hF : F.length ≤ 1000000) :
    Calls Tryd.prog 40 #[.pointer (some ⟨g, 0, none⟩)] w fun e w' => OpM g r q G w e w' := by
  obtain ⟨W, hW⟩ : ∃ W, W = (w.alloc (.cells #[.int .i64 0, .string ⟨#[]⟩, .string ⟨#[]⟩, .slice none 0 0, .slice none 0 0, .int .i64 0, .int .i64 0, .string ⟨#[]⟩] 26)).alloc (.cells #[.int .i64 0, .string ⟨#[]⟩, .string ⟨#[]⟩, .slice none 0 0, .slice none 0 0, .int .i64 0, .int .i64 0, .string ⟨#[]⟩] 26) := ⟨_, rfl⟩
  have hbW : Below w.heap.size w W := by rw [hW]; exact ((Below.refl _ _).alloc (Nat.le_refl _) _).alloc (by simp) _
  have hsW : W.heap.size = w.heap.size + 2 := by rw [hW]; simp
  have hB : W.heap[w.heap.size + 1]? = some (.cells #[.int .i64 0, .string ⟨#[]⟩, .string ⟨#[]⟩, .slice none 0 0, .slice none 0 0, .int .i64 0, .int .i64 0, .string ⟨#[]⟩] 26 (0, 0)) := by
    rw [hW]
    have := hp_alloc (w.alloc (.cells #[.int .i64 0, .string ⟨#[]⟩, .string ⟨#[]⟩, .slice none 0 0, .slice none 0 0, .int .i64 0, .int .i64 0, .string ⟨#[]⟩] 26)) (.cells #[.int .i64 0, .string ⟨#[]⟩, .string ⟨#[]⟩, .slice none 0 0, .slice none 0 0, .int .i64 0, .int .i64 0, .string ⟨#[]⟩] 26)
    rwa [World.size_alloc] at this
  have hA : W.heap[w.heap.size]? = some (.cells #[.int .i64 0, .string ⟨#[]⟩, .string ⟨#[]⟩, .slice none 0 0, .slice none 0 0, .int .i64 0, .int .i64 0, .string ⟨#[]⟩] 26 (0, 0)) := by
    rw [hW, heap_alloc_old _ _ _ (by simp)]
    exact hp_alloc _ _
  have hgl := h.gl
  have hrl := h.rl
  have c1 := mkHid (decOp g r (w.heap.size + 1) q F G W (h.below hbW) (by omega) (by omega) hB hq hFe hF)
  obtain ⟨Q, hQ⟩ : ∃ Q, Q = OpM g r q G w := ⟨_, rfl⟩
  have HQ : Hid (∀ uo uc fo fc w', Dec g r G w' → w.grownBy w' (some g) → Q (.returned (.tuple #[.agg #[.int .i64 q.k, .string q.bx, .string q.tt, .slice uo q.U.length uc, .slice fo q.P.length fc, .int .i64 q.tm, .int .i64 q.md, .string q.ms], .nilIface])) w') := mkHid (by rw [hQ]; exact fun uo uc fo fc w' h1 h2 => ⟨uo, uc, fo, fc, rfl, h1, h2⟩)
  show Calls _ _ _ _ fun e w' => OpM g r q G w e w'
  rw [← hQ]
  have HW := mkHid hW
  have HbW := mkHid hbW
  have HsW := mkHid hsW
  have HA := mkHid hA
  clear h hFe hF hW hbW hB hA hQ hsW
  go_enter Tryd.func40, Tryd.ntmps40
  go_wp2_with fail
  rw [← HW.out]
  refine c1.out.mono ?_
  rintro e W2 ⟨rfl, hO⟩
  obtain ⟨uo, uc, fo, fc, hD2, hB2, h2⟩ := hO
  have hA2 : W2.heap[w.heap.size]? = some (.cells #[.int .i64 0, .string ⟨#[]⟩, .string ⟨#[]⟩, .slice none 0 0, .slice none 0 0, .int .i64 0, .int .i64 0, .string ⟨#[]⟩] 26 (0, 0)) := (h2.keep _ (by have := HsW.out; omega) (by omega) (by omega)).trans HA.out
  have HA2 := mkHid hA2
  have HS : Hid ((W2.drew.cell? ⟨w.heap.size + 1, 0, none⟩ = some (.int .i64 q.k) ∧ W2.drew.cell? ⟨w.heap.size + 1, 1, none⟩ = some (.string q.bx) ∧ W2.drew.cell? ⟨w.heap.size + 1, 2, none⟩ = some (.string q.tt) ∧ W2.drew.cell? ⟨w.heap.size + 1, 3, none⟩ = some (.slice uo q.U.length uc) ∧ W2.drew.cell? ⟨w.heap.size + 1, 4, none⟩ = some (.slice fo q.P.length fc) ∧ W2.drew.cell? ⟨w.heap.size + 1, 5, none⟩ = some (.int .i64 q.tm) ∧ W2.drew.cell? ⟨w.heap.size + 1, 6, none⟩ = some (.int .i64 q.md) ∧ W2.drew.cell? ⟨w.heap.size + 1, 7, none⟩ = some (.string q.ms)) ∧ W2.drew.cell? ⟨g, 1, none⟩ = some .nilIface) := mkHid (by
    obtain ⟨a, c, h1, -, -⟩ := hD2.ex
    refine ⟨⟨?_, ?_, ?_, ?_, ?_, ?_, ?_, ?_⟩, ?_⟩
    all_goals first | (show W2.cell? _ = _; simp [World.cell?, hB2]; done) | (show W2.cell? _ = _; simp [World.cell?, h1]; done))
  have HD2 := mkHid (hD2.below (Below.refl W2.heap.size W2).drew)
  have Hg2 : Hid (∀ cs, w.grownBy (W2.drew.setRow w.heap.size cs) (some g)) := mkHid (fun cs => by
    have hs := HsW.out
    refine ⟨h2.os.trans HbW.out.os, h2.tape.trans HbW.out.tape, h2.output.trans HbW.out.output, ?_, fun k hk hr => ?_⟩
    · have h5 := h2.size
      have h6 := (grown_setRow W2.drew w.heap.size cs).size
      have h7 : W2.drew.heap.size = W2.heap.size := rfl
      omega
    · rw [setRow_other W2.drew w.heap.size k cs (by omega)]
      exact (h2.keep k (by omega) (fun e => hr (by rw [e])) (by omega)).trans (HbW.out.block k hk))
  have HS2 : Hid (∀ cs, ((W2.drew.setRow w.heap.size cs).cell? ⟨w.heap.size + 1, 0, none⟩ = some (.int .i64 q.k) ∧ (W2.drew.setRow w.heap.size cs).cell? ⟨w.heap.size + 1, 1, none⟩ = some (.string q.bx) ∧ (W2.drew.setRow w.heap.size cs).cell? ⟨w.heap.size + 1, 2, none⟩ = some (.string q.tt) ∧ (W2.drew.setRow w.heap.size cs).cell? ⟨w.heap.size + 1, 3, none⟩ = some (.slice uo q.U.length uc) ∧ (W2.drew.setRow w.heap.size cs).cell? ⟨w.heap.size + 1, 4, none⟩ = some (.slice fo q.P.length fc) ∧ (W2.drew.setRow w.heap.size cs).cell? ⟨w.heap.size + 1, 5, none⟩ = some (.int .i64 q.tm) ∧ (W2.drew.setRow w.heap.size cs).cell? ⟨w.heap.size + 1, 6, none⟩ = some (.int .i64 q.md) ∧ (W2.drew.setRow w.heap.size cs).cell? ⟨w.heap.size + 1, 7, none⟩ = some (.string q.ms)) ∧ (W2.drew.setRow w.heap.size cs).cell? ⟨g, 1, none⟩ = some .nilIface) := mkHid (fun cs => by
    obtain ⟨⟨t0, t1, t2, t3, t4, t5, t6, t7⟩, t8⟩ := HS.out
    have hc : ∀ k, (W2.drew.setRow w.heap.size cs).cell? ⟨w.heap.size + 1, k, none⟩ = W2.drew.cell? ⟨w.heap.size + 1, k, none⟩ := fun k => World.cell?_of_block (a := ⟨w.heap.size + 1, k, none⟩) (setRow_other W2.drew w.heap.size (w.heap.size + 1) cs (by omega))
    have hc2 : (W2.drew.setRow w.heap.size cs).cell? ⟨g, 1, none⟩ = W2.drew.cell? ⟨g, 1, none⟩ := World.cell?_of_block (a := ⟨g, 1, none⟩) (setRow_other W2.drew w.heap.size g cs (by omega))
    rw [hc, hc, hc, hc, hc, hc, hc, hc, hc2]
    exact HS.out)
  clear hA2 hD2 hB2 h2 c1 HW HbW HsW HA
  go_wp2
  refine wp_region_held (S := fun w' => (w'.cell? ⟨w.heap.size + 1, 0, none⟩ = some (.int .i64 q.k) ∧ w'.cell? ⟨w.heap.size + 1, 1, none⟩ = some (.string q.bx) ∧ w'.cell? ⟨w.heap.size + 1, 2, none⟩ = some (.string q.tt) ∧ w'.cell? ⟨w.heap.size + 1, 3, none⟩ = some (.slice uo q.U.length uc) ∧ w'.cell? ⟨w.heap.size + 1, 4, none⟩ = some (.slice fo q.P.length fc) ∧ w'.cell? ⟨w.heap.size + 1, 5, none⟩ = some (.int .i64 q.tm) ∧ w'.cell? ⟨w.heap.size + 1, 6, none⟩ = some (.int .i64 q.md) ∧ w'.cell? ⟨w.heap.size + 1, 7, none⟩ = some (.string q.ms)) ∧ w'.cell? ⟨g, 1, none⟩ = some .nilIface) (by kernel_rfl) ?_
  refine wpAnyH_take (i := 0) (v := .agg #[.int .i64 q.k, .string q.bx, .string q.tt, .slice uo q.U.length uc, .slice fo q.P.length fc, .int .i64 q.tm, .int .i64 q.md, .string q.ms]) rfl (by kernel_rfl) (by kernel_rfl) (by kernel_rfl) (fun _ _ _ h => h) (Or.inl ⟨by rfl, ?_⟩) HS.out ?_
  · rintro w ⟨⟨s0, s1, s2, s3, s4, s5, s6, s7⟩, s8⟩
    go_simp
    all_goals first | done | (intro h; exfalso; omega) | omega
  go_simp
  refine wpAnyH_take (i := 1) (v := .pointer (some ⟨g, 0, none⟩)) rfl (by kernel_rfl) (by kernel_rfl) (by kernel_rfl) (fun _ _ _ h => h) (Or.inl ⟨by rfl, ?_⟩) HS.out ?_
  · rintro w ⟨⟨s0, s1, s2, s3, s4, s5, s6, s7⟩, s8⟩
    go_simp
    all_goals first | done | (intro h; exfalso; omega) | omega
  go_simp
  refine wpAnyH_take (i := 2) (v := .pointer (some ⟨g, 0, none⟩)) rfl (by kernel_rfl) (by kernel_rfl) (by kernel_rfl) (fun _ _ _ h => h) (Or.inl ⟨by rfl, ?_⟩) HS.out ?_
  · rintro w ⟨⟨s0, s1, s2, s3, s4, s5, s6, s7⟩, s8⟩
    go_simp
    all_goals first | done | (intro h; exfalso; omega) | omega
  go_simp
  refine wpAnyH_take (i := 3) (v := .pointer (some ⟨g, 1, none⟩)) rfl (by kernel_rfl) (by kernel_rfl) (by kernel_rfl) (fun _ _ _ h => h) (Or.inl ⟨by rfl, ?_⟩) HS.out ?_
  · rintro w ⟨⟨s0, s1, s2, s3, s4, s5, s6, s7⟩, s8⟩
    go_simp
    all_goals first | done | (intro h; exfalso; omega) | omega
  go_simp
  refine wpAnyH_take (i := 4) (v := .nilIface) rfl (by kernel_rfl) (by kernel_rfl) (by kernel_rfl) (fun _ _ _ h => h) (Or.inl ⟨by rfl, ?_⟩) HS.out ?_
  · rintro w ⟨⟨s0, s1, s2, s3, s4, s5, s6, s7⟩, s8⟩
    go_simp
    all_goals first | done | (intro h; exfalso; omega) | omega
  go_simp
  refine wpAnyH_all (rs := [5]) (by kernel_rfl) (by simp) ?_
  intro j hj
  simp only [List.mem_cons, List.not_mem_nil, or_false] at hj
  subst hj
  refine wpOp_step rfl (fun K hK => ?_)
  refine wp_store_row 26 _ _ rfl w.heap.size #[.int .i64 q.k, .string q.bx, .string q.tt, .slice uo q.U.length uc, .slice fo q.P.length fc, .int .i64 q.tm, .int .i64 q.md, .string q.ms] rfl rfl 26 _ HA2.out (by kernel_rfl) rfl (by simp [Value.oneCell']) ?_
  refine hK _ _ ⟨HS2.out _, ?_⟩
  clear hK K
  go_simp
  refine wpAnyH_take (i := 6) (v := .nilIface) rfl (by kernel_rfl) (by kernel_rfl) (by kernel_rfl) (fun _ _ _ h => h) (Or.inl ⟨by rfl, ?_⟩) (HS2.out _) ?_
  · rintro w ⟨⟨s0, s1, s2, s3, s4, s5, s6, s7⟩, s8⟩
    go_simp
    all_goals first | done | (intro h; exfalso; omega) | omega
  go_simp
  refine wpAnyH_done (by kernel_rfl) ?_ _
  go_wp2
  refine bodyPost_ret (v := .tuple #[.agg #[.int .i64 q.k, .string q.bx, .string q.tt, .slice uo q.U.length uc, .slice fo q.P.length fc, .int .i64 q.tm, .int .i64 q.md, .string q.ms], .nilIface]) (results_row_tmp Tryd.results40 _ _ w.heap.size 26 _ (0, 0) _ _ rfl (setRow_heap _ _ _ _ _ _ HA2.out) Tryd.underlying26 rfl (by kernel_rfl) rfl) rfl ?_
  exact HQ.out uo uc fo fc _ (HD2.out.stored (grown_setRow _ _ _) (by omega) (by omega)) (Hg2.out _)
end Go.Proofs.YtillilllceeonaaDoor
