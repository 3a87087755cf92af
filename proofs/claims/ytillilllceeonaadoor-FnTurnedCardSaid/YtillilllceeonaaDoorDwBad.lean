
/- The program's walkOp with a decoder. -/

/- The program's decoder where bytes lack, and behind that. -/
import Derived.Test.YtillilllceeonaaDoorDwList
namespace Go.Proofs.YtillilllceeonaaDoor
open Go.RowKit Go.Lib Go.Maps
set_option maxRecDepth 20000 in
theorem nilDeN (v : Addr) (w : World) : (nilAhead 271 80 (.pointer (some v)) "loop.example/g00013/impl.number").run Tryd.prog w = .ok (some false) w := by kernel_rfl
set_option maxRecDepth 20000 in
theorem nilDeB (v : Addr) (w : World) : (nilAhead 271 80 (.pointer (some v)) "loop.example/g00013/impl.bytes").run Tryd.prog w = .ok (some false) w := by kernel_rfl
set_option maxRecDepth 20000 in
theorem methDeN (v : Value) (w : World) : (method 271 80 v "loop.example/g00013/impl.number").run Tryd.prog w = .ok (100, v) w := by kernel_rfl
set_option maxRecDepth 20000 in
theorem methDeB (v : Value) (w : World) : (method 271 80 v "loop.example/g00013/impl.bytes").run Tryd.prog w = .ok (99, v) w := by kernel_rfl
set_option maxRecDepth 20000 in
theorem entersDeN : ∀ (args : Array Value) (w : World), (callFunc 100 args).run Tryd.prog w = .ok (.enter 100 args) w := Go.Proofs.enters_of Tryd.func100 (by kernel_rfl) rfl
set_option maxRecDepth 20000 in
theorem entersDeB : ∀ (args : Array Value) (w : World), (callFunc 99 args).run Tryd.prog w = .ok (.enter 99 args) w := Go.Proofs.enters_of Tryd.func99 (by kernel_rfl) rfl
set_option maxRecDepth 20000 in
theorem take_be (k n : Nat) (G : List UInt8) : (be k n ++ G).take k = be k n := by rw [List.take_append_of_le_length (by rw [be_len]; omega), List.take_of_length_le (by rw [be_len]; omega)]
set_option maxRecDepth 20000 in
theorem drop_be (k n : Nat) (G : List UInt8) : (be k n ++ G).drop k = G := by
  have h := be_len k n
  conv => lhs; arg 1; rw [← h]
  rw [List.drop_left]
set_option maxRecDepth 20000 in
theorem drop_tx (k : Nat) (t : ByteArray) (G : List UInt8) : (be k t.size ++ (t.data.toList ++ G)).drop (k + t.size) = G := by
  have h : (be k t.size ++ t.data.toList).length = k + t.size := by rw [List.length_append, be_len]; simp
  rw [← List.append_assoc, ← h, List.drop_left]
set_option maxRecDepth 20000 in
theorem take_tx (k : Nat) (t : ByteArray) (G : List UInt8) : t = ⟨(((be k t.size ++ (t.data.toList ++ G)).drop k).take t.size).toArray⟩ := by
  rw [drop_be]
  have h : t.data.toList.length = t.size := by simp
  rw [← h, List.take_left]
/-- What an operation that was read has left. -/
def DecO (g r b : Nat) (q : OpP) (G : List UInt8) (w w' : World) : Prop := ∃ uo uc fo fc, DecR g r b G #[.int .i64 q.k, .string q.bx, .string q.tt, .slice uo q.U.length uc, .slice fo q.P.length fc, .int .i64 q.tm, .int .i64 q.md, .string q.ms] 26 w w'
set_option maxRecDepth 20000 in
theorem OpP.enc_eq (q : OpP) (G : List UInt8) : q.enc ++ G = be 1 q.k.toNat ++ (be 1 q.bx.size ++ (q.bx.data.toList ++ (be 1 q.tt.size ++ (q.tt.data.toList ++ (be 2 q.U.length ++ q.U.flatMap (fun u => be 4 u.toNat) ++ (be 1 q.P.length ++ q.P.flatMap (fun u => be 1 u.size ++ u.data.toList) ++ (be 5 q.tm.toNat ++ (be 4 q.md.toNat ++ (be 3 q.ms.size ++ (q.ms.data.toList ++ G)))))))))) := by
  simp only [OpP.enc, List.append_assoc]
set_option maxRecDepth 20000 in
set_option maxHeartbeats 8000000 in
theorem decOp (g r b : Nat) (q : OpP) (F G : List UInt8) (w : World) (h : Dec g r F w) (hb : b ≠ g) (hbr : b ≠ r) (hblk : w.heap[b]? = some (.cells #[.int .i64 0, .string ⟨#[]⟩, .string ⟨#[]⟩, .slice none 0 0, .slice none 0 0, .int .i64 0, .int .i64 0, .string ⟨#[]⟩] 26 (0, 0))) (hq : q.full) (hFe : F = q.enc ++ G) (hF : F.length ≤ 1000000) :
    Calls Tryd.prog 17 #[.iface 80 (.pointer (some ⟨g, 0, none⟩)), .pointer (some ⟨b, 0, none⟩)] w fun e w' => e = .returned (.tuple #[]) ∧ DecO g r b q G w w' := by
  rw [OpP.enc_eq] at hFe
  obtain ⟨k, bx, tt, U, P, tm, md, ms⟩ := q
  obtain ⟨⟨hk1, hk9, hbx, htt, hu, hp, ht0, ht1, hm0, hm1, hms⟩, hUb, hPb⟩ := hq
  simp only at hk1 hk9 hbx htt hu hp ht0 ht1 hm0 hm1 hms hUb hPb hFe
  obtain ⟨kn, rfl⟩ : ∃ m : Nat, k = m := ⟨k.toNat, by omega⟩
  obtain ⟨tn, rfl⟩ : ∃ m : Nat, tm = m := ⟨tm.toNat, by omega⟩
  obtain ⟨mn, rfl⟩ : ∃ m : Nat, md = m := ⟨md.toNat, by omega⟩
  simp only [Int.toNat_natCast] at hFe
  obtain ⟨F8, h8⟩ : ∃ X, X = be 3 ms.size ++ (ms.data.toList ++ G) := ⟨_, rfl⟩
  rw [← h8] at hFe
  obtain ⟨F7, h7⟩ : ∃ X, X = be 4 mn ++ F8 := ⟨_, rfl⟩
  rw [← h7] at hFe
  obtain ⟨F6, h6⟩ : ∃ X, X = be 5 tn ++ F7 := ⟨_, rfl⟩
  rw [← h6] at hFe
  obtain ⟨F5, h5⟩ : ∃ X, X = be 1 P.length ++ P.flatMap (fun u => be 1 u.size ++ u.data.toList) ++ F6 := ⟨_, rfl⟩
  rw [← h5] at hFe
  obtain ⟨F4, h4⟩ : ∃ X, X = be 2 U.length ++ U.flatMap (fun u => be 4 u.toNat) ++ F5 := ⟨_, rfl⟩
  rw [← h4] at hFe
  obtain ⟨F3, h3⟩ : ∃ X, X = be 1 tt.size ++ (tt.data.toList ++ F4) := ⟨_, rfl⟩
  rw [← h3] at hFe
  obtain ⟨F2, h2⟩ : ∃ X, X = be 1 bx.size ++ (bx.data.toList ++ F3) := ⟨_, rfl⟩
  rw [← h2] at hFe
  have hbxl : bx.data.toList.length = bx.size := by simp
  have httl : tt.data.toList.length = tt.size := by simp
  have hmsl : ms.data.toList.length = ms.size := by simp
  have l2 : F2.length ≤ 1000000 := by rw [hFe, List.length_append] at hF; omega
  have l3 : F3.length ≤ 1000000 := by rw [h2, List.length_append, List.length_append] at l2; omega
  have l4 : F4.length ≤ 1000000 := by rw [h3, List.length_append, List.length_append] at l3; omega
  have l5 : F5.length ≤ 1000000 := by rw [h4, List.length_append] at l4; omega
  have l6 : F6.length ≤ 1000000 := by rw [h5, List.length_append] at l5; omega
  have l7 : F7.length ≤ 1000000 := by rw [h6, List.length_append] at l6; omega
  have l8 : F8.length ≤ 1000000 := by rw [h7, List.length_append] at l7; omega
  have n2 : 1 + bx.size ≤ F2.length := by rw [h2, List.length_append, List.length_append, be_len]; omega
  have n3 : 1 + tt.size ≤ F3.length := by rw [h3, List.length_append, List.length_append, be_len]; omega
  have n6 : 5 ≤ F6.length := by rw [h6, List.length_append, be_len]; omega
  have n7 : 4 ≤ F7.length := by rw [h7, List.length_append, be_len]; omega
  have n8 : 3 + ms.size ≤ F8.length := by rw [h8, List.length_append, List.length_append, be_len]; omega
  have hbd : Below w.heap.size w w.drew := (Below.refl w.heap.size w).drew
  have cA := mkHid (decNumber g r b 0 1 kn 1 9 F _ #[.int .i64 kn, .string ⟨#[]⟩, .string ⟨#[]⟩, .slice none 0 0, .slice none 0 0, .int .i64 0, .int .i64 0, .string ⟨#[]⟩] 26 w.drew (h.below hbd) hb hbr hblk 0 rfl rfl (by rw [hFe, List.length_append, be_len]; omega) (by rw [hFe, take_be, num_be]; omega) (by omega) (by omega) (by omega) (by omega) hF)
  rw [hFe, drop_be] at cA
  have e2 := mkHid h2
  have e3 := mkHid h3
  have e4 := mkHid h4
  have e5 := mkHid h5
  have e6 := mkHid h6
  have e7 := mkHid h7
  have e8 := mkHid h8
  have Hbd : Hid (D2 g b w w.drew) := mkHid (D2.of_below hbd)
  have HUb := mkHid hUb
  have HPb := mkHid hPb
  clear h2 h3 h4 h5 h6 h7 h8 hFe h hblk hbd hUb hPb hF
  go_enter Tryd.func17, Tryd.ntmps17
  go_wp2
  refine wp_region_any (by kernel_rfl) ?_
  refine wpAny_take (i := 0) (v := .iface 80 (.pointer (some ⟨g, 0, none⟩))) rfl (by kernel_rfl) (by kernel_rfl) (by kernel_rfl) (fun _ _ _ h => h) (Or.inl ⟨by rfl, ?_⟩) ?_
  · intro w
    go_simp
    all_goals first | done | (intro h; exfalso; omega) | omega
  go_simp
  refine wpAny_take (i := 1) (v := .pointer (some ⟨b, 0, none⟩)) rfl (by kernel_rfl) (by kernel_rfl) (by kernel_rfl) (fun _ _ _ h => h) (Or.inl ⟨by rfl, ?_⟩) ?_
  · intro w
    go_simp
    all_goals first | done | (intro h; exfalso; omega) | omega
  go_simp
  refine wpAny_take (i := 2) (v := .pointer (some ⟨b, 0, none⟩)) rfl (by kernel_rfl) (by kernel_rfl) (by kernel_rfl) (fun _ _ _ h => h) (Or.inl ⟨by rfl, ?_⟩) ?_
  · intro w
    go_simp
    all_goals first | done | (intro h; exfalso; omega) | omega
  go_simp
  refine wpAny_take (i := 3) (v := .pointer (some ⟨b, 0, none⟩)) rfl (by kernel_rfl) (by kernel_rfl) (by kernel_rfl) (fun _ _ _ h => h) (Or.inl ⟨by rfl, ?_⟩) ?_
  · intro w
    go_simp
    all_goals first | done | (intro h; exfalso; omega) | omega
  go_simp
  refine wpAny_take (i := 4) (v := .func (.method "loop.example/g00013/impl.number") #[.iface 80 (.pointer (some ⟨g, 0, none⟩))] #[]) rfl (by kernel_rfl) (by kernel_rfl) (by kernel_rfl) (fun _ _ _ h => h) (Or.inl ⟨by rfl, ?_⟩) ?_
  · intro w
    go_simp
    all_goals first | done | (intro h; exfalso; omega) | omega
  go_simp
  refine wpAny_ready (rs := [5]) (by kernel_rfl) (by simp) ?_
  refine AllReady.cons rfl (fun K hK => ?_) AllReady.nil
  go_simp
  rw [nilDeN]
  go_simp
  refine hK _ _ ?_
  clear hK K
  go_simp
  refine wpAny_ready (rs := [6]) (by kernel_rfl) (by simp) ?_
  refine AllReady.cons rfl (fun K hK => ?_) AllReady.nil
  go_simp
  refine hK _ _ ?_
  clear hK K
  go_simp
  refine wpAny_ready (rs := [7]) (by kernel_rfl) (by simp) ?_
  refine AllReady.cons rfl (fun K hK => ?_) AllReady.nil
  go_simp
  simp only [methDeN, Result.andThen, entersDeN]
  go_simp
  refine cA.out.mono ?_
  rintro e W1 ⟨rfl, hd1, hb1, h21⟩
  have H1 := mkHid (Hbd.out.trans h21)
  have c1 := mkHid (decName g r b 1 bx.size F2 _ #[.int .i64 kn, .string bx, .string ⟨#[]⟩, .slice none 0 0, .slice none 0 0, .int .i64 0, .int .i64 0, .string ⟨#[]⟩] 26 W1 hd1 hb hbr hb1 ⟨#[]⟩ bx rfl (by rw [e2.out]; exact take_tx 1 bx F3) rfl (by rw [e2.out, take_be, num_be]; omega) n2 l2 F3 (by rw [e2.out]; exact (drop_tx 1 bx F3).symm))
  clear hd1 hb1 h21 cA Hbd
  refine hK _ _ ?_
  clear hK K
  go_simp
  refine wpAny_done (by kernel_rfl) ?_ _
  go_wp2_with fail
  refine c1.out.mono ?_
  rintro e W2 ⟨rfl, hd2, hb2, h22⟩
  have H2 := mkHid (H1.out.trans h22)
  have c2 := mkHid (decName g r b 2 tt.size F3 _ #[.int .i64 kn, .string bx, .string tt, .slice none 0 0, .slice none 0 0, .int .i64 0, .int .i64 0, .string ⟨#[]⟩] 26 W2 hd2 hb hbr hb2 ⟨#[]⟩ tt rfl (by rw [e3.out]; exact take_tx 1 tt F4) rfl (by rw [e3.out, take_be, num_be]; omega) n3 l3 F4 (by rw [e3.out]; exact (drop_tx 1 tt F4).symm))
  clear hd2 hb2 h22 c1 H1
  go_wp2_with fail
  refine c2.out.mono ?_
  rintro e W3 ⟨rfl, hd3, hb3, h23⟩
  have H3 := mkHid (H2.out.trans h23)
  have c3 := mkHid (decInts g r b 3 2 300 U F4 F5 _ 26 W3 hd3 hb hbr hb3 rfl e4.out HUb.out (by omega) (by omega) (by omega) (by omega) (by omega) l4)
  clear hd3 hb3 h23 c2 H2
  go_wp2_with fail
  refine c3.out.mono ?_
  rintro e W4 ⟨rfl, hL4⟩
  obtain ⟨uo, uc, hd4, hb4, h24⟩ := hL4
  have H4 := mkHid (H3.out.trans h24)
  have c4 := mkHid (decTexts g r b 4 1 255 P F5 F6 _ 26 W4 hd4 hb hbr hb4 rfl e5.out HPb.out (by omega) (by omega) (by omega) (by omega) (by omega) l5)
  clear hd4 hb4 h24 c3 H3
  go_wp2_with fail
  refine c4.out.mono ?_
  rintro e W5 ⟨rfl, hL5⟩
  obtain ⟨fo, fc, hd5, hb5, h25⟩ := hL5
  have H5 := mkHid (H4.out.trans h25)
  have hbd : Below W5.heap.size W5 W5.drew := (Below.refl W5.heap.size W5).drew
  have c5 := mkHid (decNumber g r b 5 5 tn 0 253402300799 F6 _ #[.int .i64 kn, .string bx, .string tt, .slice uo U.length uc, .slice fo P.length fc, .int .i64 tn, .int .i64 0, .string ⟨#[]⟩] 26 W5.drew (hd5.below hbd) hb hbr hb5 0 rfl rfl n6 (by rw [e6.out, take_be, num_be]; omega) (by omega) (by omega) (by omega) (by omega) l6)
  have H5d := mkHid (H5.out.trans (D2.of_below (g := g) (b := b) hbd))
  clear hd5 hb5 h25 c4 H4 H5 hbd
  go_wp2
  refine wp_region_any (by kernel_rfl) ?_
  refine wpAny_take (i := 0) (v := .iface 80 (.pointer (some ⟨g, 0, none⟩))) rfl (by kernel_rfl) (by kernel_rfl) (by kernel_rfl) (fun _ _ _ h => h) (Or.inl ⟨by rfl, ?_⟩) ?_
  · intro w
    go_simp
    all_goals first | done | (intro h; exfalso; omega) | omega
  go_simp
  refine wpAny_take (i := 1) (v := .pointer (some ⟨b, 0, none⟩)) rfl (by kernel_rfl) (by kernel_rfl) (by kernel_rfl) (fun _ _ _ h => h) (Or.inl ⟨by rfl, ?_⟩) ?_
  · intro w
    go_simp
    all_goals first | done | (intro h; exfalso; omega) | omega
  go_simp
  refine wpAny_take (i := 2) (v := .pointer (some ⟨b, 0, none⟩)) rfl (by kernel_rfl) (by kernel_rfl) (by kernel_rfl) (fun _ _ _ h => h) (Or.inl ⟨by rfl, ?_⟩) ?_
  · intro w
    go_simp
    all_goals first | done | (intro h; exfalso; omega) | omega
  go_simp
  refine wpAny_take (i := 3) (v := .pointer (some ⟨b, 5, none⟩)) rfl (by kernel_rfl) (by kernel_rfl) (by kernel_rfl) (fun _ _ _ h => h) (Or.inl ⟨by rfl, ?_⟩) ?_
  · intro w
    go_simp
    all_goals first | done | (intro h; exfalso; omega) | omega
  go_simp
  refine wpAny_take (i := 4) (v := .func (.method "loop.example/g00013/impl.number") #[.iface 80 (.pointer (some ⟨g, 0, none⟩))] #[]) rfl (by kernel_rfl) (by kernel_rfl) (by kernel_rfl) (fun _ _ _ h => h) (Or.inl ⟨by rfl, ?_⟩) ?_
  · intro w
    go_simp
    all_goals first | done | (intro h; exfalso; omega) | omega
  go_simp
  refine wpAny_ready (rs := [5]) (by kernel_rfl) (by simp) ?_
  refine AllReady.cons rfl (fun K hK => ?_) AllReady.nil
  go_simp
  rw [nilDeN]
  go_simp
  refine hK _ _ ?_
  clear hK K
  go_simp
  refine wpAny_ready (rs := [6]) (by kernel_rfl) (by simp) ?_
  refine AllReady.cons rfl (fun K hK => ?_) AllReady.nil
  go_simp
  refine hK _ _ ?_
  clear hK K
  go_simp
  refine wpAny_ready (rs := [7]) (by kernel_rfl) (by simp) ?_
  refine AllReady.cons rfl (fun K hK => ?_) AllReady.nil
  go_simp
  simp only [methDeN, Result.andThen, entersDeN]
  go_simp
  refine c5.out.mono ?_
  rintro e W6 ⟨rfl, hd6, hb6, h26⟩
  rw [e6.out, drop_be] at hd6
  have H6 := mkHid (H5d.out.trans h26)
  have c6 := mkHid (decWord g r b 6 mn F7 _ #[.int .i64 kn, .string bx, .string tt, .slice uo U.length uc, .slice fo P.length fc, .int .i64 tn, .int .i64 mn, .string ⟨#[]⟩] 26 W6 hd6 hb hbr hb6 0 rfl rfl n7 (by rw [e7.out, take_be, num_be]; omega) l7)
  clear hd6 hb6 h26 c5 H5d
  refine hK _ _ ?_
  clear hK K
  go_simp
  refine wpAny_done (by kernel_rfl) ?_ _
  go_wp2_with fail
  refine c6.out.mono ?_
  rintro e W7 ⟨rfl, hd7, hb7, h27⟩
  rw [e7.out, drop_be] at hd7
  have H7 := mkHid (H6.out.trans h27)
  have c7 := mkHid (decText g r b 7 3 100000 ms.size F8 _ #[.int .i64 kn, .string bx, .string tt, .slice uo U.length uc, .slice fo P.length fc, .int .i64 tn, .int .i64 mn, .string ms] 26 W7 hd7 hb hbr hb7 ⟨#[]⟩ ms rfl (by rw [e8.out]; exact take_tx 3 ms G) rfl (by rw [e8.out, take_be, num_be]; omega) (by omega) (by omega) (by omega) n8 l8 G (by rw [e8.out]; exact (drop_tx 3 ms G).symm))
  clear hd7 hb7 h27 c6 H6
  go_wp2_with fail
  refine c7.out.mono ?_
  rintro e W8 ⟨rfl, hd8, hb8, h28⟩
  have HO : Hid (DecO g r b { k := (kn : Int), bx := bx, tt := tt, U := U, P := P, tm := (tn : Int), md := (mn : Int), ms := ms } G w W8) := mkHid ⟨uo, uc, fo, fc, hd8, hb8, H7.out.trans h28⟩
  clear hd8 hb8 h28
  go_wp2
  exact bodyPost_end (v := .tuple #[]) (results_none Tryd.results17 _ _ _) rfl ⟨rfl, HO.out⟩
end Go.Proofs.YtillilllceeonaaDoor
namespace Go.Proofs.YtillilllceeonaaDoor
open Go.RowKit Go.Lib Go.Maps
/-- The decoder at block g has an error. -/
def DecX (g : Nat) (et : TypeId) (ep : Value) (w : World) : Prop := ∃ o m c, w.heap[g]? = some (.cells #[.slice o m c, .iface et ep] 55 (0, 0))
/-- What take answers and leaves where bytes lack. -/
def LackR (g : Nat) (et : TypeId) (ep : Value) (w : World) (w' : World) : Prop := DecX g et ep w' ∧ w.grownBy w' (some g)
set_option maxRecDepth 20000 in
set_option maxHeartbeats 4000000 in
theorem decLack (g r n : Nat) (F : List UInt8) (et : TypeId) (ep : Value) (w : World) (h : Dec g r F w) (hs : w.cell? ⟨1, 0, none⟩ = some (.iface et ep)) (hn : F.length < n) :
    Calls Tryd.prog 41 #[.pointer (some ⟨g, 0, none⟩), .int .i64 n] w fun e w' => e = .returned (.slice none 0 0) ∧ LackR g et ep w w' := by
  obtain ⟨a, c, h1, h2, h3⟩ := h.ex
  have c0 : w.cell? ⟨g, 0, none⟩ = some (.slice (some ⟨r, a, none⟩) F.length c) := by simp [World.cell?, h1]
  have cn : w.cell? ⟨g, 1, none⟩ = some .nilIface := by simp [World.cell?, h1]
  have z1 : w.frozen? ⟨g, 1, none⟩ = false := by simp [World.frozen?, h1]
  have hle : (F.length : Int) < (n : Int) := by omega
  have HR : Hid (LackR g et ep w (w.setCell ⟨g, 1, none⟩ (.iface et ep))) := mkHid ⟨⟨some ⟨r, a, none⟩, F.length, c, by simp [World.setCell, Array.getElem?_modify, h1]⟩, grG_set _ _ _ _⟩
  have c9 : (w.setCell ⟨g, 1, none⟩ (.iface et ep)).cell? ⟨g, 1, none⟩ = some (.iface et ep) := by simp [World.setCell, World.cell?, Array.getElem?_modify, h1]
  clear h h1 h3
  go_enter Tryd.func41, Tryd.ntmps41
  go_wp2
  first | go_ret | skip
  exact ⟨rfl, HR.out⟩
set_option maxRecDepth 20000 in
set_option maxHeartbeats 4000000 in
theorem decTakeX (g : Nat) (n : Int) (et : TypeId) (ep : Value) (w : World) (h : DecX g et ep w) :
    Calls Tryd.prog 41 #[.pointer (some ⟨g, 0, none⟩), .int .i64 n] w fun e w' => e = .returned (.slice none 0 0) ∧ w = w' := by
  obtain ⟨o, m, c, h1⟩ := h
  have cn : w.cell? ⟨g, 1, none⟩ = some (.iface et ep) := by simp [World.cell?, h1]
  clear h1
  go_enter Tryd.func41, Tryd.ntmps41
  go_wp2
  go_ret
  exact ⟨rfl, rfl⟩
set_option maxRecDepth 20000 in
set_option maxHeartbeats 4000000 in
theorem decNumberLack (g r k : Nat) (F : List UInt8) (et : TypeId) (ep : Value) (a : Addr) (lo hi : Int) (w : World) (h : Dec g r F w) (hs : w.cell? ⟨1, 0, none⟩ = some (.iface et ep)) (hn : F.length < k) :
    Calls Tryd.prog 100 #[.pointer (some ⟨g, 0, none⟩), .pointer (some a), .int .i64 k, .int .i64 lo, .int .i64 hi] w fun e w' => e = .returned (.tuple #[]) ∧ LackR g et ep w w' := by
  have cT := mkHid (decLack g r k F et ep w h hs hn)
  clear h hs
  go_enter Tryd.func100, Tryd.ntmps100
  go_wp2_with fail
  refine cT.out.mono ?_
  rintro e W ⟨rfl, hR⟩
  have HR := mkHid hR
  obtain ⟨⟨o, m, c, h1⟩, -⟩ := hR
  have cn : W.cell? ⟨g, 1, none⟩ = some (.iface et ep) := by simp [World.cell?, h1]
  clear h1 cT
  go_wp2
  go_loopw [17] (fun iv wr => iv = .int .i64 0 ∧ W = wr) (fun _ _ => 0)
  case atStart => exact ⟨rfl, rfl⟩
  case round =>
    obtain ⟨rfl, rfl⟩ := hrel
    go_wp2
    exact bodyPost_end (v := .tuple #[]) (results_none Tryd.results100 _ _ _) rfl ⟨rfl, HR.out⟩
set_option maxRecDepth 20000 in
set_option maxHeartbeats 4000000 in
theorem decNumberX (g : Nat) (k : Int) (et : TypeId) (ep : Value) (a : Addr) (lo hi : Int) (w : World) (h : DecX g et ep w) :
    Calls Tryd.prog 100 #[.pointer (some ⟨g, 0, none⟩), .pointer (some a), .int .i64 k, .int .i64 lo, .int .i64 hi] w fun e w' => e = .returned (.tuple #[]) ∧ w = w' := by
  have cT := mkHid (decTakeX g k et ep w h)
  obtain ⟨o, m, c, h1⟩ := h
  have cn : w.cell? ⟨g, 1, none⟩ = some (.iface et ep) := by simp [World.cell?, h1]
  clear h1
  go_enter Tryd.func100, Tryd.ntmps100
  go_wp2_with fail
  refine cT.out.mono ?_
  rintro e W ⟨rfl, rfl⟩
  clear cT
  go_wp2
  go_loopw [17] (fun iv wr => iv = .int .i64 0 ∧ w = wr) (fun _ _ => 0)
  case atStart => exact ⟨rfl, rfl⟩
  case round =>
    obtain ⟨rfl, rfl⟩ := hrel
    go_wp2
    exact bodyPost_end (v := .tuple #[]) (results_none Tryd.results100 _ _ _) rfl ⟨rfl, rfl⟩
set_option maxRecDepth 20000 in
set_option maxHeartbeats 4000000 in
theorem decBytesX (g b jo : Nat) (n : Int) (et : TypeId) (ep : Value) (cs cs' : Array Value) (T : TypeId) (w : World) (h : DecX g et ep w) (hblk : w.heap[b]? = some (.cells cs T (0, 0))) (t0 : ByteArray) (hj : cs[jo]? = some (.string t0)) (hcs : cs' = cs.setIfInBounds jo (.string ⟨#[]⟩)) :
    Calls Tryd.prog 99 #[.pointer (some ⟨g, 0, none⟩), .pointer (some ⟨b, jo, none⟩), .int .i64 n] w fun e w' => e = .returned (.tuple #[]) ∧ (w'.heap[b]? = some (.cells cs' T (0, 0)) ∧ w.grownBy w' (some b)) := by
  have cT := mkHid (decTakeX g n et ep w h)
  have hbk : (convert 22 9 (.slice none 0 0)).run Tryd.prog w = .ok (.string ⟨#[]⟩) w := (Own.nil 0 w).back (P := Tryd.prog) 22 9 Tryd.underlying22 Tryd.underlying5 Tryd.underlying9
  have cb : w.cell? ⟨b, jo, none⟩ = some (.string t0) := by simp [World.cell?, hblk, hj]
  have zb : w.frozen? ⟨b, jo, none⟩ = false := by simp [World.frozen?, hblk]
  have HR : Hid ((w.setCell ⟨b, jo, none⟩ (.string ⟨#[]⟩)).heap[b]? = some (.cells cs' T (0, 0)) ∧ w.grownBy (w.setCell ⟨b, jo, none⟩ (.string ⟨#[]⟩)) (some b)) := mkHid ⟨by rw [hcs]; simp [World.setCell, Array.getElem?_modify, hblk], grG_set _ _ _ _⟩
  clear h hblk hj hcs
  go_enter Tryd.func99, Tryd.ntmps99
  go_wp2_with fail
  refine cT.out.mono ?_
  rintro e W ⟨rfl, rfl⟩
  go_wp2
  exact bodyPost_end (v := .tuple #[]) (results_none Tryd.results99 _ _ _) rfl ⟨rfl, HR.out⟩
end Go.Proofs.YtillilllceeonaaDoor
