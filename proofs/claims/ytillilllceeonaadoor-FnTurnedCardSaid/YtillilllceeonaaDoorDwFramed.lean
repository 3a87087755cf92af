
/- The program's onlyOp. -/

/- The program's framedOp. -/
import Derived.Test.YtillilllceeonaaDoorDwRead
import Derived.Lib.ConvBytes
namespace Go.Proofs.YtillilllceeonaaDoor
open Go.RowKit Go.Lib Go.Maps
/-- The world with a new decoder over a text. -/
def decW (t : ByteArray) (w : World) : World := (bytesWorld w 5 t).alloc (.cells #[.slice (some ⟨w.heap.size, 0, none⟩) t.size (grownCap w t.size 0 5), .nilIface] 55)
set_option maxRecDepth 20000 in
theorem below_bytes (t : ByteArray) (w : World) : Below w.heap.size w (bytesWorld w 5 t) :=
  ⟨rfl, rfl, rfl, by rw [bytesWorld_size]; omega, fun k hk => bytesWorld_at_old w 5 t k hk⟩
set_option maxRecDepth 20000 in
theorem decW_below (t : ByteArray) (w : World) : Below w.heap.size w (decW t w) := (below_bytes t w).alloc (below_bytes t w).size _
set_option maxRecDepth 20000 in
theorem decW_size (t : ByteArray) (w : World) : (decW t w).heap.size = w.heap.size + 2 := by simp [decW, bytesWorld_size]
set_option maxRecDepth 20000 in
theorem decW_dec (t : ByteArray) (w : World) (F : List UInt8) (hF : F = t.data.toList) : Dec (w.heap.size + 1) w.heap.size F (decW t w) := by
  have hl : F.length = t.size := by rw [hF]; simp
  refine ⟨⟨0, grownCap w t.size 0 5, ?_, by rw [hl]; exact grownCap_ge _ _ _ _, fun j hj => ?_⟩, by omega, by rw [decW_size]; omega, by rw [decW_size]; omega⟩
  · have h := hp_alloc (bytesWorld w 5 t) (.cells #[.slice (some ⟨w.heap.size, 0, none⟩) t.size (grownCap w t.size 0 5), .nilIface] 55)
    rw [bytesWorld_size] at h
    rw [hl]
    exact h
  · rw [Nat.zero_add]
    have h1 : (decW t w).cell? ⟨w.heap.size, j, none⟩ = (bytesWorld w 5 t).cell? ⟨w.heap.size, j, none⟩ := World.cell?_of_block (a := ⟨w.heap.size, j, none⟩) (heap_alloc_old _ _ w.heap.size (by rw [bytesWorld_size]; omega))
    rw [h1, bytesWorld_cell w 5 t j (by omega)]
    subst hF
    rw [List.getD_eq_getElem?_getD, List.getElem?_eq_getElem hj]
    rfl
/-- What onlyOp answers and leaves. -/
def OnlyM (q : OpP) (w : World) (e : Ending) (w' : World) : Prop := ∃ uo uc fo fc, e = .returned (.tuple #[.agg #[.int .i64 q.k, .string q.bx, .string q.tt, .slice uo q.U.length uc, .slice fo q.P.length fc, .int .i64 q.tm, .int .i64 q.md, .string q.ms], .nilIface]) ∧ Below w.heap.size w w'
set_option maxRecDepth 20000 in
theorem run_bytes (t : ByteArray) (w : World) : (convert 9 22 (.string t)).run Tryd.prog w = .ok (.slice (some ⟨w.heap.size, 0, none⟩) t.size (grownCap w t.size 0 5)) (bytesWorld w 5 t) :=
  Go.Lib.run_convert_string_bytes w 9 22 5 t Tryd.underlying9 Tryd.underlying22 Tryd.underlying5
set_option maxRecDepth 20000 in
set_option maxHeartbeats 8000000 in
theorem implOnly (q : OpP) (t : ByteArray) (a : Addr) (w : World) (hs : w.cell? ⟨1, 0, none⟩ = some (.iface 132 (.pointer (some a)))) (hq : q.full) (ht : t.data.toList = q.enc) (hl : t.size ≤ 1000000) :
    Calls Tryd.prog 28 #[.string t] w fun e w' => OnlyM q w e w' := by
  obtain ⟨W0, hW0⟩ : ∃ W, W = w.alloc (.cells #[.int .i64 0, .string ⟨#[]⟩, .string ⟨#[]⟩, .slice none 0 0, .slice none 0 0, .int .i64 0, .int .i64 0, .string ⟨#[]⟩] 26) := ⟨_, rfl⟩
  have hb0 : Below w.heap.size w W0 := by rw [hW0]; exact (Below.refl _ _).alloc (Nat.le_refl _) _
  have hs0 : W0.heap.size = w.heap.size + 1 := by rw [hW0]; simp
  have hA0 : W0.heap[w.heap.size]? = some (.cells #[.int .i64 0, .string ⟨#[]⟩, .string ⟨#[]⟩, .slice none 0 0, .slice none 0 0, .int .i64 0, .int .i64 0, .string ⟨#[]⟩] 26 (0, 0)) := by rw [hW0]; exact hp_alloc _ _
  obtain ⟨WB, hWB⟩ : ∃ W, W = bytesWorld W0 5 t := ⟨_, rfl⟩
  obtain ⟨GC, hGC⟩ : ∃ n, n = grownCap W0 t.size 0 5 := ⟨_, rfl⟩
  have hsB : WB.heap.size = w.heap.size + 2 := by rw [hWB, bytesWorld_size, hs0]
  obtain ⟨W1, hW1⟩ : ∃ W, W = WB.alloc (.cells #[.slice (some ⟨w.heap.size + 1, 0, none⟩) t.size GC, .nilIface] 55) := ⟨_, rfl⟩
  have hW1d : W1 = decW t W0 := by rw [hW1, hWB, hGC, decW, hs0]
  have hb1 : Below W0.heap.size W0 W1 := by rw [hW1d]; exact decW_below t W0
  have hs1 : W1.heap.size = w.heap.size + 3 := by rw [hW1d, decW_size, hs0]
  have hD1 : Dec WB.heap.size (w.heap.size + 1) t.data.toList W1 := by rw [hW1d, hsB]; have := decW_dec t W0 _ rfl; rwa [hs0] at this
  have hlen : t.data.toList.length = t.size := by simp
  have c1 := mkHid (decOpM WB.heap.size (w.heap.size + 1) q t.data.toList [] W1 hD1 hq (by rw [ht, List.append_nil]) (by omega))
  have hv := run_bytes t W0
  rw [← hWB, ← hGC, hs0, hW0] at hv
  have hgl : 1 < w.heap.size := World.block_lt_of_cell? _ _ hs
  have HA1 : Hid (W1.heap[w.heap.size]? = some (.cells #[.int .i64 0, .string ⟨#[]⟩, .string ⟨#[]⟩, .slice none 0 0, .slice none 0 0, .int .i64 0, .int .i64 0, .string ⟨#[]⟩] 26 (0, 0))) := mkHid ((hb1.block _ (by omega)).trans hA0)
  have Hs1 : Hid (W1.cell? ⟨1, 0, none⟩ = some (.iface 132 (.pointer (some a)))) := mkHid ((hb1.cell (p := ⟨1, 0, none⟩) (show 1 < W0.heap.size by omega)).trans ((hb0.cell (p := ⟨1, 0, none⟩) hgl).trans hs))
  have Hb1 := mkHid (hb0.trans (hb1.mono (by omega)))
  have Hsz := mkHid hs1
  have HsB := mkHid hsB
  obtain ⟨Q, hQ⟩ : ∃ Q, Q = OnlyM q w := ⟨_, rfl⟩
  have HQ : Hid (∀ uo uc fo fc w', Below w.heap.size w w' → Q (.returned (.tuple #[.agg #[.int .i64 q.k, .string q.bx, .string q.tt, .slice uo q.U.length uc, .slice fo q.P.length fc, .int .i64 q.tm, .int .i64 q.md, .string q.ms], .nilIface])) w') := mkHid (by rw [hQ]; exact fun uo uc fo fc w' h1 => ⟨uo, uc, fo, fc, rfl, h1⟩)
  show Calls _ _ _ _ fun e w' => OnlyM q w e w'
  rw [← hQ]
  have HW1 := mkHid hW1
  clear hs ht hlen hW0 hb0 hs0 hA0 hWB hGC hsB hW1d hW1 hb1 hs1 hD1 hQ
  go_enter Tryd.func28, Tryd.ntmps28
  go_wp2_with fail
  rw [← HW1.out]
  refine c1.out.mono ?_
  rintro e W2 ⟨uo, uc, fo, fc, rfl, hD2, hg2⟩
  have hltB : WB.heap.size < W1.heap.size := by have := HsB.out; have := Hsz.out; omega
  have hneB : ∀ k, k < w.heap.size + 2 → some k ≠ some WB.heap.size := fun k hk e => by have := Option.some.inj e; have := HsB.out; omega
  have hA2 : W2.heap[w.heap.size]? = some (.cells #[.int .i64 0, .string ⟨#[]⟩, .string ⟨#[]⟩, .slice none 0 0, .slice none 0 0, .int .i64 0, .int .i64 0, .string ⟨#[]⟩] 26 (0, 0)) := (hg2.block _ (by have := Hsz.out; omega) (hneB _ (by omega))).trans HA1.out
  have hs2 : W2.cell? ⟨1, 0, none⟩ = some (.iface 132 (.pointer (some a))) := (World.cell?_of_block (a := ⟨1, 0, none⟩) (hg2.block 1 (by have := Hsz.out; omega) (hneB _ (by omega)))).trans Hs1.out
  have hb2 : Below w.heap.size w W2 := ⟨hg2.os.trans Hb1.out.os, hg2.tape.trans Hb1.out.tape, hg2.output.trans Hb1.out.output, Nat.le_trans Hb1.out.size hg2.size, fun k hk => (hg2.block k (by have := Hsz.out; omega) (hneB _ (by omega))).trans (Hb1.out.block k hk)⟩
  obtain ⟨W3, hW3⟩ : ∃ W, W = W2.alloc (.cells #[.int .i64 q.k, .string q.bx, .string q.tt, .slice uo q.U.length uc, .slice fo q.P.length fc, .int .i64 q.tm, .int .i64 q.md, .string q.ms] 26) := ⟨_, rfl⟩
  have hb3 : Below W2.heap.size W2 W3 := by rw [hW3]; exact (Below.refl _ _).alloc (Nat.le_refl _) _
  have hs3 : W3.heap.size = W2.heap.size + 1 := by rw [hW3]; simp
  have hO3 : W3.heap[W2.heap.size]? = some (.cells #[.int .i64 q.k, .string q.bx, .string q.tt, .slice uo q.U.length uc, .slice fo q.P.length fc, .int .i64 q.tm, .int .i64 q.md, .string q.ms] 26 (0, 0)) := by rw [hW3]; exact hp_alloc _ _
  have hlt2 : w.heap.size < W2.heap.size := lt_of_blk hA2
  have hA3 := (hb3.block _ hlt2).trans hA2
  have hsh3 : W3.cell? ⟨1, 0, none⟩ = some (.iface 132 (.pointer (some a))) := (hb3.cell (p := ⟨1, 0, none⟩) (show 1 < W2.heap.size by omega)).trans hs2
  have c2 := mkHid (decLack WB.heap.size (w.heap.size + 1) 1 [] 132 (.pointer (some a)) W3 (hD2.below hb3) hsh3 (by simp))
  have hgl2 := hD2.gl
  have HA3 := mkHid hA3
  have HO3 := mkHid hO3
  have Hsh3 := mkHid hsh3
  have Hb3 := mkHid (hb2.trans (hb3.mono (by omega)))
  have HW3 := mkHid hW3
  have Hs3 := mkHid hs3
  clear hA2 hs2 hb2 hW3 hb3 hs3 hO3 hA3 hsh3 hD2 hg2 c1 HA1 Hs1 Hb1 HW1 hv
  go_wp2_with fail
  rw [← HW3.out]
  refine c2.out.mono ?_
  rintro e W4 ⟨rfl, hX4, hg4⟩
  have hneG : ∀ k, k ≠ WB.heap.size → some k ≠ some WB.heap.size := fun k hk e => hk (Option.some.inj e)
  have hA4 : W4.heap[w.heap.size]? = some (.cells #[.int .i64 0, .string ⟨#[]⟩, .string ⟨#[]⟩, .slice none 0 0, .slice none 0 0, .int .i64 0, .int .i64 0, .string ⟨#[]⟩] 26 (0, 0)) := (hg4.block _ (by have := Hs3.out; omega) (hneB _ (by omega))).trans HA3.out
  have hO4 : W4.heap[W2.heap.size]? = some (.cells #[.int .i64 q.k, .string q.bx, .string q.tt, .slice uo q.U.length uc, .slice fo q.P.length fc, .int .i64 q.tm, .int .i64 q.md, .string q.ms] 26 (0, 0)) := (hg4.block _ (by have := Hs3.out; omega) (hneG _ (by omega))).trans HO3.out
  have hs4 : W4.cell? ⟨1, 0, none⟩ = some (.iface 132 (.pointer (some a))) := (World.cell?_of_block (a := ⟨1, 0, none⟩) (hg4.block 1 (by have := Hs3.out; omega) (hneB _ (by omega)))).trans Hsh3.out
  have hx4 : W4.cell? ⟨WB.heap.size, 1, none⟩ = some (.iface 132 (.pointer (some a))) := by
    obtain ⟨o, m, c, h1⟩ := hX4
    simp [World.cell?, h1]
  have Hb4 : Hid (Below w.heap.size w W4) := mkHid ⟨hg4.os.trans Hb3.out.os, hg4.tape.trans Hb3.out.tape, hg4.output.trans Hb3.out.output, Nat.le_trans Hb3.out.size hg4.size, fun k hk => (hg4.block k (by have := Hs3.out; omega) (hneB _ (by omega))).trans (Hb3.out.block k hk)⟩
  have HA4 := mkHid hA4
  have HO4 := mkHid hO4
  have c3 := mkHid (isSame a W4)
  clear hA4 hO4 hX4 hg4 c2 HA3 HO3 Hsh3 Hb3 HW3
  go_wp2_with fail
  refine c3.out.mono ?_
  rintro e W5 ⟨rfl, rfl⟩
  go_wp2_with (first | (refine wpL_load_row rfl 26 _ rfl W2.heap.size #[.int .i64 q.k, .string q.bx, .string q.tt, .slice uo q.U.length uc, .slice fo q.P.length fc, .int .i64 q.tm, .int .i64 q.md, .string q.ms] 26 (0, 0) _ rfl HO4.out Tryd.underlying26 rfl (by kernel_rfl) ?_) | (refine wpL_store_row rfl 26 _ _ rfl w.heap.size #[.int .i64 q.k, .string q.bx, .string q.tt, .slice uo q.U.length uc, .slice fo q.P.length fc, .int .i64 q.tm, .int .i64 q.md, .string q.ms] rfl rfl 26 _ HA4.out (by kernel_rfl) rfl (by simp [Value.oneCell']) ?_))
  refine bodyPost_ret (v := .tuple #[.agg #[.int .i64 q.k, .string q.bx, .string q.tt, .slice uo q.U.length uc, .slice fo q.P.length fc, .int .i64 q.tm, .int .i64 q.md, .string q.ms], .nilIface]) (results_row_tmp Tryd.results28 _ _ w.heap.size 26 _ (0, 0) _ _ rfl (setRow_heap _ _ _ _ _ _ HA4.out) Tryd.underlying26 rfl (by kernel_rfl) rfl) rfl ?_
  exact HQ.out uo uc fo fc _ (Hb4.out.grown (grown_setRow _ _ _) Hb4.out.size (fun j hj => by cases hj; exact Nat.le_refl _))
end Go.Proofs.YtillilllceeonaaDoor
namespace Go.Proofs.YtillilllceeonaaDoor
open Go.RowKit Go.Lib Go.Maps
set_option maxRecDepth 20000 in
theorem D2.gr {g b : Nat} {w W W2 : World} (hb : Below w.heap.size w W) (h2 : D2 g b W W2) (hbw : w.heap.size ≤ b) : w.grownBy W2 (some g) :=
  ⟨h2.os.trans hb.os, h2.tape.trans hb.tape, h2.output.trans hb.output, Nat.le_trans hb.size h2.size, fun k hk hr => (h2.keep k (Nat.lt_of_lt_of_le hk hb.size) (fun e => hr (by rw [e])) (by omega)).trans (hb.block k hk)⟩
set_option maxRecDepth 20000 in
theorem gr_belowD {g : Nat} {w W W2 : World} (h : w.grownBy W (some g)) (hb : Below W.heap.size W W2) : w.grownBy W2 (some g) :=
  ⟨hb.os.trans h.os, hb.tape.trans h.tape, hb.output.trans h.output, Nat.le_trans h.size hb.size, fun k hk hr => (hb.block k (Nat.lt_of_lt_of_le hk h.size)).trans (h.block k hk hr)⟩
set_option maxRecDepth 20000 in
theorem gr_setRow {g b : Nat} {w W : World} {cs : Array Value} (h : w.grownBy W (some g)) (hb : w.heap.size ≤ b) : w.grownBy (W.setRow b cs) (some g) :=
  ⟨h.os, h.tape, h.output, by have := (grown_setRow W b cs).size; have := h.size; omega, fun k hk hr => (setRow_other W b k cs (by omega)).trans (h.block k hk hr)⟩
set_option maxRecDepth 20000 in
set_option maxHeartbeats 8000000 in
theorem framedEnd (g r : Nat) (et : TypeId) (ep : Value) (w : World) (h : Dec g r [] w) (hs : w.cell? ⟨1, 0, none⟩ = some (.iface et ep)) :
    Calls Tryd.prog 18 #[.pointer (some ⟨g, 0, none⟩)] w fun e w' => e = .returned (.tuple #[.agg #[.int .i64 0, .string ⟨#[]⟩, .string ⟨#[]⟩, .slice none 0 0, .slice none 0 0, .int .i64 0, .int .i64 0, .string ⟨#[]⟩], .iface et ep]) ∧ w.grownBy w' (some g) := by
  obtain ⟨W, hW⟩ : ∃ W, W = (w.alloc (.cells #[.int .i64 0, .string ⟨#[]⟩, .string ⟨#[]⟩, .slice none 0 0, .slice none 0 0, .int .i64 0, .int .i64 0, .string ⟨#[]⟩] 26)).alloc (.cells #[.int .i64 0, .int .i64 0, .int .i64 0, .string ⟨#[]⟩] 50) := ⟨_, rfl⟩
  have hbW : Below w.heap.size w W := by rw [hW]; exact ((Below.refl _ _).alloc (Nat.le_refl _) _).alloc (by simp) _
  have hsW : W.heap.size = w.heap.size + 2 := by rw [hW]; simp
  have hB : W.heap[w.heap.size + 1]? = some (.cells #[.int .i64 0, .int .i64 0, .int .i64 0, .string ⟨#[]⟩] 50 (0, 0)) := by
    rw [hW]
    have := hp_alloc (w.alloc (.cells #[.int .i64 0, .string ⟨#[]⟩, .string ⟨#[]⟩, .slice none 0 0, .slice none 0 0, .int .i64 0, .int .i64 0, .string ⟨#[]⟩] 26)) (.cells #[.int .i64 0, .int .i64 0, .int .i64 0, .string ⟨#[]⟩] 50)
    rwa [World.size_alloc] at this
  have hA : W.heap[w.heap.size]? = some (.cells #[.int .i64 0, .string ⟨#[]⟩, .string ⟨#[]⟩, .slice none 0 0, .slice none 0 0, .int .i64 0, .int .i64 0, .string ⟨#[]⟩] 26 (0, 0)) := by
    rw [hW, heap_alloc_old _ _ _ (by simp)]
    exact hp_alloc _ _
  have hgl := h.gl
  have hrl := h.rl
  have hsW1 : W.cell? ⟨1, 0, none⟩ = some (.iface et ep) := (hbW.cell (p := ⟨1, 0, none⟩) (World.block_lt_of_cell? _ _ hs)).trans hs
  have c1 := mkHid (decFrameX g r (w.heap.size + 1) et ep W (h.below hbW) hsW1 (by omega) hB)
  have HW := mkHid hW
  have HbW := mkHid hbW
  have HsW := mkHid hsW
  have HA := mkHid hA
  clear h hs hW hbW hB hA hsW hsW1
  go_enter Tryd.func18, Tryd.ntmps18
  go_wp2_with fail
  rw [← HW.out]
  refine c1.out.mono ?_
  rintro e W2 ⟨rfl, hX2, hB2, h2⟩
  have HA2 : Hid (W2.heap[w.heap.size]? = some (.cells #[.int .i64 0, .string ⟨#[]⟩, .string ⟨#[]⟩, .slice none 0 0, .slice none 0 0, .int .i64 0, .int .i64 0, .string ⟨#[]⟩] 26 (0, 0))) := mkHid ((h2.keep _ (by have := HsW.out; omega) (by omega) (by omega)).trans HA.out)
  have Hg2 := mkHid (D2.gr HbW.out h2 (by omega))
  have x2 : W2.cell? ⟨g, 1, none⟩ = some (.iface et ep) := by
    obtain ⟨o, m, c, h1⟩ := hX2
    simp [World.cell?, h1]
  have HS0 : Hid (W2.drew.cell? ⟨g, 1, none⟩ = some (.iface et ep)) := mkHid x2
  have HS1 : Hid ((W2.drew.setRow w.heap.size #[.int .i64 0, .string ⟨#[]⟩, .string ⟨#[]⟩, .slice none 0 0, .slice none 0 0, .int .i64 0, .int .i64 0, .string ⟨#[]⟩]).cell? ⟨g, 1, none⟩ = some (.iface et ep)) := mkHid ((World.cell?_of_block (a := ⟨g, 1, none⟩) (setRow_other W2.drew w.heap.size g _ (by omega))).trans x2)
  clear hX2 hB2 h2 c1 HW HbW HsW HA
  go_wp2
  refine wp_region_held (S := fun w' => w'.cell? ⟨g, 1, none⟩ = some (.iface et ep)) (by kernel_rfl) ?_
  refine wpAnyH_take (i := 0) (v := .agg #[.int .i64 0, .string ⟨#[]⟩, .string ⟨#[]⟩, .slice none 0 0, .slice none 0 0, .int .i64 0, .int .i64 0, .string ⟨#[]⟩]) rfl (by kernel_rfl) (by kernel_rfl) (by kernel_rfl) (fun _ _ _ h => h) (Or.inl ⟨by rfl, ?_⟩) HS0.out ?_
  · rintro w s0
    go_simp
    all_goals first | done | (intro h; exfalso; omega) | omega
  go_simp
  refine wpAnyH_take (i := 1) (v := .pointer (some ⟨g, 0, none⟩)) rfl (by kernel_rfl) (by kernel_rfl) (by kernel_rfl) (fun _ _ _ h => h) (Or.inl ⟨by rfl, ?_⟩) HS0.out ?_
  · rintro w s0
    go_simp
    all_goals first | done | (intro h; exfalso; omega) | omega
  go_simp
  refine wpAnyH_take (i := 2) (v := .pointer (some ⟨g, 0, none⟩)) rfl (by kernel_rfl) (by kernel_rfl) (by kernel_rfl) (fun _ _ _ h => h) (Or.inl ⟨by rfl, ?_⟩) HS0.out ?_
  · rintro w s0
    go_simp
    all_goals first | done | (intro h; exfalso; omega) | omega
  go_simp
  refine wpAnyH_take (i := 3) (v := .pointer (some ⟨g, 1, none⟩)) rfl (by kernel_rfl) (by kernel_rfl) (by kernel_rfl) (fun _ _ _ h => h) (Or.inl ⟨by rfl, ?_⟩) HS0.out ?_
  · rintro w s0
    go_simp
    all_goals first | done | (intro h; exfalso; omega) | omega
  go_simp
  refine wpAnyH_take (i := 4) (v := .iface et ep) rfl (by kernel_rfl) (by kernel_rfl) (by kernel_rfl) (fun _ _ _ h => h) (Or.inl ⟨by rfl, ?_⟩) HS0.out ?_
  · rintro w s0
    go_simp
    all_goals first | done | (intro h; exfalso; omega) | omega
  go_simp
  refine wpAnyH_all (rs := [5]) (by kernel_rfl) (by simp) ?_
  intro j hj
  simp only [List.mem_cons, List.not_mem_nil, or_false] at hj
  subst hj
  refine wpOp_step rfl (fun K hK => ?_)
  refine wp_store_row 26 _ _ rfl w.heap.size #[.int .i64 0, .string ⟨#[]⟩, .string ⟨#[]⟩, .slice none 0 0, .slice none 0 0, .int .i64 0, .int .i64 0, .string ⟨#[]⟩] rfl rfl 26 _ HA2.out (by kernel_rfl) rfl (by simp [Value.oneCell']) ?_
  refine hK _ _ ⟨HS1.out, ?_⟩
  clear hK K
  go_simp
  refine wpAnyH_take (i := 6) (v := .iface et ep) rfl (by kernel_rfl) (by kernel_rfl) (by kernel_rfl) (fun _ _ _ h => h) (Or.inl ⟨by rfl, ?_⟩) HS1.out ?_
  · rintro w s0
    go_simp
    all_goals first | done | (intro h; exfalso; omega) | omega
  go_simp
  refine wpAnyH_done (by kernel_rfl) ?_ _
  go_wp2
  refine bodyPost_ret (v := .tuple #[.agg #[.int .i64 0, .string ⟨#[]⟩, .string ⟨#[]⟩, .slice none 0 0, .slice none 0 0, .int .i64 0, .int .i64 0, .string ⟨#[]⟩], .iface et ep]) (results_row_tmp Tryd.results18 _ _ w.heap.size 26 _ (0, 0) _ _ rfl (setRow_heap _ _ _ _ _ _ HA2.out) Tryd.underlying26 rfl (by kernel_rfl) rfl) rfl ?_
  exact ⟨rfl, gr_setRow (gr_belowD Hg2.out (Below.refl _ _).drew) (Nat.le_refl _)⟩
set_option maxRecDepth 20000 in
set_option maxHeartbeats 8000000 in
theorem framedSum (g r s : Nat) (t : ByteArray) (F G : List UInt8) (et : TypeId) (ep : Value) (w : World) (h : Dec g r F w) (hs : w.cell? ⟨0, 0, none⟩ = some (.iface et ep)) (hgs : g ≠ 0) (ht : t.size ≤ 200000) (ht1 : 1 ≤ t.size) (hsl : s ≤ 4294967295) (hne : s ≠ frS t) (hFe : F = be 1 70 ++ (be 4 t.size ++ (be 4 s ++ (t.data.toList ++ G)))) (hF : F.length ≤ 1000000) :
    Calls Tryd.prog 18 #[.pointer (some ⟨g, 0, none⟩)] w fun e w' => e = .returned (.tuple #[.agg #[.int .i64 0, .string ⟨#[]⟩, .string ⟨#[]⟩, .slice none 0 0, .slice none 0 0, .int .i64 0, .int .i64 0, .string ⟨#[]⟩], .iface et ep]) ∧ w.grownBy w' (some g) := by
  obtain ⟨S1, hS1⟩ : ∃ x, x = frS t := ⟨_, rfl⟩
  rw [← hS1] at hne
  have hne2 : ((s : Int) == (S1 : Int)) = false := by simp; omega
  have hne3 : ¬ (s : Int) = (S1 : Int) := by omega
  have HS1 := mkHid hS1
  have hgl0 : 0 < w.heap.size := World.block_lt_of_cell? _ _ hs
  obtain ⟨W, hW⟩ : ∃ W, W = (w.alloc (.cells #[.int .i64 0, .string ⟨#[]⟩, .string ⟨#[]⟩, .slice none 0 0, .slice none 0 0, .int .i64 0, .int .i64 0, .string ⟨#[]⟩] 26)).alloc (.cells #[.int .i64 0, .int .i64 0, .int .i64 0, .string ⟨#[]⟩] 50) := ⟨_, rfl⟩
  have hbW : Below w.heap.size w W := by rw [hW]; exact ((Below.refl _ _).alloc (Nat.le_refl _) _).alloc (by simp) _
  have hsW : W.heap.size = w.heap.size + 2 := by rw [hW]; simp
  have hB : W.heap[w.heap.size + 1]? = some (.cells #[.int .i64 0, .int .i64 0, .int .i64 0, .string ⟨#[]⟩] 50 (0, 0)) := by
    rw [hW]
    have := hp_alloc (w.alloc (.cells #[.int .i64 0, .string ⟨#[]⟩, .string ⟨#[]⟩, .slice none 0 0, .slice none 0 0, .int .i64 0, .int .i64 0, .string ⟨#[]⟩] 26)) (.cells #[.int .i64 0, .int .i64 0, .int .i64 0, .string ⟨#[]⟩] 50)
    rwa [World.size_alloc] at this
  have hA : W.heap[w.heap.size]? = some (.cells #[.int .i64 0, .string ⟨#[]⟩, .string ⟨#[]⟩, .slice none 0 0, .slice none 0 0, .int .i64 0, .int .i64 0, .string ⟨#[]⟩] 26 (0, 0)) := by
    rw [hW, heap_alloc_old _ _ _ (by simp)]
    exact hp_alloc _ _
  have hgl := h.gl
  have hrl := h.rl
  have hsW1 : W.cell? ⟨0, 0, none⟩ = some (.iface et ep) := (hbW.cell (p := ⟨0, 0, none⟩) hgl0).trans hs
  have HsW1 := mkHid hsW1
  have c1 := mkHid (decFrame g r (w.heap.size + 1) s t F G W (h.below hbW) (by omega) (by omega) hB ht ht1 hsl hFe hF)
  have HW := mkHid hW
  have HbW := mkHid hbW
  have HsW := mkHid hsW
  have HA := mkHid hA
  clear h hs hW hbW hB hA hsW hsW1 hFe hF hne
  go_enter Tryd.func18, Tryd.ntmps18
  go_wp2_with fail
  rw [← HW.out]
  refine c1.out.mono ?_
  rintro e W2 ⟨rfl, hD2, hB2, h2⟩
  have Hes : Hid (W2.cell? ⟨0, 0, none⟩ = some (.iface et ep)) := mkHid ((World.cell?_of_block (a := ⟨0, 0, none⟩) (h2.keep 0 (by have := HsW.out; omega) (fun e => hgs e.symm) (by omega))).trans HsW1.out)
  have HA2 : Hid (W2.heap[w.heap.size]? = some (.cells #[.int .i64 0, .string ⟨#[]⟩, .string ⟨#[]⟩, .slice none 0 0, .slice none 0 0, .int .i64 0, .int .i64 0, .string ⟨#[]⟩] 26 (0, 0))) := mkHid ((h2.keep _ (by have := HsW.out; omega) (by omega) (by omega)).trans HA.out)
  have Hg2 := mkHid (D2.gr HbW.out h2 (by omega))
  have x2 : W2.cell? ⟨g, 1, none⟩ = some .nilIface := by
    obtain ⟨a, c, h1, -, -⟩ := hD2.ex
    simp [World.cell?, h1]
  have HS0 : Hid (W2.drew.cell? ⟨w.heap.size + 1, 2, none⟩ = some (.int .i64 (s : Int)) ∧ W2.drew.cell? ⟨w.heap.size + 1, 3, none⟩ = some (.string t)) := mkHid (by
    constructor
    · show W2.cell? _ = _
      simp [World.cell?, hB2]
    · show W2.cell? _ = _
      simp [World.cell?, hB2])
  have hltf : Hid (w.heap.size + 1 < W2.drew.heap.size) := mkHid (lt_of_blk hB2)
  have HD2 := mkHid (hD2.below (Below.refl W2.heap.size W2).drew)
  have cS := mkHid (implFrameSum t W2.drew ht S1 hS1)
  clear hD2 hB2 h2 c1 HW HbW HsW HA hS1
  go_wp2
  refine wp_region_held (S := fun w' => w'.cell? ⟨w.heap.size + 1, 2, none⟩ = some (.int .i64 (s : Int)) ∧ w'.cell? ⟨w.heap.size + 1, 3, none⟩ = some (.string t)) (by kernel_rfl) ?_
  refine wpAnyH_take (i := 0) (v := .pointer (some ⟨w.heap.size + 1, 2, none⟩)) rfl (by kernel_rfl) (by kernel_rfl) (by kernel_rfl) (fun _ _ _ h => h) (Or.inl ⟨by rfl, ?_⟩) HS0.out ?_
  · rintro w ⟨s0, s1⟩
    go_simp
    all_goals first | done | (intro h; exfalso; omega) | omega
  go_simp
  refine wpAnyH_take (i := 1) (v := .int .i64 (s : Int)) rfl (by kernel_rfl) (by kernel_rfl) (by kernel_rfl) (fun _ _ _ h => h) (Or.inl ⟨by rfl, ?_⟩) HS0.out ?_
  · rintro w ⟨s0, s1⟩
    go_simp
    all_goals first | done | (intro h; exfalso; omega) | omega
  go_simp
  refine wpAnyH_take (i := 2) (v := .pointer (some ⟨w.heap.size + 1, 3, none⟩)) rfl (by kernel_rfl) (by kernel_rfl) (by kernel_rfl) (fun _ _ _ h => h) (Or.inl ⟨by rfl, ?_⟩) HS0.out ?_
  · rintro w ⟨s0, s1⟩
    go_simp
    all_goals first | done | (intro h; exfalso; omega) | omega
  go_simp
  refine wpAnyH_take (i := 3) (v := .string t) rfl (by kernel_rfl) (by kernel_rfl) (by kernel_rfl) (fun _ _ _ h => h) (Or.inl ⟨by rfl, ?_⟩) HS0.out ?_
  · rintro w ⟨s0, s1⟩
    go_simp
    all_goals first | done | (intro h; exfalso; omega) | omega
  go_simp
  refine wpAnyH_all (rs := [4]) (by kernel_rfl) (by simp) ?_
  intro j hj
  simp only [List.mem_cons, List.not_mem_nil, or_false] at hj
  subst hj
  refine wpOp_step rfl (fun K hK => ?_)
  go_simp
  refine cS.out.mono ?_
  rintro e W3 ⟨rfl, hb3⟩
  have hS3 : W3.cell? ⟨w.heap.size + 1, 2, none⟩ = some (.int .i64 (s : Int)) ∧ W3.cell? ⟨w.heap.size + 1, 3, none⟩ = some (.string t) := ⟨(hb3.cell (p := ⟨w.heap.size + 1, 2, none⟩) hltf.out).trans HS0.out.1, (hb3.cell (p := ⟨w.heap.size + 1, 3, none⟩) hltf.out).trans HS0.out.2⟩
  have Hb3 := mkHid hb3
  have HS3 := mkHid hS3
  refine hK _ _ ⟨HS3.out, ?_⟩
  clear hK K hS3 hb3
  go_simp
  refine wpAnyH_take (i := 5) (v := .bool true) rfl (by kernel_rfl) (by kernel_rfl) (by kernel_rfl) (fun _ _ _ h => h) (Or.inl ⟨by rfl, ?_⟩) HS3.out ?_
  · rintro w ⟨s0, s1⟩
    go_simp
    all_goals first | done | (intro h; exfalso; omega) | omega
  go_simp
  refine wpAnyH_done (by kernel_rfl) ?_ _
  have HA3 : Hid (W3.heap[w.heap.size]? = some (.cells #[.int .i64 0, .string ⟨#[]⟩, .string ⟨#[]⟩, .slice none 0 0, .slice none 0 0, .int .i64 0, .int .i64 0, .string ⟨#[]⟩] 26 (0, 0))) := mkHid ((Hb3.out.block _ (lt_of_blk HA2.out)).trans HA2.out)
  have HE3 : Hid (W3.drew.cell? ⟨0, 0, none⟩ = some (.iface et ep)) := mkHid ((Hb3.out.cell (p := ⟨0, 0, none⟩) (World.block_lt_of_cell? _ _ Hes.out)).trans Hes.out)
  have HE4 : Hid ((W3.drew.setRow w.heap.size #[.int .i64 0, .string ⟨#[]⟩, .string ⟨#[]⟩, .slice none 0 0, .slice none 0 0, .int .i64 0, .int .i64 0, .string ⟨#[]⟩]).cell? ⟨0, 0, none⟩ = some (.iface et ep)) := mkHid ((World.cell?_of_block (a := ⟨0, 0, none⟩) (setRow_other W3.drew w.heap.size 0 _ (by omega))).trans HE3.out)
  have Hg3 := mkHid (gr_belowD (gr_belowD Hg2.out (Below.refl _ _).drew) Hb3.out)
  clear HA2 HS0 HS3
  have HA2 := HA3
  clear HA3
  go_wp2
  refine wp_region_held (S := fun w' => w'.cell? ⟨0, 0, none⟩ = some (.iface et ep)) (by kernel_rfl) ?_
  refine wpAnyH_take (i := 0) (v := .agg #[.int .i64 0, .string ⟨#[]⟩, .string ⟨#[]⟩, .slice none 0 0, .slice none 0 0, .int .i64 0, .int .i64 0, .string ⟨#[]⟩]) rfl (by kernel_rfl) (by kernel_rfl) (by kernel_rfl) (fun _ _ _ h => h) (Or.inl ⟨by rfl, ?_⟩) HE3.out ?_
  · rintro w s0
    go_simp
    all_goals first | done | (intro h; exfalso; omega) | omega
  go_simp
  refine wpAnyH_take (i := 1) (v := .iface et ep) rfl (by kernel_rfl) (by kernel_rfl) (by kernel_rfl) (fun _ _ _ h => h) (Or.inl ⟨by rfl, ?_⟩) HE3.out ?_
  · rintro w s0
    go_simp
    all_goals first | done | (intro h; exfalso; omega) | omega
  go_simp
  refine wpAnyH_all (rs := [2]) (by kernel_rfl) (by simp) ?_
  intro j hj
  simp only [List.mem_cons, List.not_mem_nil, or_false] at hj
  subst hj
  refine wpOp_step rfl (fun K hK => ?_)
  refine wp_store_row 26 _ _ rfl w.heap.size #[.int .i64 0, .string ⟨#[]⟩, .string ⟨#[]⟩, .slice none 0 0, .slice none 0 0, .int .i64 0, .int .i64 0, .string ⟨#[]⟩] rfl rfl 26 _ HA2.out (by kernel_rfl) rfl (by simp [Value.oneCell']) ?_
  refine hK _ _ ⟨HE4.out, ?_⟩
  clear hK K
  go_simp
  refine wpAnyH_take (i := 3) (v := .iface et ep) rfl (by kernel_rfl) (by kernel_rfl) (by kernel_rfl) (fun _ _ _ h => h) (Or.inl ⟨by rfl, ?_⟩) HE4.out ?_
  · rintro w s0
    go_simp
    all_goals first | done | (intro h; exfalso; omega) | omega
  go_simp
  refine wpAnyH_done (by kernel_rfl) ?_ _
  go_wp2
  refine bodyPost_ret (v := .tuple #[.agg #[.int .i64 0, .string ⟨#[]⟩, .string ⟨#[]⟩, .slice none 0 0, .slice none 0 0, .int .i64 0, .int .i64 0, .string ⟨#[]⟩], .iface et ep]) (results_row_tmp Tryd.results18 _ _ w.heap.size 26 _ (0, 0) _ _ rfl (setRow_heap _ _ _ _ _ _ HA2.out) Tryd.underlying26 rfl (by kernel_rfl) rfl) rfl ?_
  exact ⟨rfl, gr_setRow (gr_belowD Hg3.out (Below.refl _ _).drew) (Nat.le_refl _)⟩
set_option maxRecDepth 20000 in
set_option maxHeartbeats 8000000 in
theorem framedGood (g r : Nat) (q : OpP) (t : ByteArray) (F G : List UInt8) (a : Addr) (w : World) (h : Dec g r F w) (hs : w.cell? ⟨1, 0, none⟩ = some (.iface 132 (.pointer (some a)))) (hgs : g ≠ 1) (hq : q.full) (htq : t.data.toList = q.enc) (ht : t.size ≤ 200000) (ht1 : 1 ≤ t.size) (hFe : F = be 1 70 ++ (be 4 t.size ++ (be 4 (frS t) ++ (t.data.toList ++ G)))) (hF : F.length ≤ 1000000) :
    Calls Tryd.prog 18 #[.pointer (some ⟨g, 0, none⟩)] w fun e w' => OpM g r q G w e w' := by
  obtain ⟨s, hS⟩ : ∃ x, x = frS t := ⟨_, rfl⟩
  rw [← hS] at hFe
  have hsl : s ≤ 4294967295 := by have := frS_lt t; omega
  have hS1 := hS
  obtain ⟨S1, hSs⟩ : ∃ x, x = s := ⟨_, rfl⟩
  rw [← hSs] at hS1
  have hgl0 : 1 < w.heap.size := World.block_lt_of_cell? _ _ hs
  obtain ⟨Q, hQ⟩ : ∃ Q, Q = OpM g r q G w := ⟨_, rfl⟩
  have HQ : Hid (∀ uo uc fo fc w', Dec g r G w' → w.grownBy w' (some g) → Q (.returned (.tuple #[.agg #[.int .i64 q.k, .string q.bx, .string q.tt, .slice uo q.U.length uc, .slice fo q.P.length fc, .int .i64 q.tm, .int .i64 q.md, .string q.ms], .nilIface])) w') := mkHid (by rw [hQ]; exact fun uo uc fo fc w' h1 h2 => ⟨uo, uc, fo, fc, rfl, h1, h2⟩)
  show Calls _ _ _ _ fun e w' => OpM g r q G w e w'
  rw [← hQ]
  obtain ⟨W, hW⟩ : ∃ W, W = (w.alloc (.cells #[.int .i64 0, .string ⟨#[]⟩, .string ⟨#[]⟩, .slice none 0 0, .slice none 0 0, .int .i64 0, .int .i64 0, .string ⟨#[]⟩] 26)).alloc (.cells #[.int .i64 0, .int .i64 0, .int .i64 0, .string ⟨#[]⟩] 50) := ⟨_, rfl⟩
  have hbW : Below w.heap.size w W := by rw [hW]; exact ((Below.refl _ _).alloc (Nat.le_refl _) _).alloc (by simp) _
  have hsW : W.heap.size = w.heap.size + 2 := by rw [hW]; simp
  have hB : W.heap[w.heap.size + 1]? = some (.cells #[.int .i64 0, .int .i64 0, .int .i64 0, .string ⟨#[]⟩] 50 (0, 0)) := by
    rw [hW]
    have := hp_alloc (w.alloc (.cells #[.int .i64 0, .string ⟨#[]⟩, .string ⟨#[]⟩, .slice none 0 0, .slice none 0 0, .int .i64 0, .int .i64 0, .string ⟨#[]⟩] 26)) (.cells #[.int .i64 0, .int .i64 0, .int .i64 0, .string ⟨#[]⟩] 50)
    rwa [World.size_alloc] at this
  have hA : W.heap[w.heap.size]? = some (.cells #[.int .i64 0, .string ⟨#[]⟩, .string ⟨#[]⟩, .slice none 0 0, .slice none 0 0, .int .i64 0, .int .i64 0, .string ⟨#[]⟩] 26 (0, 0)) := by
    rw [hW, heap_alloc_old _ _ _ (by simp)]
    exact hp_alloc _ _
  have hgl := h.gl
  have hrl := h.rl
  have hsW1 : W.cell? ⟨1, 0, none⟩ = some (.iface 132 (.pointer (some a))) := (hbW.cell (p := ⟨1, 0, none⟩) hgl0).trans hs
  have HsW1 := mkHid hsW1
  have c1 := mkHid (decFrame g r (w.heap.size + 1) s t F G W (h.below hbW) (by omega) (by omega) hB ht ht1 hsl hFe hF)
  have HW := mkHid hW
  have HbW := mkHid hbW
  have HsW := mkHid hsW
  have HA := mkHid hA
  have Htq := mkHid htq
  clear h hs hW hbW hB hA hsW hsW1 hFe hF hS hQ htq
  go_enter Tryd.func18, Tryd.ntmps18
  go_wp2_with fail
  rw [← HW.out]
  refine c1.out.mono ?_
  rintro e W2 ⟨rfl, hD2, hB2, h2⟩
  have Hes : Hid (W2.cell? ⟨1, 0, none⟩ = some (.iface 132 (.pointer (some a)))) := mkHid ((World.cell?_of_block (a := ⟨1, 0, none⟩) (h2.keep 1 (by have := HsW.out; omega) (fun e => hgs e.symm) (by omega))).trans HsW1.out)
  have HA2 : Hid (W2.heap[w.heap.size]? = some (.cells #[.int .i64 0, .string ⟨#[]⟩, .string ⟨#[]⟩, .slice none 0 0, .slice none 0 0, .int .i64 0, .int .i64 0, .string ⟨#[]⟩] 26 (0, 0))) := mkHid ((h2.keep _ (by have := HsW.out; omega) (by omega) (by omega)).trans HA.out)
  have Hg2 := mkHid (D2.gr HbW.out h2 (by omega))
  have x2 : W2.cell? ⟨g, 1, none⟩ = some .nilIface := by
    obtain ⟨a, c, h1, -, -⟩ := hD2.ex
    simp [World.cell?, h1]
  have HS0 : Hid (W2.drew.cell? ⟨w.heap.size + 1, 2, none⟩ = some (.int .i64 (s : Int)) ∧ W2.drew.cell? ⟨w.heap.size + 1, 3, none⟩ = some (.string t)) := mkHid (by
    constructor
    · show W2.cell? _ = _
      simp [World.cell?, hB2]
    · show W2.cell? _ = _
      simp [World.cell?, hB2])
  have hltf : Hid (w.heap.size + 1 < W2.drew.heap.size) := mkHid (lt_of_blk hB2)
  have HD2 := mkHid (hD2.below (Below.refl W2.heap.size W2).drew)
  have cS := mkHid (implFrameSum t W2.drew ht S1 hS1)
  rw [hSs] at cS
  clear hD2 hB2 h2 c1 HW HbW HsW HA hS1 hSs
  go_wp2
  refine wp_region_held (S := fun w' => w'.cell? ⟨w.heap.size + 1, 2, none⟩ = some (.int .i64 (s : Int)) ∧ w'.cell? ⟨w.heap.size + 1, 3, none⟩ = some (.string t)) (by kernel_rfl) ?_
  refine wpAnyH_take (i := 0) (v := .pointer (some ⟨w.heap.size + 1, 2, none⟩)) rfl (by kernel_rfl) (by kernel_rfl) (by kernel_rfl) (fun _ _ _ h => h) (Or.inl ⟨by rfl, ?_⟩) HS0.out ?_
  · rintro w ⟨s0, s1⟩
    go_simp
    all_goals first | done | (intro h; exfalso; omega) | omega
  go_simp
  refine wpAnyH_take (i := 1) (v := .int .i64 (s : Int)) rfl (by kernel_rfl) (by kernel_rfl) (by kernel_rfl) (fun _ _ _ h => h) (Or.inl ⟨by rfl, ?_⟩) HS0.out ?_
  · rintro w ⟨s0, s1⟩
    go_simp
    all_goals first | done | (intro h; exfalso; omega) | omega
  go_simp
  refine wpAnyH_take (i := 2) (v := .pointer (some ⟨w.heap.size + 1, 3, none⟩)) rfl (by kernel_rfl) (by kernel_rfl) (by kernel_rfl) (fun _ _ _ h => h) (Or.inl ⟨by rfl, ?_⟩) HS0.out ?_
  · rintro w ⟨s0, s1⟩
    go_simp
    all_goals first | done | (intro h; exfalso; omega) | omega
  go_simp
  refine wpAnyH_take (i := 3) (v := .string t) rfl (by kernel_rfl) (by kernel_rfl) (by kernel_rfl) (fun _ _ _ h => h) (Or.inl ⟨by rfl, ?_⟩) HS0.out ?_
  · rintro w ⟨s0, s1⟩
    go_simp
    all_goals first | done | (intro h; exfalso; omega) | omega
  go_simp
  refine wpAnyH_all (rs := [4]) (by kernel_rfl) (by simp) ?_
  intro j hj
  simp only [List.mem_cons, List.not_mem_nil, or_false] at hj
  subst hj
  refine wpOp_step rfl (fun K hK => ?_)
  go_simp
  refine cS.out.mono ?_
  rintro e W3 ⟨rfl, hb3⟩
  have hS3 : W3.cell? ⟨w.heap.size + 1, 2, none⟩ = some (.int .i64 (s : Int)) ∧ W3.cell? ⟨w.heap.size + 1, 3, none⟩ = some (.string t) := ⟨(hb3.cell (p := ⟨w.heap.size + 1, 2, none⟩) hltf.out).trans HS0.out.1, (hb3.cell (p := ⟨w.heap.size + 1, 3, none⟩) hltf.out).trans HS0.out.2⟩
  have Hb3 := mkHid hb3
  have HS3 := mkHid hS3
  refine hK _ _ ⟨HS3.out, ?_⟩
  clear hK K hS3 hb3
  go_simp
  refine wpAnyH_take (i := 5) (v := .bool false) rfl (by kernel_rfl) (by kernel_rfl) (by kernel_rfl) (fun _ _ _ h => h) (Or.inl ⟨by rfl, ?_⟩) HS3.out ?_
  · rintro w ⟨s0, s1⟩
    go_simp
    all_goals first | done | (intro h; exfalso; omega) | omega
  go_simp
  refine wpAnyH_done (by kernel_rfl) ?_ _
  have HA3 : Hid (W3.heap[w.heap.size]? = some (.cells #[.int .i64 0, .string ⟨#[]⟩, .string ⟨#[]⟩, .slice none 0 0, .slice none 0 0, .int .i64 0, .int .i64 0, .string ⟨#[]⟩] 26 (0, 0))) := mkHid ((Hb3.out.block _ (lt_of_blk HA2.out)).trans HA2.out)
  have hE3 : W3.cell? ⟨1, 0, none⟩ = some (.iface 132 (.pointer (some a))) := (Hb3.out.cell (p := ⟨1, 0, none⟩) (World.block_lt_of_cell? _ _ Hes.out)).trans Hes.out
  have Hg3 := mkHid (gr_belowD (gr_belowD Hg2.out (Below.refl _ _).drew) Hb3.out)
  have HD3 := mkHid (HD2.out.below Hb3.out)
  have c2 := mkHid (implOnly q t a W3 hE3 hq Htq.out (by omega))
  have y3 := HS3.out.2
  clear HA2 HS0 HS3 hE3 HD2
  go_wp2_with fail
  refine c2.out.mono ?_
  rintro e W4 ⟨uo, uc, fo, fc, rfl, hb4⟩
  have HA4 : Hid (W4.heap[w.heap.size]? = some (.cells #[.int .i64 0, .string ⟨#[]⟩, .string ⟨#[]⟩, .slice none 0 0, .slice none 0 0, .int .i64 0, .int .i64 0, .string ⟨#[]⟩] 26 (0, 0))) := mkHid ((hb4.block _ (lt_of_blk HA3.out)).trans HA3.out)
  have Hg4 := mkHid (gr_belowD Hg3.out hb4)
  have HD4 := mkHid (HD3.out.below hb4)
  clear hb4 c2
  go_wp2_with (refine wpL_store_row rfl 26 _ _ rfl w.heap.size #[.int .i64 q.k, .string q.bx, .string q.tt, .slice uo q.U.length uc, .slice fo q.P.length fc, .int .i64 q.tm, .int .i64 q.md, .string q.ms] rfl rfl 26 _ HA4.out (by kernel_rfl) rfl (by simp [Value.oneCell']) ?_)
  refine bodyPost_ret (v := .tuple #[.agg #[.int .i64 q.k, .string q.bx, .string q.tt, .slice uo q.U.length uc, .slice fo q.P.length fc, .int .i64 q.tm, .int .i64 q.md, .string q.ms], .nilIface]) (results_row_tmp Tryd.results18 _ _ w.heap.size 26 _ (0, 0) _ _ rfl (setRow_heap _ _ _ _ _ _ HA4.out) Tryd.underlying26 rfl (by kernel_rfl) rfl) rfl ?_
  exact HQ.out uo uc fo fc _ (HD4.out.stored (grown_setRow _ _ _) (by omega) (by omega)) (gr_setRow Hg4.out (Nat.le_refl _))
end Go.Proofs.YtillilllceeonaaDoor
