
/- The program's ReadLog at one frame. -/
import Derived.Test.YtillilllceeonaaDoorDwFramed
namespace Go.Proofs.YtillilllceeonaaDoor
open Go.RowKit Go.Lib Go.Maps
set_option maxRecDepth 20000 in
theorem Tryd.infoOp : (Tryd.prog.info? 26).map (fun i => (i.zero, i.size, i.bytes)) = some (some (.agg #[.int .i64 0, .string ⟨#[]⟩, .string ⟨#[]⟩, .slice none 0 0, .slice none 0 0, .int .i64 0, .int .i64 0, .string ⟨#[]⟩]), 8, 120) := by kernel_rfl
set_option maxRecDepth 20000 in
/-- An append of an operation to nothing. -/
theorem wp_appOp {w : World} {ops : Array Oper} {rest : List Oper} {o : Oper} {a : Act} {Q : Exit → Act → World → Prop} (hgd : o.guard = none) (s x : Operand)
    (ho : o.op = .call { callee := .builtin .append, args := #[s, x], argTypes := #[30, 30] })
    (hs : a.eval s = .slice none 0 0) (b c : Nat) (hx : a.eval x = .slice (some ⟨b, 0, none⟩) 1 c) (q : OpP) (uo fo : Option Addr) (uc fc : Nat) (hb : w.heap[b]? = some (.cells #[.int .i64 q.k, .string q.bx, .string q.tt, .slice uo q.U.length uc, .slice fo q.P.length fc, .int .i64 q.tm, .int .i64 q.md, .string q.ms] 26 (0, 0)))
    (h : ∀ o9 c9 w', Below w.heap.size w w' → wpList Tryd.prog ops Q rest (a.put o.dst (.slice o9 1 c9)) w') : wpList Tryd.prog ops Q (o :: rest) a w := by
  obtain ⟨i0, hi0, hz0, hz1, hz2⟩ := info_parts Tryd.infoOp
  refine wpList_append_own _ hgd s x 30 ho w.heap.size 26 i0 _ 8 120 Tryd.underlying30 hi0 hz0 hz1 hz2 rfl (by decide) _ 0 [] hs (World.ownsRow_nil _ _ _ _) ⟨b, 0, none⟩ 1 c #[.int .i64 q.k, .string q.bx, .string q.tt, .slice uo q.U.length uc, .slice fo q.P.length fc, .int .i64 q.tm, .int .i64 q.md, .string q.ms].toList hx
    rfl (by
      intro j u hj
      rw [Addr.add_lit, Nat.zero_add]
      match j, hj with
      | 0, hj => cases hj; simp [World.cell?, hb]
      | 1, hj => cases hj; simp [World.cell?, hb]
      | 2, hj => cases hj; simp [World.cell?, hb]
      | 3, hj => cases hj; simp [World.cell?, hb]
      | 4, hj => cases hj; simp [World.cell?, hb]
      | 5, hj => cases hj; simp [World.cell?, hb]
      | 6, hj => cases hj; simp [World.cell?, hb]
      | 7, hj => cases hj; simp [World.cell?, hb]) (by
      intro u hu
      simp only [List.mem_cons, List.not_mem_nil, or_false] at hu
      rcases hu with rfl | rfl | rfl | rfl | rfl | rfl | rfl | rfl <;> rfl) (by unfold maxLen; omega) (by omega) (Nat.le_refl _) ?_
  intro v' w' h1 h2 h3
  rcases h1.2 with ⟨e1, e2⟩ | ⟨g, cap', cur, e1, -⟩
  · exact absurd e2 (by simp)
  · rw [e1]
    exact h _ _ w' ⟨h2.os, h2.tape, h2.output, h2.size, fun k hk => h2.block k hk (by simp [Value.ownBlock])⟩
set_option maxRecDepth 20000 in
set_option maxHeartbeats 8000000 in
theorem readTurned (s : Nat) (t d : ByteArray) (F : List UInt8) (et : TypeId) (ep : Value) (w : World) (hs : w.cell? ⟨0, 0, none⟩ = some (.iface et ep)) (ht : t.size ≤ 200000) (ht1 : 1 ≤ t.size) (hsl : s ≤ 4294967295) (hne : s ≠ frS t) (hFe : F = be 1 70 ++ (be 4 t.size ++ (be 4 s ++ (t.data.toList ++ [])))) (hd : d.data.toList = F) (hl : d.size ≤ 600000) :
    Calls Tryd.prog 8 #[.string d] w fun e w' => e = .returned (.agg #[.slice none 0 0, .int .i64 0]) ∧ Below w.heap.size w w' := by
  obtain ⟨W0, hW0⟩ : ∃ W, W = (w.alloc (.cells #[.slice none 0 0, .int .i64 0] 32)).alloc (.cells #[.slice none 0 0, .int .i64 0] 32) := ⟨_, rfl⟩
  have hb0 : Below w.heap.size w W0 := by rw [hW0]; exact ((Below.refl _ _).alloc (Nat.le_refl _) _).alloc (by simp) _
  have hs0 : W0.heap.size = w.heap.size + 2 := by rw [hW0]; simp
  have hL0 : W0.heap[w.heap.size + 1]? = some (.cells #[.slice none 0 0, .int .i64 0] 32 (0, 0)) := by
    rw [hW0]
    have := hp_alloc (w.alloc (.cells #[.slice none 0 0, .int .i64 0] 32)) (.cells #[.slice none 0 0, .int .i64 0] 32)
    rwa [World.size_alloc] at this
  have hA0 : W0.heap[w.heap.size]? = some (.cells #[.slice none 0 0, .int .i64 0] 32 (0, 0)) := by
    rw [hW0, heap_alloc_old _ _ _ (by simp)]
    exact hp_alloc _ _
  obtain ⟨WB, hWB⟩ : ∃ W, W = bytesWorld W0 5 d := ⟨_, rfl⟩
  obtain ⟨GC, hGC⟩ : ∃ n, n = grownCap W0 d.size 0 5 := ⟨_, rfl⟩
  have hsB : WB.heap.size = w.heap.size + 3 := by rw [hWB, bytesWorld_size, hs0]
  obtain ⟨W1, hW1⟩ : ∃ W, W = WB.alloc (.cells #[.slice (some ⟨w.heap.size + 2, 0, none⟩) d.size GC, .nilIface] 55) := ⟨_, rfl⟩
  have hW1d : W1 = decW d W0 := by rw [hW1, hWB, hGC, decW, hs0]
  have hb1 : Below W0.heap.size W0 W1 := by rw [hW1d]; exact decW_below d W0
  have hs1 : W1.heap.size = w.heap.size + 4 := by rw [hW1d, decW_size, hs0]
  have hD1 : Dec WB.heap.size (w.heap.size + 2) F W1 := by rw [hW1d, hsB]; have := decW_dec d W0 F hd.symm; rwa [hs0] at this
  have hlen : F.length = d.size := by rw [← hd]; simp
  have hv := run_bytes d W0
  rw [← hWB, ← hGC, hs0, hW0] at hv
  have HA1 : Hid (W1.heap[w.heap.size]? = some (.cells #[.slice none 0 0, .int .i64 0] 32 (0, 0))) := mkHid ((hb1.block _ (by omega)).trans hA0)
  have HL1 : Hid (W1.heap[w.heap.size + 1]? = some (.cells #[.slice none 0 0, .int .i64 0] 32 (0, 0))) := mkHid ((hb1.block _ (by omega)).trans hL0)
  have hb01 := hb0.trans (hb1.mono (by omega))
  have c1 := mkHid (framedSum WB.heap.size (w.heap.size + 2) s t F [] et ep W1 hD1 ((hb01.cell (p := ⟨0, 0, none⟩) (World.block_lt_of_cell? _ _ hs)).trans hs) (by omega) ht ht1 hsl hne hFe (by omega))
  have Hb1 := mkHid hb01
  have Hsz := mkHid hs1
  have HsB := mkHid hsB
  have HW1 := mkHid hW1
  have hneB : ∀ k, k < w.heap.size + 3 → some k ≠ some WB.heap.size := fun k hk e => by have := Option.some.inj e; have := HsB.out; omega
  have hdl : ¬ (600000 : Int) < (d.size : Int) := by omega
  clear hs hd hFe hlen hW0 hb0 hs0 hA0 hL0 hWB hGC hsB hW1d hW1 hb1 hs1 hD1 hb01
  go_enter Tryd.func8, Tryd.ntmps8
  go_wp2_with fail
  rw [← HW1.out]
  refine wp_loop_rounds 1 ?_
  rw [rounds_succ]
  go_wp2_with fail
  refine c1.out.mono ?_
  rintro e W2 ⟨rfl, hg2⟩
  obtain ⟨W3, hW3⟩ : ∃ W, W = W2.alloc (.cells #[.int .i64 0, .string ⟨#[]⟩, .string ⟨#[]⟩, .slice none 0 0, .slice none 0 0, .int .i64 0, .int .i64 0, .string ⟨#[]⟩] 26) := ⟨_, rfl⟩
  have hb3 : Below W2.heap.size W2 W3 := by rw [hW3]; exact (Below.refl _ _).alloc (Nat.le_refl _) _
  have hg3 := gr_belowD hg2 hb3
  have hA3 : W3.heap[w.heap.size]? = some (.cells #[.slice none 0 0, .int .i64 0] 32 (0, 0)) := (hg3.block _ (by have := Hsz.out; omega) (hneB _ (by omega))).trans HA1.out
  have hL3 : W3.heap[w.heap.size + 1]? = some (.cells #[.slice none 0 0, .int .i64 0] 32 (0, 0)) := (hg3.block _ (by have := Hsz.out; omega) (hneB _ (by omega))).trans HL1.out
  have hb : Below w.heap.size w W3 := ⟨hg3.os.trans Hb1.out.os, hg3.tape.trans Hb1.out.tape, hg3.output.trans Hb1.out.output, Nat.le_trans Hb1.out.size hg3.size, fun k hk => (hg3.block k (by have := Hsz.out; omega) (hneB _ (by omega))).trans (Hb1.out.block k hk)⟩
  have HA3 := mkHid hA3
  have HL3 := mkHid hL3
  have Hb3 := mkHid hb
  rw [hW3] at HA3 HL3 Hb3
  clear hW3 hb3 hg3 hA3 hL3 hb hg2 c1 HA1 HL1 hv
  go_wp2_with (first | (refine wpL_load_row rfl 32 _ rfl (w.heap.size + 1) #[.slice none 0 0, .int .i64 0] 32 (0, 0) _ rfl HL3.out Tryd.underlying32 rfl (by kernel_rfl) ?_) | (refine wpL_store_row rfl 32 _ _ rfl w.heap.size #[.slice none 0 0, .int .i64 0] rfl rfl 32 _ HA3.out (by kernel_rfl) rfl (by simp [Value.oneCell']) ?_))
  refine bodyPost_ret (v := .agg #[.slice none 0 0, .int .i64 0]) (results_cell_row Tryd.results8 _ _ w.heap.size 32 _ (0, 0) _ rfl (setRow_heap _ _ _ _ _ _ HA3.out) Tryd.underlying32 rfl (by kernel_rfl)) rfl ?_
  exact ⟨rfl, Hb3.out.grown (grown_setRow _ _ _) Hb3.out.size (fun j hj => by cases hj; exact Nat.le_refl _)⟩
/-- What ReadLog answers at a whole frame. -/
def WholeR (w : World) (e : Ending) (w' : World) : Prop := ∃ o c n, e = .returned (.agg #[.slice o 1 c, .int .i64 n]) ∧ Below w.heap.size w w'
set_option maxRecDepth 20000 in
set_option maxHeartbeats 8000000 in
theorem readWhole (q : OpP) (t d : ByteArray) (F : List UInt8) (a : Addr) (w : World) (hs : w.cell? ⟨1, 0, none⟩ = some (.iface 132 (.pointer (some a)))) (hq : q.full) (htq : t.data.toList = q.enc) (ht : t.size ≤ 200000) (ht1 : 1 ≤ t.size) (hFe : F = be 1 70 ++ (be 4 t.size ++ (be 4 (frS t) ++ (t.data.toList ++ [])))) (hd : d.data.toList = F) (hl : d.size ≤ 600000) :
    Calls Tryd.prog 8 #[.string d] w fun e w' => WholeR w e w' := by
  obtain ⟨Q, hQ⟩ : ∃ Q, Q = WholeR w := ⟨_, rfl⟩
  have HQ : Hid (∀ o c n w', Below w.heap.size w w' → Q (.returned (.agg #[.slice o 1 c, .int .i64 n])) w') := mkHid (by rw [hQ]; exact fun o c n w' h1 => ⟨o, c, n, rfl, h1⟩)
  show Calls _ _ _ _ fun e w' => WholeR w e w'
  rw [← hQ]
  clear hQ
  have hgl0 : 1 < w.heap.size := World.block_lt_of_cell? _ _ hs
  obtain ⟨W0, hW0⟩ : ∃ W, W = (w.alloc (.cells #[.slice none 0 0, .int .i64 0] 32)).alloc (.cells #[.slice none 0 0, .int .i64 0] 32) := ⟨_, rfl⟩
  have hb0 : Below w.heap.size w W0 := by rw [hW0]; exact ((Below.refl _ _).alloc (Nat.le_refl _) _).alloc (by simp) _
  have hs0 : W0.heap.size = w.heap.size + 2 := by rw [hW0]; simp
  have hL0 : W0.heap[w.heap.size + 1]? = some (.cells #[.slice none 0 0, .int .i64 0] 32 (0, 0)) := by
    rw [hW0]
    have := hp_alloc (w.alloc (.cells #[.slice none 0 0, .int .i64 0] 32)) (.cells #[.slice none 0 0, .int .i64 0] 32)
    rwa [World.size_alloc] at this
  have hA0 : W0.heap[w.heap.size]? = some (.cells #[.slice none 0 0, .int .i64 0] 32 (0, 0)) := by
    rw [hW0, heap_alloc_old _ _ _ (by simp)]
    exact hp_alloc _ _
  obtain ⟨WB, hWB⟩ : ∃ W, W = bytesWorld W0 5 d := ⟨_, rfl⟩
  obtain ⟨GC, hGC⟩ : ∃ n, n = grownCap W0 d.size 0 5 := ⟨_, rfl⟩
  have hsB : WB.heap.size = w.heap.size + 3 := by rw [hWB, bytesWorld_size, hs0]
  obtain ⟨W1, hW1⟩ : ∃ W, W = WB.alloc (.cells #[.slice (some ⟨w.heap.size + 2, 0, none⟩) d.size GC, .nilIface] 55) := ⟨_, rfl⟩
  have hW1d : W1 = decW d W0 := by rw [hW1, hWB, hGC, decW, hs0]
  have hb1 : Below W0.heap.size W0 W1 := by rw [hW1d]; exact decW_below d W0
  have hs1 : W1.heap.size = w.heap.size + 4 := by rw [hW1d, decW_size, hs0]
  have hD1 : Dec WB.heap.size (w.heap.size + 2) F W1 := by rw [hW1d, hsB]; have := decW_dec d W0 F hd.symm; rwa [hs0] at this
  have hlen : F.length = d.size := by rw [← hd]; simp
  have hv := run_bytes d W0
  rw [← hWB, ← hGC, hs0, hW0] at hv
  have HA1 : Hid (W1.heap[w.heap.size]? = some (.cells #[.slice none 0 0, .int .i64 0] 32 (0, 0))) := mkHid ((hb1.block _ (by omega)).trans hA0)
  have HL1 : Hid (W1.heap[w.heap.size + 1]? = some (.cells #[.slice none 0 0, .int .i64 0] 32 (0, 0))) := mkHid ((hb1.block _ (by omega)).trans hL0)
  have hb01 := hb0.trans (hb1.mono (by omega))
  have hsW1 : W1.cell? ⟨1, 0, none⟩ = some (.iface 132 (.pointer (some a))) := (hb01.cell (p := ⟨1, 0, none⟩) hgl0).trans hs
  have Hs1 := mkHid hsW1
  have c1 := mkHid (framedGood WB.heap.size (w.heap.size + 2) q t F [] a W1 hD1 hsW1 (by omega) hq htq ht ht1 hFe (by omega))
  clear hsW1
  have Hb1 := mkHid hb01
  have Hsz := mkHid hs1
  have HsB := mkHid hsB
  have HW1 := mkHid hW1
  have hneB : ∀ k, k < w.heap.size + 3 → some k ≠ some WB.heap.size := fun k hk e => by have := Option.some.inj e; have := HsB.out; omega
  have hdl : ¬ (600000 : Int) < (d.size : Int) := by omega
  clear hs hd hFe hlen hW0 hb0 hs0 hA0 hL0 hWB hGC hsB hW1d hW1 hb1 hs1 hD1 hb01
  go_enter Tryd.func8, Tryd.ntmps8
  go_wp2_with fail
  rw [← HW1.out]
  refine wp_loop_rounds 2 ?_
  rw [rounds_succ]
  go_wp2_with fail
  refine c1.out.mono ?_
  rintro e W2 ⟨uo, uc, fo, fc, rfl, hD2, hg2⟩
  obtain ⟨W3, hW3⟩ : ∃ W, W = W2.alloc (.cells #[.int .i64 q.k, .string q.bx, .string q.tt, .slice uo q.U.length uc, .slice fo q.P.length fc, .int .i64 q.tm, .int .i64 q.md, .string q.ms] 26) := ⟨_, rfl⟩
  have hb3 : Below W2.heap.size W2 W3 := by rw [hW3]; exact (Below.refl _ _).alloc (Nat.le_refl _) _
  have hg3 := gr_belowD hg2 hb3
  have hO3 : W3.heap[W2.heap.size]? = some (.cells #[.int .i64 q.k, .string q.bx, .string q.tt, .slice uo q.U.length uc, .slice fo q.P.length fc, .int .i64 q.tm, .int .i64 q.md, .string q.ms] 26 (0, 0)) := by rw [hW3]; exact hp_alloc _ _
  have HA3 : Hid (W3.heap[w.heap.size]? = some (.cells #[.slice none 0 0, .int .i64 0] 32 (0, 0))) := mkHid ((hg3.block _ (by have := Hsz.out; omega) (hneB _ (by omega))).trans HA1.out)
  have hL3 : W3.heap[w.heap.size + 1]? = some (.cells #[.slice none 0 0, .int .i64 0] 32 (0, 0)) := (hg3.block _ (by have := Hsz.out; omega) (hneB _ (by omega))).trans HL1.out
  have Hs3 : Hid (W3.cell? ⟨1, 0, none⟩ = some (.iface 132 (.pointer (some a)))) := mkHid ((World.cell?_of_block (a := ⟨1, 0, none⟩) (hg3.block 1 (by have := Hsz.out; omega) (hneB _ (by omega)))).trans Hs1.out)
  have Hb3 : Hid (Below w.heap.size w W3) := mkHid ⟨hg3.os.trans Hb1.out.os, hg3.tape.trans Hb1.out.tape, hg3.output.trans Hb1.out.output, Nat.le_trans Hb1.out.size hg3.size, fun k hk => (hg3.block k (by have := Hsz.out; omega) (hneB _ (by omega))).trans (Hb1.out.block k hk)⟩
  have l3 : W3.cell? ⟨w.heap.size + 1, 0, none⟩ = some (.slice none 0 0) := by simp [World.cell?, hL3]
  have HO3 := mkHid hO3
  have HL3 := mkHid hL3
  have HD3 := mkHid (hD2.below hb3)
  rw [hW3] at l3 HO3
  have HW3 := mkHid hW3
  clear hW3 hb3 hg3 hL3 hg2 c1 HA1 HL1 hv hO3 hD2
  have HN : Hid (((W2.alloc (.cells #[.int .i64 q.k, .string q.bx, .string q.tt, .slice uo q.U.length uc, .slice fo q.P.length fc, .int .i64 q.tm, .int .i64 q.md, .string q.ms] 26)).alloc (.cells #[.int .i64 q.k, .string q.bx, .string q.tt, .slice uo q.U.length uc, .slice fo q.P.length fc, .int .i64 q.tm, .int .i64 q.md, .string q.ms] 26)).heap[W2.heap.size + 1]? = some (.cells #[.int .i64 q.k, .string q.bx, .string q.tt, .slice uo q.U.length uc, .slice fo q.P.length fc, .int .i64 q.tm, .int .i64 q.md, .string q.ms] 26 (0, 0))) := mkHid (by
    have := hp_alloc (W2.alloc (.cells #[.int .i64 q.k, .string q.bx, .string q.tt, .slice uo q.U.length uc, .slice fo q.P.length fc, .int .i64 q.tm, .int .i64 q.md, .string q.ms] 26)) (.cells #[.int .i64 q.k, .string q.bx, .string q.tt, .slice uo q.U.length uc, .slice fo q.P.length fc, .int .i64 q.tm, .int .i64 q.md, .string q.ms] 26)
    rwa [World.size_alloc] at this)
  go_wp2_with (first | (refine wpL_load_row rfl 26 _ rfl W2.heap.size #[.int .i64 q.k, .string q.bx, .string q.tt, .slice uo q.U.length uc, .slice fo q.P.length fc, .int .i64 q.tm, .int .i64 q.md, .string q.ms] 26 (0, 0) _ rfl HO3.out Tryd.underlying26 rfl (by kernel_rfl) ?_) | (at_builtin; refine wp_appOp rfl _ _ rfl rfl (W2.heap.size + 1) _ rfl q uo fo uc fc HN.out ?_; intro o9 c9 W5 hb5; refine Hid.out ?_))
  refine mkHid ?_
  rw [← HW3.out] at hb5
  have hb4 : Below W3.heap.size W3 (W3.alloc (.cells #[.int .i64 q.k, .string q.bx, .string q.tt, .slice uo q.U.length uc, .slice fo q.P.length fc, .int .i64 q.tm, .int .i64 q.md, .string q.ms] 26)) := (Below.refl _ _).alloc (Nat.le_refl _) _
  have hb35 : Below W3.heap.size W3 W5 := hb4.trans (hb5.mono hb4.size)
  have HA5 : Hid (W5.heap[w.heap.size]? = some (.cells #[.slice none 0 0, .int .i64 0] 32 (0, 0))) := mkHid ((hb35.block _ (lt_of_blk HA3.out)).trans HA3.out)
  have hL5 : W5.heap[w.heap.size + 1]? = some (.cells #[.slice none 0 0, .int .i64 0] 32 (0, 0)) := (hb35.block _ (lt_of_blk HL3.out)).trans HL3.out
  have HD5 := mkHid (HD3.out.below hb35)
  have Hs5 : Hid (W5.cell? ⟨1, 0, none⟩ = some (.iface 132 (.pointer (some a)))) := mkHid ((hb35.cell (p := ⟨1, 0, none⟩) (World.block_lt_of_cell? _ _ Hs3.out)).trans Hs3.out)
  have Hb5 := mkHid (Hb3.out.trans (hb35.mono (Nat.le_trans Hb3.out.size (Nat.le_refl _))))
  obtain ⟨V1, hV1⟩ : ∃ V, V = W5.setCell ⟨w.heap.size + 1, 0, none⟩ (.slice o9 1 c9) := ⟨_, rfl⟩
  obtain ⟨V2, hV2⟩ : ∃ V, V = V1.setCell ⟨w.heap.size + 1, 1, none⟩ (.int .i64 (d.size : Int)) := ⟨_, rfl⟩
  have f0 : W5.frozen? ⟨w.heap.size + 1, 0, none⟩ = false := by simp [World.frozen?, hL5]
  have k0 : W5.cell? ⟨w.heap.size + 1, 0, none⟩ = some (.slice none 0 0) := by simp [World.cell?, hL5]
  have hLV1 : V1.heap[w.heap.size + 1]? = some (.cells #[.slice o9 1 c9, .int .i64 0] 32 (0, 0)) := by rw [hV1]; simp [World.setCell, Array.getElem?_modify, hL5]
  have g1 : W5.grownBy V1 (some (w.heap.size + 1)) := by rw [hV1]; exact grG_set _ _ _ _
  have g2 : V1.grownBy V2 (some (w.heap.size + 1)) := by rw [hV2]; exact grG_set _ _ _ _
  have hLV2 : V2.heap[w.heap.size + 1]? = some (.cells #[.slice o9 1 c9, .int .i64 (d.size : Int)] 32 (0, 0)) := by rw [hV2]; simp [World.setCell, Array.getElem?_modify, hLV1]
  have f1 : V1.frozen? ⟨w.heap.size + 1, 1, none⟩ = false := by simp [World.frozen?, hLV1]
  have k1 : V1.cell? ⟨w.heap.size + 1, 1, none⟩ = some (.int .i64 0) := by simp [World.cell?, hLV1]
  have hD6 := HD5.out.stored g1 (by have := HsB.out; omega) (by omega)
  have hD7 := hD6.stored g2 (by have := HsB.out; omega) (by omega)
  obtain ⟨xa, xc, hx1, -, -⟩ := hD6.ex
  have k2 : V1.cell? ⟨WB.heap.size, 0, none⟩ = some (.slice (some ⟨w.heap.size + 2, xa, none⟩) 0 xc) := by simp [World.cell?, hx1]
  have HA7 : Hid (V2.heap[w.heap.size]? = some (.cells #[.slice none 0 0, .int .i64 0] 32 (0, 0))) := mkHid ((g2.block _ (Nat.lt_of_lt_of_le (lt_of_blk HA5.out) g1.size) (by simp)).trans ((g1.block _ (lt_of_blk HA5.out) (by simp)).trans HA5.out))
  have hse : 1 < W5.heap.size := World.block_lt_of_cell? _ _ Hs5.out
  have hneS : (some 1 : Option Nat) ≠ some (w.heap.size + 1) := fun e => by have := Option.some.inj e; omega
  have hs7 : V2.cell? ⟨1, 0, none⟩ = some (.iface 132 (.pointer (some a))) := (World.cell?_of_block (a := ⟨1, 0, none⟩) ((g2.block 1 (Nat.lt_of_lt_of_le hse g1.size) hneS).trans (g1.block 1 hse hneS))).trans Hs5.out
  have c2 := mkHid (framedEnd WB.heap.size (w.heap.size + 2) 132 (.pointer (some a)) V2 hD7 hs7)
  have HL7 := mkHid hLV2
  have Hb7 : Hid (Below w.heap.size w V2) := mkHid ((Hb5.out.grown g1 Hb5.out.size (fun j hj => by cases hj; omega)).grown g2 (Nat.le_trans Hb5.out.size g1.size) (fun j hj => by cases hj; omega))
  have Hlt7 : Hid (WB.heap.size < V2.heap.size ∧ w.heap.size + 1 < V2.heap.size) := mkHid ⟨hD7.gl, lt_of_blk hLV2⟩
  have HV1 := mkHid hV1
  have HV2 := mkHid hV2
  rw [hV1] at f1 k1 k2
  clear hV1 hV2 hL5 hLV1 g1 g2 hLV2 hD6 hD7 hs7 hx1 hb5 hb4 hb35 HA5 HD5 Hs5 Hb5 HA3 HL3 HD3 Hs3 Hb3 HO3 HN l3
  go_wp2_with fail
  rw [rounds_succ]
  go_wp2_with fail
  rw [← HV1.out, ← HV2.out]
  refine c2.out.mono ?_
  rintro e W8 ⟨rfl, hg8⟩
  obtain ⟨W9, hW9⟩ : ∃ W, W = W8.alloc (.cells #[.int .i64 0, .string ⟨#[]⟩, .string ⟨#[]⟩, .slice none 0 0, .slice none 0 0, .int .i64 0, .int .i64 0, .string ⟨#[]⟩] 26) := ⟨_, rfl⟩
  have hb9 : Below W8.heap.size W8 W9 := by rw [hW9]; exact (Below.refl _ _).alloc (Nat.le_refl _) _
  have hg9 := gr_belowD hg8 hb9
  have hA9 : W9.heap[w.heap.size]? = some (.cells #[.slice none 0 0, .int .i64 0] 32 (0, 0)) := (hg9.block _ (by have := Hlt7.out; omega) (hneB _ (by omega))).trans HA7.out
  have hL9 : W9.heap[w.heap.size + 1]? = some (.cells #[.slice o9 1 c9, .int .i64 (d.size : Int)] 32 (0, 0)) := (hg9.block _ (by have := Hlt7.out; omega) (hneB _ (by omega))).trans HL7.out
  have hb : Below w.heap.size w W9 := ⟨hg9.os.trans Hb7.out.os, hg9.tape.trans Hb7.out.tape, hg9.output.trans Hb7.out.output, Nat.le_trans Hb7.out.size hg9.size, fun k hk => (hg9.block k (by have := Hlt7.out; omega) (hneB _ (by omega))).trans (Hb7.out.block k hk)⟩
  have HA9 := mkHid hA9
  have HL9 := mkHid hL9
  have Hb9 := mkHid hb
  rw [hW9] at HA9 HL9 Hb9
  clear hW9 hb9 hg9 hA9 hL9 hb hg8 c2 HA7 HL7
  go_wp2_with (first | (refine wpL_load_row rfl 32 _ rfl (w.heap.size + 1) #[.slice o9 1 c9, .int .i64 (d.size : Int)] 32 (0, 0) _ rfl HL9.out Tryd.underlying32 rfl (by kernel_rfl) ?_) | (refine wpL_store_row rfl 32 _ _ rfl w.heap.size #[.slice o9 1 c9, .int .i64 (d.size : Int)] rfl rfl 32 _ HA9.out (by kernel_rfl) rfl (by simp [Value.oneCell']) ?_))
  refine bodyPost_ret (v := .agg #[.slice o9 1 c9, .int .i64 (d.size : Int)]) (results_cell_row Tryd.results8 _ _ w.heap.size 32 _ (0, 0) _ rfl (setRow_heap _ _ _ _ _ _ HA9.out) Tryd.underlying32 rfl (by kernel_rfl)) rfl ?_
  exact HQ.out _ _ _ _ (Hb9.out.grown (grown_setRow _ _ _) Hb9.out.size (fun j hj => by cases hj; exact Nat.le_refl _))
end Go.Proofs.YtillilllceeonaaDoor
