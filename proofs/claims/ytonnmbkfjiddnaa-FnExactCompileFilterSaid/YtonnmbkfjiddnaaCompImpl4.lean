
/- The program's coder: one instruction more. (By tools/gen/implcomp.py.) -/

/- The program's coder: an instruction without a node, one with a number, the place that comes next. -/

/- The program's coder: the closure of jump. (By tools/gen/impltell.py.) -/

/- The program's coder: jump. -/
import Derived.Test.YtonnmbkfjiddnaaCompSpec3
namespace Go.Proofs.Ytonnmbkfjiddnaa
open Go.RowKit Go.Lib Go.Maps
abbrev bxI (op to : Int) (n : Nd) (vn vk vd : Value) : Obj := .cells #[.int .i64 op, .int .i64 to, .int .i64 n.kind, .int .i64 n.num, .int .i64 n.mat, .string n.text, vn, vk, vd] 50
abbrev coV (op to : Int) (n : Nd) (vn vk vd : Value) : Value := .agg #[.int .i64 op, .int .i64 to, .int .i64 n.kind, .int .i64 n.num, .int .i64 n.mat, .string n.text, vn, vk, vd]
set_option maxHeartbeats 4000000 in
theorem implPut (g : Nat) (nv v : Value) (E : List CdE) (op to : Int) (n : Nd) (vn vk vd : Value) (w : World) (hM : Mk 47 g nv v E w) (hlen : E.length ≤ 100000)
    (hn : LsX (g + 1) w (vn, n.names)) (hk : LsX (g + 1) w (vk, n.keys)) (hf : FarX (vn, n.names) (vk, n.keys)) (hfar : ∀ s ∈ slots E, FarX s (vn, n.names) ∧ FarX s (vk, n.keys)) (hkd : n.kids = [] ∧ ∃ o c, vd = .slice o 0 c) :
    Calls Try.prog 20 #[.pointer (some ⟨g, 0, none⟩), coV op to n vn vk vd] w fun e w' => e = .returned (.tuple #[]) ∧ Run 47 g nv v (E ++ [(⟨op, to, n⟩, vn, vk, vd)]) w w' := by
  obtain ⟨hblk, hC⟩ := hM
  have hgl := heap_ltM hblk
  have hn0 := hn
  have hk0 := hk
  have hkd0 := hkd
  obtain ⟨⟨on, cn, e1⟩, -⟩ := hn0
  obtain ⟨⟨ok, ck, e2⟩, -⟩ := hk0
  obtain ⟨-, od, cd, e3⟩ := hkd0
  dsimp only at e1 e2
  obtain ⟨o, cap, hv⟩ := hC.shape
  have hone : Hid (∀ y ∈ cell9 (⟨op, to, n⟩, vn, vk, vd), y.oneCell' = true) := by
    show ∀ y ∈ _, _
    intro y hy
    simp only [cell9, List.mem_cons, List.not_mem_nil, or_false] at hy
    rcases hy with rfl | rfl | rfl | rfl | rfl | rfl | rfl | rfl | rfl <;> first | rfl | (rw [e1]; rfl) | (rw [e2]; rfl) | (rw [e3]; rfl)
  obtain ⟨W1, hW1⟩ : ∃ W1, w.alloc (bxI op to n vn vk vd) = W1 := ⟨_, rfl⟩
  have b1 : Below w.heap.size w W1 := by rw [← hW1]; exact (Below.refl _ _).alloc (Nat.le_refl _) _
  have hs1 : W1.heap.size = w.heap.size + 1 := by rw [← hW1]; simp
  have hbx : W1.heap[w.heap.size]? = some (bxI op to n vn vk vd) := by rw [← hW1]; exact heap_alloc_at _ _
  obtain ⟨W2, hW2⟩ : ∃ W2, (W1.alloc (bxI op to n vn vk vd)).drew = W2 := ⟨_, rfl⟩
  have b2 : Below w.heap.size w W2 := by rw [← hW2]; exact (b1.alloc (by omega) _).drew
  have hs2 : W2.heap.size = w.heap.size + 2 := by rw [← hW2]; simp [World.drew, hs1]
  have y1 : W1.cell? ⟨g, 1, none⟩ = some v := (two_cellsM ((b1.block g hgl).trans hblk)).2
  have y2 : (W1.alloc (bxI op to n vn vk vd)).cell? ⟨g, 1, none⟩ = some v := (two_cellsM (((b1.alloc (by omega) _).block g hgl).trans hblk)).2
  have d0 : W1.cell? ⟨w.heap.size, 0, none⟩ = some (.int .i64 op) := by simp [World.cell?, hbx]
  have d1 : W1.cell? ⟨w.heap.size, 1, none⟩ = some (.int .i64 to) := by simp [World.cell?, hbx]
  have d2 : W1.cell? ⟨w.heap.size, 2, none⟩ = some (.int .i64 n.kind) := by simp [World.cell?, hbx]
  have d3 : W1.cell? ⟨w.heap.size, 3, none⟩ = some (.int .i64 n.num) := by simp [World.cell?, hbx]
  have d4 : W1.cell? ⟨w.heap.size, 4, none⟩ = some (.int .i64 n.mat) := by simp [World.cell?, hbx]
  have d5 : W1.cell? ⟨w.heap.size, 5, none⟩ = some (.string n.text) := by simp [World.cell?, hbx]
  have d6 : W1.cell? ⟨w.heap.size, 6, none⟩ = some (vn) := by simp [World.cell?, hbx]
  have d7 : W1.cell? ⟨w.heap.size, 7, none⟩ = some (vk) := by simp [World.cell?, hbx]
  have d8 : W1.cell? ⟨w.heap.size, 8, none⟩ = some (vd) := by simp [World.cell?, hbx]
  have hC2 := mkHid (hC.below b2)
  have hn2 := mkHid (hn.below b2)
  have hk2 := mkHid (hk.below b2)
  have hb2 := mkHid (show W2.heap[g]? = some (.cells #[nv, v] 47 (0, 0)) from (b2.block g hgl).trans hblk)
  have hnew : Hid (∀ (j : Nat) (y : Value), (cell9 (⟨op, to, n⟩, vn, vk, vd))[j]? = some y → W2.cell? ⟨W1.heap.size, j, none⟩ = some y) := by
    show ∀ _ _, _
    intro j y hy
    refine nine_cells (t := 50) (z := (0, 0)) _ ?_ j y hy
    have := heap_alloc_at W1 (bxI op to n vn vk vd)
    rw [← hW2]
    exact this
  have HW1 := mkHid hW1
  have HW2 := mkHid hW2
  have Hb2 := mkHid b2
  have Hs2 := mkHid hs2
  have hN := mkHid hf
  have hFar := mkHid hfar
  have hKd := mkHid hkd
  have Hs1 := mkHid hs1
  clear hblk hC hn hk hf hfar hkd hW1 hW2 b1 b2 hs2 hbx hs1
  subst e1 e2 e3 hv
  go_enter Try.func20, Try.ntmps20
  go_wp2
  rw [HW1.out]
  refine wp_region_any (by kernel_rfl) ?_
  refine wpAny_take (i := 0) (v := .pointer (some ⟨g, 0, none⟩)) rfl (by kernel_rfl) (by kernel_rfl) (by kernel_rfl) (fun _ _ _ h => h) (Or.inl ⟨by rfl, ?_⟩) ?_
  · intro w
    go_simp
    all_goals first | done | (intro h; exfalso; omega) | omega
  go_simp
  refine wpAny_take (i := 1) (v := .pointer (some ⟨g, 0, none⟩)) rfl (by kernel_rfl) (by kernel_rfl) (by kernel_rfl) (fun _ _ _ h => h) (Or.inl ⟨by rfl, ?_⟩) ?_
  · intro w
    go_simp
    all_goals first | done | (intro h; exfalso; omega) | omega
  go_simp
  refine wpAny_take (i := 2) (v := .pointer (some ⟨g, 0, none⟩)) rfl (by kernel_rfl) (by kernel_rfl) (by kernel_rfl) (fun _ _ _ h => h) (Or.inl ⟨by rfl, ?_⟩) ?_
  · intro w
    go_simp
    all_goals first | done | (intro h; exfalso; omega) | omega
  go_simp
  refine wpAny_take (i := 3) (v := .pointer (some ⟨g, 1, none⟩)) rfl (by kernel_rfl) (by kernel_rfl) (by kernel_rfl) (fun _ _ _ h => h) (Or.inl ⟨by rfl, ?_⟩) ?_
  · intro w
    go_simp
    all_goals first | done | (intro h; exfalso; omega) | omega
  go_simp
  refine wpAny_ready (rs := [4, 5]) (by kernel_rfl) (by simp) ?_
  refine AllReady.cons rfl (fun K hK => ?_) (AllReady.cons rfl (fun K hK => ?_) AllReady.nil)
  · go_simp
    refine hK _ _ ?_
    clear hK K
    go_simp
    refine wpAny_ready (rs := [5]) (by kernel_rfl) (by simp) ?_
    refine AllReady.cons rfl (fun K hK => ?_) AllReady.nil
    go_simp
    refine hK _ _ ?_
    clear hK K
    go_simp
    refine wpAny_ready (rs := [6]) (by kernel_rfl) (by simp) ?_
    refine AllReady.cons rfl (fun K hK => ?_) AllReady.nil
    go_simp
    refine hK _ _ ?_
    clear hK K
    go_simp
    refine wpAny_ready (rs := [7]) (by kernel_rfl) (by simp) ?_
    refine AllReady.cons rfl (fun K hK => ?_) AllReady.nil
    rw [HW2.out]
    refine opAppCw _ _ rfl (g + 1) (.slice o E.length cap) E rfl hC2.out.row (⟨op, to, n⟩, .slice on n.names.length cn, .slice ok n.keys.length ck, .slice od 0 cd) W1.heap.size 1 rfl hnew.out hone.out (by omega) (by rw [Hs2.out]; omega) ?_
    intro y5 w6 hrow6 hg6 hnw6
    have hC6 := hC2.out.push hn2.out hk2.out hN.out hFar.out hKd.out hrow6 hg6
    have hlow : ∀ k, (Value.slice o E.length cap).ownBlock = some k → g + 1 ≤ k := fun k hk => (World.ownsRow.lt hC2.out.row k hk).1
    have hO6 : w6.heap[g]? = some (.cells #[nv, .slice o E.length cap] 47 (0, 0)) := (hg6.block g (by rw [Hs2.out]; omega) (fun e => by have := hlow _ e.symm; omega)).trans hb2.out
    have hb6 : Ef g (Value.slice o E.length cap).ownBlock w w6 := Ef.ahead Hb2.out ⟨hg6.os, hg6.tape, hg6.output, hg6.size, fun k hk _ hr => hg6.block k hk hr⟩
    have hN6 := mkHid (Nw.ahead (show w.heap.size ≤ W2.heap.size by rw [Hs2.out]; omega) hnw6)
    have x6 := (two_cellsM hO6).2
    have z6 := two_frozenM hO6 1
    obtain ⟨o5, k5, hv5⟩ := hC6.shape
    rw [show (E ++ [((⟨op, to, n⟩ : Cd), Value.slice on n.names.length cn, Value.slice ok n.keys.length ck, Value.slice od 0 cd)]).length = E.length + 1 from by simp] at hv5
    subst hv5
    refine hK _ _ ?_
    clear hK K
    go_simp
    refine wpAny_take (i := 8) (v := .pointer (some ⟨g, 0, none⟩)) rfl (by kernel_rfl) (by kernel_rfl) (by kernel_rfl) (fun _ _ _ h => h) (Or.inl ⟨by rfl, ?_⟩) ?_
    · intro w
      go_simp
      all_goals first | done | (intro h; exfalso; omega) | omega
    go_simp
    refine wpAny_take (i := 9) (v := .pointer (some ⟨g, 1, none⟩)) rfl (by kernel_rfl) (by kernel_rfl) (by kernel_rfl) (fun _ _ _ h => h) (Or.inl ⟨by rfl, ?_⟩) ?_
    · intro w
      go_simp
      all_goals first | done | (intro h; exfalso; omega) | omega
    go_simp
    refine wpAny_ready (rs := [10]) (by kernel_rfl) (by simp) ?_
    refine AllReady.cons rfl (fun K hK => ?_) AllReady.nil
    go_simp
    refine hK _ _ ?_
    clear hK K
    go_simp
    refine wpAny_done (by kernel_rfl) ?_ _
    have hM7 : Hid (Mk 47 g nv (.slice o5 (E.length + 1) k5) _ (w6.setCell ⟨g, 1, none⟩ (.slice o5 (E.length + 1) k5))) := ⟨by simp [World.setCell, Array.getElem?_modify, hO6], hC6.set (by omega)⟩
    have hE7 : Hid (Ef g (Value.slice o E.length cap).ownBlock w (w6.setCell ⟨g, 1, none⟩ (.slice o5 (E.length + 1) k5))) := ⟨hb6.os, hb6.tape, hb6.output, by simpa using hb6.size, fun k hk hg hr => ((grG_set w6 g 1 _).block k (Nat.lt_of_lt_of_le hk hb6.size) (by simpa using hg)).trans (hb6.keep k hk hg hr)⟩
    have x7 : (w6.setCell ⟨g, 1, none⟩ (.slice o5 (E.length + 1) k5)).cell? ⟨g, 1, none⟩ = some (.slice o5 (E.length + 1) k5) := by simp [World.setCell, World.cell?, Array.getElem?_modify, hO6]
    clear hrow6 hg6 hC6 hO6 x6 z6 hb6 hnw6
    go_wp2
    refine bodyPost_end (v := .tuple #[]) (results_none Try.results20 _ _ _) rfl ⟨rfl, _, hM7.out, hE7.out, hN6.out⟩
  · go_simp
    refine hK _ _ ?_
    clear hK K
    go_simp
    refine wpAny_ready (rs := [4, 6]) (by kernel_rfl) (by simp) ?_
    refine AllReady.cons rfl (fun K hK => ?_) (AllReady.cons rfl (fun K hK => ?_) AllReady.nil)
    · go_simp
      refine hK _ _ ?_
      clear hK K
      go_simp
      refine wpAny_ready (rs := [6]) (by kernel_rfl) (by simp) ?_
      refine AllReady.cons rfl (fun K hK => ?_) AllReady.nil
      go_simp
      refine hK _ _ ?_
      clear hK K
      go_simp
      refine wpAny_ready (rs := [7]) (by kernel_rfl) (by simp) ?_
      refine AllReady.cons rfl (fun K hK => ?_) AllReady.nil
      rw [HW2.out]
      refine opAppCw _ _ rfl (g + 1) (.slice o E.length cap) E rfl hC2.out.row (⟨op, to, n⟩, .slice on n.names.length cn, .slice ok n.keys.length ck, .slice od 0 cd) W1.heap.size 1 rfl hnew.out hone.out (by omega) (by rw [Hs2.out]; omega) ?_
      intro y5 w6 hrow6 hg6 hnw6
      have hC6 := hC2.out.push hn2.out hk2.out hN.out hFar.out hKd.out hrow6 hg6
      have hlow : ∀ k, (Value.slice o E.length cap).ownBlock = some k → g + 1 ≤ k := fun k hk => (World.ownsRow.lt hC2.out.row k hk).1
      have hO6 : w6.heap[g]? = some (.cells #[nv, .slice o E.length cap] 47 (0, 0)) := (hg6.block g (by rw [Hs2.out]; omega) (fun e => by have := hlow _ e.symm; omega)).trans hb2.out
      have hb6 : Ef g (Value.slice o E.length cap).ownBlock w w6 := Ef.ahead Hb2.out ⟨hg6.os, hg6.tape, hg6.output, hg6.size, fun k hk _ hr => hg6.block k hk hr⟩
      have hN6 := mkHid (Nw.ahead (show w.heap.size ≤ W2.heap.size by rw [Hs2.out]; omega) hnw6)
      have x6 := (two_cellsM hO6).2
      have z6 := two_frozenM hO6 1
      obtain ⟨o5, k5, hv5⟩ := hC6.shape
      rw [show (E ++ [((⟨op, to, n⟩ : Cd), Value.slice on n.names.length cn, Value.slice ok n.keys.length ck, Value.slice od 0 cd)]).length = E.length + 1 from by simp] at hv5
      subst hv5
      refine hK _ _ ?_
      clear hK K
      go_simp
      refine wpAny_take (i := 8) (v := .pointer (some ⟨g, 0, none⟩)) rfl (by kernel_rfl) (by kernel_rfl) (by kernel_rfl) (fun _ _ _ h => h) (Or.inl ⟨by rfl, ?_⟩) ?_
      · intro w
        go_simp
        all_goals first | done | (intro h; exfalso; omega) | omega
      go_simp
      refine wpAny_take (i := 9) (v := .pointer (some ⟨g, 1, none⟩)) rfl (by kernel_rfl) (by kernel_rfl) (by kernel_rfl) (fun _ _ _ h => h) (Or.inl ⟨by rfl, ?_⟩) ?_
      · intro w
        go_simp
        all_goals first | done | (intro h; exfalso; omega) | omega
      go_simp
      refine wpAny_ready (rs := [10]) (by kernel_rfl) (by simp) ?_
      refine AllReady.cons rfl (fun K hK => ?_) AllReady.nil
      go_simp
      refine hK _ _ ?_
      clear hK K
      go_simp
      refine wpAny_done (by kernel_rfl) ?_ _
      have hM7 : Hid (Mk 47 g nv (.slice o5 (E.length + 1) k5) _ (w6.setCell ⟨g, 1, none⟩ (.slice o5 (E.length + 1) k5))) := ⟨by simp [World.setCell, Array.getElem?_modify, hO6], hC6.set (by omega)⟩
      have hE7 : Hid (Ef g (Value.slice o E.length cap).ownBlock w (w6.setCell ⟨g, 1, none⟩ (.slice o5 (E.length + 1) k5))) := ⟨hb6.os, hb6.tape, hb6.output, by simpa using hb6.size, fun k hk hg hr => ((grG_set w6 g 1 _).block k (Nat.lt_of_lt_of_le hk hb6.size) (by simpa using hg)).trans (hb6.keep k hk hg hr)⟩
      have x7 : (w6.setCell ⟨g, 1, none⟩ (.slice o5 (E.length + 1) k5)).cell? ⟨g, 1, none⟩ = some (.slice o5 (E.length + 1) k5) := by simp [World.setCell, World.cell?, Array.getElem?_modify, hO6]
      clear hrow6 hg6 hC6 hO6 x6 z6 hb6 hnw6
      go_wp2
      refine bodyPost_end (v := .tuple #[]) (results_none Try.results20 _ _ _) rfl ⟨rfl, _, hM7.out, hE7.out, hN6.out⟩
    · go_simp
      refine hK _ _ ?_
      clear hK K
      go_simp
      refine wpAny_ready (rs := [4]) (by kernel_rfl) (by simp) ?_
      refine AllReady.cons rfl (fun K hK => ?_) AllReady.nil
      go_simp
      refine hK _ _ ?_
      clear hK K
      go_simp
      refine wpAny_ready (rs := [7]) (by kernel_rfl) (by simp) ?_
      refine AllReady.cons rfl (fun K hK => ?_) AllReady.nil
      rw [HW2.out]
      refine opAppCw _ _ rfl (g + 1) (.slice o E.length cap) E rfl hC2.out.row (⟨op, to, n⟩, .slice on n.names.length cn, .slice ok n.keys.length ck, .slice od 0 cd) W1.heap.size 1 rfl hnew.out hone.out (by omega) (by rw [Hs2.out]; omega) ?_
      intro y5 w6 hrow6 hg6 hnw6
      have hC6 := hC2.out.push hn2.out hk2.out hN.out hFar.out hKd.out hrow6 hg6
      have hlow : ∀ k, (Value.slice o E.length cap).ownBlock = some k → g + 1 ≤ k := fun k hk => (World.ownsRow.lt hC2.out.row k hk).1
      have hO6 : w6.heap[g]? = some (.cells #[nv, .slice o E.length cap] 47 (0, 0)) := (hg6.block g (by rw [Hs2.out]; omega) (fun e => by have := hlow _ e.symm; omega)).trans hb2.out
      have hb6 : Ef g (Value.slice o E.length cap).ownBlock w w6 := Ef.ahead Hb2.out ⟨hg6.os, hg6.tape, hg6.output, hg6.size, fun k hk _ hr => hg6.block k hk hr⟩
      have hN6 := mkHid (Nw.ahead (show w.heap.size ≤ W2.heap.size by rw [Hs2.out]; omega) hnw6)
      have x6 := (two_cellsM hO6).2
      have z6 := two_frozenM hO6 1
      obtain ⟨o5, k5, hv5⟩ := hC6.shape
      rw [show (E ++ [((⟨op, to, n⟩ : Cd), Value.slice on n.names.length cn, Value.slice ok n.keys.length ck, Value.slice od 0 cd)]).length = E.length + 1 from by simp] at hv5
      subst hv5
      refine hK _ _ ?_
      clear hK K
      go_simp
      refine wpAny_take (i := 8) (v := .pointer (some ⟨g, 0, none⟩)) rfl (by kernel_rfl) (by kernel_rfl) (by kernel_rfl) (fun _ _ _ h => h) (Or.inl ⟨by rfl, ?_⟩) ?_
      · intro w
        go_simp
        all_goals first | done | (intro h; exfalso; omega) | omega
      go_simp
      refine wpAny_take (i := 9) (v := .pointer (some ⟨g, 1, none⟩)) rfl (by kernel_rfl) (by kernel_rfl) (by kernel_rfl) (fun _ _ _ h => h) (Or.inl ⟨by rfl, ?_⟩) ?_
      · intro w
        go_simp
        all_goals first | done | (intro h; exfalso; omega) | omega
      go_simp
      refine wpAny_ready (rs := [10]) (by kernel_rfl) (by simp) ?_
      refine AllReady.cons rfl (fun K hK => ?_) AllReady.nil
      go_simp
      refine hK _ _ ?_
      clear hK K
      go_simp
      refine wpAny_done (by kernel_rfl) ?_ _
      have hM7 : Hid (Mk 47 g nv (.slice o5 (E.length + 1) k5) _ (w6.setCell ⟨g, 1, none⟩ (.slice o5 (E.length + 1) k5))) := ⟨by simp [World.setCell, Array.getElem?_modify, hO6], hC6.set (by omega)⟩
      have hE7 : Hid (Ef g (Value.slice o E.length cap).ownBlock w (w6.setCell ⟨g, 1, none⟩ (.slice o5 (E.length + 1) k5))) := ⟨hb6.os, hb6.tape, hb6.output, by simpa using hb6.size, fun k hk hg hr => ((grG_set w6 g 1 _).block k (Nat.lt_of_lt_of_le hk hb6.size) (by simpa using hg)).trans (hb6.keep k hk hg hr)⟩
      have x7 : (w6.setCell ⟨g, 1, none⟩ (.slice o5 (E.length + 1) k5)).cell? ⟨g, 1, none⟩ = some (.slice o5 (E.length + 1) k5) := by simp [World.setCell, World.cell?, Array.getElem?_modify, hO6]
      clear hrow6 hg6 hC6 hO6 x6 z6 hb6 hnw6
      go_wp2
      refine bodyPost_end (v := .tuple #[]) (results_none Try.results20 _ _ _) rfl ⟨rfl, _, hM7.out, hE7.out, hN6.out⟩
end Go.Proofs.Ytonnmbkfjiddnaa
namespace Go.Proofs.Ytonnmbkfjiddnaa
open Go.RowKit Go.Lib Go.Maps
/-- The coder's own call: an instruction without a node. -/
theorem implPut0 (g : Nat) (nv v : Value) (C : List Cd) (op to k : Int) (w : World) (hM : Mc 47 g nv v C w) (hlen : C.length ≤ 100000) :
    Calls Try.prog 20 #[.pointer (some ⟨g, 0, none⟩), .agg #[.int .i64 op, .int .i64 to, .int .i64 0, .int .i64 k, .int .i64 0, .string ⟨#[]⟩, .slice none 0 0, .slice none 0 0, .slice none 0 0]] w fun e w' => e = .returned (.tuple #[]) ∧ Rc 47 g nv v (C ++ [⟨op, to, { Cp.z with num := k }⟩]) w w' := by
  obtain ⟨E, hE, hM⟩ := hM
  have hl : E.length = C.length := by rw [← hE]; simp
  refine (implPut g nv v E op to { Cp.z with num := k } (.slice none 0 0) (.slice none 0 0) (.slice none 0 0) w hM (by omega) (LsX.nil _ _) (LsX.nil _ _) (.inl rfl) (fun s _ => ⟨.inr (.inl rfl), .inr (.inl rfl)⟩) ⟨rfl, none, 0, rfl⟩).mono ?_
  rintro e w' ⟨rfl, v', hM', hE', hN'⟩
  exact ⟨rfl, v', ⟨_, by rw [List.map_append, hE]; rfl, hM'⟩, hE', hN'⟩
/-- An instruction with a node of its own. -/
theorem implPutN (g : Nat) (nv v : Value) (C : List Cd) (op : Int) (n : Nd) (un uk ud : Value) (w w1 : World) (hM : Mc 47 g nv v C w) (hlen : C.length ≤ 100000) (hb : Below w.heap.size w w1)
    (hn : LsX w.heap.size w1 (un, n.names)) (hk : LsX w.heap.size w1 (uk, n.keys)) (hf : FarX (un, n.names) (uk, n.keys)) (hd : ∃ o c, ud = .slice o 0 c) :
    Calls Try.prog 20 #[.pointer (some ⟨g, 0, none⟩), coV op 0 (Cp.bare n) un uk ud] w1 fun e w' => e = .returned (.tuple #[]) ∧ Rc 47 g nv v (C ++ [⟨op, 0, Cp.bare n⟩]) w w' := by
  obtain ⟨E, hE, hM⟩ := hM
  have hl : E.length = C.length := by rw [← hE]; simp
  have hg := heap_ltM hM.blk
  have low : ∀ s : Sl, LsX w.heap.size w1 s → LsX (g + 1) w1 s := fun s hs => ⟨hs.1, fun hn => (hs.2 hn).lowerC (by omega)⟩
  have frs : ∀ s : Sl, LsX w.heap.size w1 s → ∀ t ∈ slots E, FarX t s := fun s hs => hM.cw.fresh s (by
    by_cases h0 : s.2 = []
    · exact .inl h0
    · right
      have hx := hs.2 h0
      rcases hx.2 with ⟨h1, h2⟩ | ⟨q, cap', cur, h1, h2, -⟩
      · exact absurd (List.length_eq_zero_iff.1 h2) h0
      · exact ⟨q, h2, by rw [h1]; rfl⟩)
  refine (implPut g nv v E op 0 (Cp.bare n) un uk ud w1 (hM.below hb) (by omega) (low _ hn) (low _ hk) hf (fun s hs => ⟨frs _ hn s hs, frs _ hk s hs⟩) ⟨rfl, hd⟩).mono ?_
  rintro e w' ⟨rfl, v', hM', hE', hN'⟩
  exact ⟨rfl, v', ⟨_, by rw [List.map_append, hE]; rfl, hM'⟩, Ef.ahead hb hE', Nw.ahead hb.size hN'⟩
theorem implPutNumber (g : Nat) (nv v : Value) (C : List Cd) (op k : Int) (w : World) (hM : Mc 47 g nv v C w) (hlen : C.length ≤ 100000) :
    Calls Try.prog 41 #[.pointer (some ⟨g, 0, none⟩), .int .i64 op, .int .i64 k] w fun e w' => e = .returned (.tuple #[]) ∧ Rc 47 g nv v (C ++ [⟨op, 0, { Cp.z with num := k }⟩]) w w' := by
  have k1 := mkHid (implPut0 g nv v C op 0 k w hM hlen)
  clear hM
  go_enter Try.func41, Try.ntmps41
  go_wp2_with (go_at_call 20; fail)
  refine k1.out.mono ?_
  rintro e w1 ⟨rfl, h1⟩
  have H1 := mkHid h1
  clear h1
  go_wp2
  exact bodyPost_end (v := .tuple #[]) (results_none Try.results41 _ _ _) rfl ⟨rfl, H1.out⟩
theorem implHere (g : Nat) (nv v : Value) (C : List Cd) (w : World) (hM : Mc 47 g nv v C w) :
    Calls Try.prog 56 #[.pointer (some ⟨g, 0, none⟩)] w fun e w' => e = .returned (.int .i64 C.length) ∧ w' = w := by
  obtain ⟨E, hE, hM⟩ := hM
  have hl : E.length = C.length := by rw [← hE]; simp
  obtain ⟨o, cap, rfl⟩ := hM.cw.shape
  rw [hl] at hM
  have gc := (two_cellsM hM.blk).2
  clear hM
  go_enter Try.func56, Try.ntmps56
  go_wp2
  go_ret
  exact ⟨rfl, rfl⟩
end Go.Proofs.Ytonnmbkfjiddnaa
namespace Go.Proofs.Ytonnmbkfjiddnaa
open Go.RowKit Go.Lib Go.Maps
set_option maxHeartbeats 4000000 in
theorem implTell (g a b0 b1 : Nat) (nv v : Value) (E : List CdE) (w : World) (hM : Mk 47 g nv v E w) (ha : a < E.length) (h0 : w.cell? ⟨b0, 0, none⟩ = some (.pointer (some ⟨g, 0, none⟩))) (h1 : w.cell? ⟨b1, 0, none⟩ = some (.int .i64 a))
    (n0 : some b0 ≠ v.ownBlock) (n1 : some b1 ≠ v.ownBlock) :
    Calls Try.prog 73 #[.pointer (some ⟨b0, 0, none⟩), .pointer (some ⟨b1, 0, none⟩)] w fun e w' => e = .returned (.tuple #[]) ∧ Run 47 g nv v (toE E a (E.length : Int)) w w' := by
  have hH := mkHid (implHere g nv v (E.map (·.1)) w.drew ⟨E, rfl, ⟨hM.blk, hM.cw.drew⟩⟩)
  rw [List.length_map] at hH
  obtain ⟨hblk, hC⟩ := hM
  have hgl := heap_ltM hblk
  obtain ⟨-, c1⟩ := two_cellsM hblk
  obtain ⟨o, cap, rfl⟩ := hC.shape
  obtain ⟨q, rfl, hq⟩ : ∃ q, o = some ⟨q, 0, none⟩ ∧ g + 1 ≤ q := by
    rcases hC.row.2 with ⟨h1, h0⟩ | ⟨q, cap', cur, h1, h2, -⟩
    · omega
    · simp only [Value.slice.injEq] at h1
      exact ⟨q, h1.1, h2⟩
  have m0 : b0 ≠ q := fun e => n0 (by rw [e]; rfl)
  have m1 : b1 ≠ q := fun e => n1 (by rw [e]; rfl)
  have l0 : b0 < w.heap.size := by
    by_cases h : b0 < w.heap.size
    · exact h
    · simp [World.cell?, Array.getElem?_eq_none (show w.heap.size ≤ b0 by omega)] at h0
  have l1 : b1 < w.heap.size := by
    by_cases h : b1 < w.heap.size
    · exact h
    · simp [World.cell?, Array.getElem?_eq_none (show w.heap.size ≤ b1 by omega)] at h1
  have y1 := World.ownsRow.cellAt hC.row (a * 9 + 1) (by omega)
  have z1 := World.ownsRow.frozenAt hC.row (a * 9 + 1)
  rw [cdCells_at E a ha 1 (by omega), show (cell9 E[a])[1]? = some (.int .i64 E[a].1.to) from rfl] at y1
  obtain ⟨hC2, hg2⟩ := hC.told a ha (E.length : Int)
  have HC2 := mkHid hC2
  have Hb : Hid (Ef g (Value.slice (some ⟨q, 0, none⟩) E.length cap).ownBlock w (w.setCell ⟨q, a * 9 + 1, none⟩ (.int .i64 (E.length : Int))).drew) := ⟨rfl, rfl, rfl, by simp, fun k hk _ hr => (grG_set w q (a * 9 + 1) _).block k hk hr⟩
  have hO2 := mkHid ((hg2.block g hgl (by intro e; cases e; omega)).trans hblk)
  clear hC hC2 hg2 n0 n1
  have cS : w.cell? ⟨g, 1, none⟩ = some (.slice (some ⟨q, 0, none⟩) E.length cap) ∧ w.cell? ⟨b0, 0, none⟩ = some (.pointer (some ⟨g, 0, none⟩)) ∧ w.cell? ⟨b1, 0, none⟩ = some (.int .i64 a) := ⟨c1, h0, h1⟩
  go_enter Try.func73, Try.ntmps73
  refine wp_region_held (S := fun w => w.cell? ⟨g, 1, none⟩ = some (.slice (some ⟨q, 0, none⟩) E.length cap) ∧ w.cell? ⟨b0, 0, none⟩ = some (.pointer (some ⟨g, 0, none⟩)) ∧ w.cell? ⟨b1, 0, none⟩ = some (.int .i64 a)) (by kernel_rfl) ?_
  refine wpAnyH_take (i := 0) (v := .pointer (some ⟨g, 0, none⟩)) rfl (by kernel_rfl) (by kernel_rfl) (by kernel_rfl) (fun _ _ _ h => h) (Or.inl ⟨by rfl, ?_⟩) cS ?_
  · intro w sS
    obtain ⟨s1, s2, s3⟩ := sS
    go_simp
    all_goals first | done | (intro h; exfalso; omega) | omega
  go_simp
  refine wpAnyH_take (i := 1) (v := .pointer (some ⟨g, 0, none⟩)) rfl (by kernel_rfl) (by kernel_rfl) (by kernel_rfl) (fun _ _ _ h => h) (Or.inl ⟨by rfl, ?_⟩) cS ?_
  · intro w sS
    obtain ⟨s1, s2, s3⟩ := sS
    go_simp
    all_goals first | done | (intro h; exfalso; omega) | omega
  go_simp
  refine wpAnyH_take (i := 2) (v := .pointer (some ⟨g, 1, none⟩)) rfl (by kernel_rfl) (by kernel_rfl) (by kernel_rfl) (fun _ _ _ h => h) (Or.inl ⟨by rfl, ?_⟩) cS ?_
  · intro w sS
    obtain ⟨s1, s2, s3⟩ := sS
    go_simp
    all_goals first | done | (intro h; exfalso; omega) | omega
  go_simp
  refine wpAnyH_take (i := 3) (v := .slice (some ⟨q, 0, none⟩) E.length cap) rfl (by kernel_rfl) (by kernel_rfl) (by kernel_rfl) (fun _ _ _ h => h) (Or.inl ⟨by rfl, ?_⟩) cS ?_
  · intro w sS
    obtain ⟨s1, s2, s3⟩ := sS
    go_simp
    all_goals first | done | (intro h; exfalso; omega) | omega
  go_simp
  refine wpAnyH_take (i := 4) (v := .int .i64 (a : Int)) rfl (by kernel_rfl) (by kernel_rfl) (by kernel_rfl) (fun _ _ _ h => h) (Or.inl ⟨by rfl, ?_⟩) cS ?_
  · intro w sS
    obtain ⟨s1, s2, s3⟩ := sS
    go_simp
    all_goals first | done | (intro h; exfalso; omega) | omega
  go_simp
  refine wpAnyH_take (i := 5) (v := .pointer (some ⟨g, 0, none⟩)) rfl (by kernel_rfl) (by kernel_rfl) (by kernel_rfl) (fun _ _ _ h => h) (Or.inl ⟨by rfl, ?_⟩) cS ?_
  · intro w sS
    obtain ⟨s1, s2, s3⟩ := sS
    go_simp
    all_goals first | done | (intro h; exfalso; omega) | omega
  go_simp
  refine wpAnyH_all (rs := [6]) (by kernel_rfl) (by simp) ?_
  intro k hk
  simp only [List.mem_cons, List.not_mem_nil, or_false] at hk
  subst hk
  refine wpOp_step rfl (fun K hK => ?_)
  go_simp
  refine hH.out.mono ?_
  rintro e w' ⟨rfl, rfl⟩
  refine hK _ _ ⟨cS, ?_⟩
  clear hK K
  go_simp
  refine wpAnyH_take (i := 7) (v := .pointer (some ⟨q, a * 9, none⟩)) rfl (by kernel_rfl) (by kernel_rfl) (by kernel_rfl) (fun _ _ _ h => h) (Or.inl ⟨by rfl, ?_⟩) cS ?_
  · intro w sS
    obtain ⟨s1, s2, s3⟩ := sS
    go_simp
    all_goals first | done | (intro h; exfalso; omega) | omega
  go_simp
  refine wpAnyH_take (i := 8) (v := .pointer (some ⟨q, a * 9 + 1, none⟩)) rfl (by kernel_rfl) (by kernel_rfl) (by kernel_rfl) (fun _ _ _ h => h) (Or.inl ⟨by rfl, ?_⟩) cS ?_
  · intro w sS
    obtain ⟨s1, s2, s3⟩ := sS
    go_simp
    all_goals first | done | (intro h; exfalso; omega) | omega
  go_simp
  refine wpAnyH_all (rs := [9]) (by kernel_rfl) (by simp) ?_
  intro k hk
  simp only [List.mem_cons, List.not_mem_nil, or_false] at hk
  subst hk
  refine wpOp_step rfl (fun K hK => ?_)
  go_simp
  refine hK _ _ ⟨?_, ?_⟩
  · have gr := grG_set w q (a * 9 + 1) (.int .i64 (E.length : Int))
    exact ⟨(World.cell?_of_block (a := ⟨g, 1, none⟩) (gr.block g hgl (by intro e; cases e; omega))).trans c1, (World.cell?_of_block (a := ⟨b0, 0, none⟩) (gr.block b0 l0 (by intro e; cases e; exact m0 rfl))).trans h0, (World.cell?_of_block (a := ⟨b1, 0, none⟩) (gr.block b1 l1 (by intro e; cases e; exact m1 rfl))).trans h1⟩
  clear hK K
  go_simp
  refine wpAnyH_done (by kernel_rfl) ?_ _
  refine bodyPost_end (v := .tuple #[]) (results_none Try.results73 _ _ _) rfl ⟨rfl, _, ⟨hO2.out, ?_⟩, Hb.out, .inl rfl⟩
  rw [toE_set E a ha]
  exact HC2.out.drew
/-- The place of a jump, told. -/
theorem implTellC (g a b0 b1 : Nat) (nv v : Value) (C : List Cd) (w : World) (hM : Mc 47 g nv v C w) (ha : a < C.length) (h0 : w.cell? ⟨b0, 0, none⟩ = some (.pointer (some ⟨g, 0, none⟩))) (h1 : w.cell? ⟨b1, 0, none⟩ = some (.int .i64 a))
    (n0 : some b0 ≠ v.ownBlock) (n1 : some b1 ≠ v.ownBlock) :
    Calls Try.prog 73 #[.pointer (some ⟨b0, 0, none⟩), .pointer (some ⟨b1, 0, none⟩)] w fun e w' => e = .returned (.tuple #[]) ∧ Rc 47 g nv v (Cp.pt C a (C.length : Int)) w w' := by
  obtain ⟨E, hE, hM⟩ := hM
  have hl : E.length = C.length := by rw [← hE]; simp
  refine (implTell g a b0 b1 nv v E w hM (by omega) h0 h1 n0 n1).mono ?_
  rintro e w' ⟨rfl, v', hM', hE', hN'⟩
  exact ⟨rfl, v', ⟨_, by rw [toE_pt, hE, hl], hM'⟩, hE', hN'⟩
end Go.Proofs.Ytonnmbkfjiddnaa
namespace Go.Proofs.Ytonnmbkfjiddnaa
open Go.RowKit Go.Lib Go.Maps
/-- A local block of one cell that the coder's calls leave. -/
structure Lc (t : TypeId) (g : Nat) (v : Value) (b : Nat) (x : Value) (w : World) : Prop where
  blk : w.heap[b]? = some (.cells #[x] t (0, 0))
  ne : b ≠ g
  nr : some b ≠ v.ownBlock
theorem Lc.keep {t : TypeId} {g b : Nat} {v v' x : Value} {w w' : World} (h : Lc t g v b x w) (hE : Ef g v.ownBlock w w') (hN : Nw w v v') : Lc t g v' b x w' := by
  have hb := heap_ltM h.blk
  refine ⟨(hE.keep b hb h.ne h.nr).trans h.blk, h.ne, ?_⟩
  rcases hN with e | ⟨k, hk, e⟩
  · rw [e]; exact h.nr
  · rw [e]
    intro e2
    simp only [Option.some.injEq] at e2
    omega
theorem Lc.below {t : TypeId} {g b : Nat} {v x : Value} {w w' : World} (h : Lc t g v b x w) (hb : Below w.heap.size w w') : Lc t g v b x w' := ⟨(hb.block b (heap_ltM h.blk)).trans h.blk, h.ne, h.nr⟩
theorem Lc.cell {t : TypeId} {g b : Nat} {v x : Value} {w : World} (h : Lc t g v b x w) : w.cell? ⟨b, 0, none⟩ = some x := by simp [World.cell?, h.blk]
/-- The closure that jump answers: its two locals lie at b and b + 1. -/
def jmV (b : Nat) : Value := .func (.func 73) #[] #[.pointer (some ⟨b, 0, none⟩), .pointer (some ⟨b + 1, 0, none⟩)]
/-- The two locals. -/
def Jm (g n : Nat) (v : Value) (b : Nat) (w : World) : Prop := Lc 63 g v b (.pointer (some ⟨g, 0, none⟩)) w ∧ Lc 2 g v (b + 1) (.int .i64 n) w
set_option maxHeartbeats 4000000 in
theorem implJump (g : Nat) (nv v : Value) (C : List Cd) (op : Int) (w : World) (hM : Mc 47 g nv v C w) (hlen : C.length ≤ 100000) :
    Calls Try.prog 55 #[.pointer (some ⟨g, 0, none⟩), .int .i64 op] w fun e w' => e = .returned (jmV w.heap.size) ∧ ∃ v', Mc 47 g nv v' (C ++ [Cp.zc op 0]) w' ∧ Ef g v.ownBlock w w' ∧ Nw w v v' ∧ Jm g C.length v' w.heap.size w' := by
  obtain ⟨W, hW⟩ : ∃ W, w.alloc (.cells #[.pointer (some ⟨g, 0, none⟩)] 63) = W := ⟨_, rfl⟩
  have hbW : Below w.heap.size w W := by rw [← hW]; exact (Below.refl _ _).alloc (Nat.le_refl _) _
  have hs : W.heap.size = w.heap.size + 1 := by rw [← hW]; simp
  have hA : W.heap[w.heap.size]? = some (.cells #[.pointer (some ⟨g, 0, none⟩)] 63 (0, 0)) := by rw [← hW]; exact heap_alloc_at _ _
  have x0 : W.cell? ⟨w.heap.size, 0, none⟩ = some (.pointer (some ⟨g, 0, none⟩)) := by simp [World.cell?, hA]
  have hH := mkHid (implHere g nv v C W (hM.below hbW))
  obtain ⟨V, hV⟩ : ∃ V, W.alloc (.cells #[.int .i64 (C.length : Int)] 2) = V := ⟨_, rfl⟩
  have hbV : Below w.heap.size w V := by rw [← hV]; exact hbW.alloc (by omega) _
  have hA2 : V.heap[w.heap.size]? = some (.cells #[.pointer (some ⟨g, 0, none⟩)] 63 (0, 0)) := by
    rw [← hV, heap_alloc_old _ _ _ (by omega)]
    exact hA
  have hB2 : V.heap[w.heap.size + 1]? = some (.cells #[.int .i64 (C.length : Int)] 2 (0, 0)) := by
    rw [← hV, ← hs]
    exact heap_alloc_at _ _
  have hgl := heap_ltM hM.blk
  have hr : ∀ k, w.heap.size ≤ k → some k ≠ v.ownBlock := fun k hk e => by
    obtain ⟨E, -, hM⟩ := hM
    have := (World.ownsRow.lt hM.cw.row k e.symm).2
    omega
  have J1 : Hid (Lc 63 g v w.heap.size (.pointer (some ⟨g, 0, none⟩)) V) := ⟨hA2, by omega, hr _ (Nat.le_refl _)⟩
  have J2 : Hid (Lc 2 g v (w.heap.size + 1) (.int .i64 C.length) V) := ⟨hB2, by omega, hr _ (by omega)⟩
  have k2 := mkHid (implPut0 g nv v C op 0 0 V (hM.below hbV) hlen)
  have HV := mkHid hV
  have HbV := mkHid hbV
  clear hM hA hA2 hB2 hr hbW hbV hV
  go_enter Try.func55, Try.ntmps55
  go_wp2_with (go_at_call 56; fail)
  refine hH.out.mono ?_
  rintro e w1 ⟨rfl, rfl⟩
  go_wp2_with (go_at_call 20; fail)
  rw [HV.out]
  refine k2.out.mono ?_
  rintro e w2 ⟨rfl, v', hM2, hE2, hN2⟩
  have HM2 := mkHid hM2
  have HE2 := mkHid (Ef.ahead HbV.out hE2)
  have HN2 := mkHid (Nw.ahead HbV.out.size hN2)
  have JJ : Hid (Jm g C.length v' w.heap.size w2) := ⟨J1.out.keep hE2 hN2, J2.out.keep hE2 hN2⟩
  clear hM2 hE2 hN2
  go_wp2
  go_ret
  refine ⟨?_, v', HM2.out, HE2.out, HN2.out, JJ.out⟩
  rfl
end Go.Proofs.Ytonnmbkfjiddnaa
