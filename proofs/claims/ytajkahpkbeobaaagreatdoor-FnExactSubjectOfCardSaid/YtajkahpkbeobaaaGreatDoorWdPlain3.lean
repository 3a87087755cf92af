
/- An encoded word: the specification's side. -/

/- A header's text as characters: the program's small steps. -/

/- A header's text as characters, plain: what both sides read. -/
import Derived.Test.YtajkahpkbeobaaaGreatDoorWdSpec1
import Derived.Test.YtajkahpkbeobaaaGreatDoorDcSpec
import Derived.Test.YtajkahpkbeobaaaGreatDoorU64Spec
import Derived.Test.YtajkahpkbeobaaaGreatDoorWdPlain
import Derived.Maps.AppendAt
namespace Go.Proofs.YtajkahpkbeobaaaGreatDoor
open Go.RowKit Go.Lib Go.Maps
set_option maxRecDepth 20000 in
theorem retWW {g : Nat} {w wr : World} {tmps : Array Value} {x : Option (List Int)} (cs : Array Value) (hp : tmps.getD 2 undef = .pointer (some ⟨g, 0, none⟩)) {old : Array Value} (hres : wr.heap[g]? = some (.cells old 52 (0, 0))) (hb : Below g w wr) (h3 : cs.size = 3) (ho : DecOut g x (.returned (.agg cs)) (wr.setRow g cs)) (hg : g ≤ w.heap.size := by omega) :
    bodyPost Tryz.prog Tryz.f33 (fun e w' => DecOut g x e w' ∧ Below g w w') Exit.ret { tmps := tmps, defers := [] } (wr.setRow g cs) := by
  refine bodyPost_ret (v := .agg cs) (results_cell_row Tryz.results33 _ _ g 52 _ (0, 0) _ hp (setRow_heap _ _ _ _ _ _ hres) Tryz.underlying52 rfl ?_) rfl ⟨ho, hb.grown (grown_setRow _ _ _) (by have := hb.size; omega) (fun j hj => by cases hj; exact Nat.le_refl _)⟩
  rw [h3]
  kernel_rfl
set_option maxRecDepth 20000 in
theorem retW0 {g : Nat} {w wr : World} {tmps : Array Value} (hres : wr.heap[g]? = some (.cells #[.bool false, .int .i64 0, .slice none 0 0] 52 (0, 0))) (hb : Below g w wr) (hp : tmps.getD 2 undef = .pointer (some ⟨g, 0, none⟩) := by rfl) :
    bodyPost Tryz.prog Tryz.f33 (fun e w' => DecOut g none e w' ∧ Below g w w') Exit.ret { tmps := tmps, defers := [] } wr :=
  bodyPost_ret (v := .agg #[.bool false, .int .i64 0, .slice none 0 0]) (results_cell_row Tryz.results33 _ _ g 52 _ (0, 0) _ hp hres Tryz.underlying52 rfl (by kernel_rfl)) rfl ⟨⟨_, rfl⟩, hb⟩
set_option maxRecDepth 20000 in
theorem heap_allocS (w : World) (o : Obj) : (w.alloc o).heap[w.heap.size]? = some o := by
  show (w.heap.push o)[w.heap.size]? = some o
  simp
set_option maxRecDepth 40000 in
set_option maxHeartbeats 8000000 in
theorem specWordSigns (s : ByteArray) (w : World) (hs : s.size ≤ 100000) (h : ¬ (s.size ≤ 75 ∧ hasPrefix s.data.toList [61, 63] = true ∧ hasSuffix s.data.toList [63, 61] = true)) :
    Calls Tryz.prog 33 #[.string s] w fun e w' => DecOut w.heap.size none e w' ∧ Below w.heap.size w w' := by
  obtain ⟨g, hg⟩ : ∃ g, w.heap.size = g := ⟨_, rfl⟩
  rw [hg]
  obtain ⟨W, hW⟩ : ∃ W, w.alloc (.cells #[.bool false, .int .i64 0, .slice none 0 0] 52) = W := ⟨_, rfl⟩
  have zW : W.heap.size = g + 1 := by rw [← hW, World.size_alloc, hg]
  have r0 : W.heap[g]? = some (.cells #[.bool false, .int .i64 0, .slice none 0 0] 52 (0, 0)) := by rw [← hW, ← hg]; exact heap_allocS _ _
  have bW : Below g w W := by rw [← hW]; exact (Below.refl _ _).alloc (by omega) _
  obtain ⟨V, hV⟩ : ∃ V, W.alloc (.cells #[.bool false, .int .i64 0, .slice none 0 0] 52) = V := ⟨_, rfl⟩
  have zV : V.heap.size = g + 2 := by rw [← hV, World.size_alloc, zW]
  have r1 : V.heap[g + 1]? = some (.cells #[.bool false, .int .i64 0, .slice none 0 0] 52 (0, 0)) := by rw [← hV, ← zW]; exact heap_allocS _ _
  have bV1 : Below (g + 1) W V := by rw [← hV]; exact (Below.refl _ _).alloc (by omega) _
  have n1 := r1
  have n0 : V.heap[g]? = some (.cells #[.bool false, .int .i64 0, .slice none 0 0] 52 (0, 0)) := (bV1.block g (by omega)).trans r0
  have bU : Below g w V := bW.trans (bV1.mono (by omega))
  have HW := mkHid hW
  have HV := mkHid hV
  have HZ := mkHid zV
  have HG := mkHid hg
  clear r0 r1 bW bV1 hW hV zV zW
  have cB := mkHid (fun X => specBeginsW s X)
  have cE := mkHid (fun X => specEndsW s X (by omega))
  generalize hasPrefix s.data.toList [61, 63] = b1 at *
  generalize hasSuffix s.data.toList [63, 61] = b2 at *
  have h3 : (75 : Int) < (s.size : Int) ∨ (¬ (75 : Int) < (s.size : Int) ∧ b1 = false) ∨ (¬ (75 : Int) < (s.size : Int) ∧ b1 = true ∧ b2 = false) := by
    by_cases h7 : s.size ≤ 75
    · cases b1
      · exact .inr (.inl ⟨by omega, rfl⟩)
      · cases b2
        · exact .inr (.inr ⟨by omega, rfl, rfl⟩)
        · exact absurd ⟨h7, rfl, rfl⟩ h
    · exact .inl (by omega)
  clear h
  rcases h3 with h7 | ⟨h7, rfl⟩ | ⟨h7, rfl, rfl⟩
  · go_enter Tryz.func33, Tryz.ntmps33
    go_wp2
    rw [HW.out, HV.out]
    exact retW0 n0 bU
  · go_enter Tryz.func33, Tryz.ntmps33
    go_wp2_with fail
    refine (cB.out _).mono ?_
    rintro e X ⟨rfl, rfl⟩
    clear cB
    go_wp2
    rw [HW.out, HV.out]
    exact retW0 n0 bU
  · go_enter Tryz.func33, Tryz.ntmps33
    go_wp2_with fail
    refine (cB.out _).mono ?_
    rintro e X ⟨rfl, rfl⟩
    clear cB
    go_wp2_with fail
    refine (cE.out _).mono ?_
    rintro e X ⟨rfl, rfl⟩
    clear cE
    go_wp2
    rw [HW.out, HV.out]
    exact retW0 n0 bU
set_option maxRecDepth 40000 in
set_option maxHeartbeats 8000000 in
theorem specWordFive (s : ByteArray) (w : World) (hs : s.size ≤ 75) (h1 : hasPrefix s.data.toList [61, 63] = true) (h2 : hasSuffix s.data.toList [63, 61] = true) (h5 : (Cu.cut 63 [] s.data.toList).length ≠ 5) :
    Calls Tryz.prog 33 #[.string s] w fun e w' => DecOut w.heap.size none e w' ∧ Below w.heap.size w w' := by
  obtain ⟨g, hg⟩ : ∃ g, w.heap.size = g := ⟨_, rfl⟩
  rw [hg]
  obtain ⟨W, hW⟩ : ∃ W, w.alloc (.cells #[.bool false, .int .i64 0, .slice none 0 0] 52) = W := ⟨_, rfl⟩
  have zW : W.heap.size = g + 1 := by rw [← hW, World.size_alloc, hg]
  have r0 : W.heap[g]? = some (.cells #[.bool false, .int .i64 0, .slice none 0 0] 52 (0, 0)) := by rw [← hW, ← hg]; exact heap_allocS _ _
  have bW : Below g w W := by rw [← hW]; exact (Below.refl _ _).alloc (by omega) _
  obtain ⟨V, hV⟩ : ∃ V, W.alloc (.cells #[.bool false, .int .i64 0, .slice none 0 0] 52) = V := ⟨_, rfl⟩
  have zV : V.heap.size = g + 2 := by rw [← hV, World.size_alloc, zW]
  have r1 : V.heap[g + 1]? = some (.cells #[.bool false, .int .i64 0, .slice none 0 0] 52 (0, 0)) := by rw [← hV, ← zW]; exact heap_allocS _ _
  have bV1 : Below (g + 1) W V := by rw [← hV]; exact (Below.refl _ _).alloc (by omega) _
  have n1 := r1
  have n0 : V.heap[g]? = some (.cells #[.bool false, .int .i64 0, .slice none 0 0] 52 (0, 0)) := (bV1.block g (by omega)).trans r0
  have bU : Below g w V := bW.trans (bV1.mono (by omega))
  have HW := mkHid hW
  have HV := mkHid hV
  have HZ := mkHid zV
  have HG := mkHid hg
  clear r0 r1 bW bV1 hW hV zV zW
  have cB := mkHid (fun X => specBeginsW s X)
  have cE := mkHid (fun X => specEndsW s X (by omega))
  have h7 : ¬ (75 : Int) < (s.size : Int) := by omega
  rw [h1] at cB
  rw [h2] at cE
  have cC := mkHid (specCut s 63 V (by omega))
  have h5b : ¬ (((Cu.cut 63 [] s.data.toList).map Cu.mk).length : Int) = 5 := by rw [List.length_map]; omega
  generalize (Cu.cut 63 [] s.data.toList).map Cu.mk = P at *
  clear h1 h2 h5
  go_enter Tryz.func33, Tryz.ntmps33
  go_wp2_with fail
  refine (cB.out _).mono ?_
  rintro e X ⟨rfl, rfl⟩
  clear cB
  go_wp2_with fail
  refine (cE.out _).mono ?_
  rintro e X ⟨rfl, rfl⟩
  clear cE
  go_wp2_with fail
  rw [HW.out, HV.out]
  refine cC.out.mono ?_
  rintro e X ⟨y, rfl, hOX, hbX⟩
  clear cC
  have HOX := hOX
  have zX : g + 2 ≤ X.heap.size := by have := hbX.size; have := HZ.out; omega
  have n0X := (hbX.block g (by have := HZ.out; omega)).trans n0
  have n1X := (hbX.block (g + 1) (by have := HZ.out; omega)).trans n1
  have bX : Below g w X := bU.trans (hbX.mono (by have := HZ.out; omega))
  obtain ⟨o, c, rfl⟩ := hOX.out.shape
  generalize P.length = n at *
  go_wp2_with (first | (refine wpL_store_row rfl 52 _ _ rfl g #[.bool false, .int .i64 0, .slice none 0 0] rfl rfl 52 _ n0X (by kernel_rfl) rfl (by simp [Value.oneCell']) ?_) | (refine wpL_load_row rfl 52 _ rfl (g + 1) _ 52 (0, 0) _ rfl n1X Tryz.underlying52 rfl (by kernel_rfl) ?_) | go_in)
  exact retWW (x := none) _ rfl n0X bX rfl ⟨_, rfl⟩

set_option maxRecDepth 40000 in
set_option maxHeartbeats 8000000 in
theorem specWordNoEq (s : ByteArray) (w : World) (p0 p1 p2 p3 p4 : List UInt8) (hs : s.size ≤ 75) (h1 : hasPrefix s.data.toList [61, 63] = true) (h2 : hasSuffix s.data.toList [63, 61] = true) (hP : Cu.cut 63 [] s.data.toList = [p0, p1, p2, p3, p4]) (hn : p0 ≠ [61] ∨ (p0 = [61] ∧ p4 ≠ [61])) :
    Calls Tryz.prog 33 #[.string s] w fun e w' => DecOut w.heap.size none e w' ∧ Below w.heap.size w w' := by
  obtain ⟨g, hg⟩ : ∃ g, w.heap.size = g := ⟨_, rfl⟩
  rw [hg]
  obtain ⟨W, hW⟩ : ∃ W, w.alloc (.cells #[.bool false, .int .i64 0, .slice none 0 0] 52) = W := ⟨_, rfl⟩
  have zW : W.heap.size = g + 1 := by rw [← hW, World.size_alloc, hg]
  have r0 : W.heap[g]? = some (.cells #[.bool false, .int .i64 0, .slice none 0 0] 52 (0, 0)) := by rw [← hW, ← hg]; exact heap_allocS _ _
  have bW : Below g w W := by rw [← hW]; exact (Below.refl _ _).alloc (by omega) _
  obtain ⟨V, hV⟩ : ∃ V, W.alloc (.cells #[.bool false, .int .i64 0, .slice none 0 0] 52) = V := ⟨_, rfl⟩
  have zV : V.heap.size = g + 2 := by rw [← hV, World.size_alloc, zW]
  have r1 : V.heap[g + 1]? = some (.cells #[.bool false, .int .i64 0, .slice none 0 0] 52 (0, 0)) := by rw [← hV, ← zW]; exact heap_allocS _ _
  have bV1 : Below (g + 1) W V := by rw [← hV]; exact (Below.refl _ _).alloc (by omega) _
  have n1 := r1
  have n0 : V.heap[g]? = some (.cells #[.bool false, .int .i64 0, .slice none 0 0] 52 (0, 0)) := (bV1.block g (by omega)).trans r0
  have bU : Below g w V := bW.trans (bV1.mono (by omega))
  have HW := mkHid hW
  have HV := mkHid hV
  have HZ := mkHid zV
  have HG := mkHid hg
  clear r0 r1 bW bV1 hW hV zV zW
  have cB := mkHid (fun X => specBeginsW s X)
  have cE := mkHid (fun X => specEndsW s X (by omega))
  have h7 : ¬ (75 : Int) < (s.size : Int) := by omega
  rw [h1] at cB
  rw [h2] at cE
  have cC := mkHid (specCut s 63 V (by omega))
  have hsz := Cu.cut_mem 63 s.data.toList []
  have hll : s.data.toList.length = s.size := by simp
  rw [hP] at cC hsz
  have z1 := hsz p1 (by simp)
  have z3 := hsz p3 (by simp)
  have zz1 : (Cu.mk p1).size ≤ 75 := by show p1.toArray.size ≤ 75; simp at z1 ⊢; omega
  have zz3 : (Cu.mk p3).size ≤ 75 := by show p3.toArray.size ≤ 75; simp at z3 ⊢; omega
  have e0 : (Cu.mk p0).toList = p0 := by rw [ByteArray.toList_eq]; rfl
  have e1 : (Cu.mk p1).data.toList = p1 := rfl
  have e2 : (Cu.mk p2).toList = p2 := by rw [ByteArray.toList_eq]; rfl
  have e3 : (Cu.mk p3).data.toList = p3 := rfl
  have e4 : (Cu.mk p4).toList = p4 := by rw [ByteArray.toList_eq]; rfl
  clear h1 h2 hP
  have hn2 : ((Cu.mk p0).toList == [61]) = false ∨ (((Cu.mk p0).toList == [61]) = true ∧ ((Cu.mk p4).toList == [61]) = false) := by
    rw [e0, e4]
    rcases hn with h | ⟨h, h'⟩
    · exact .inl (beq_eq_false_iff_ne.2 h)
    · exact .inr ⟨by rw [h]; rfl, beq_eq_false_iff_ne.2 h'⟩
  clear hn e0 e1 e2 e3 e4 z1 z3 zz1 zz3 hsz
  go_enter Tryz.func33, Tryz.ntmps33
  go_wp2_with fail
  refine (cB.out _).mono ?_
  rintro e X ⟨rfl, rfl⟩
  clear cB
  go_wp2_with fail
  refine (cE.out _).mono ?_
  rintro e X ⟨rfl, rfl⟩
  clear cE
  go_wp2_with fail
  rw [HW.out, HV.out]
  refine cC.out.mono ?_
  rintro e X ⟨y, rfl, hOX, hbX⟩
  clear cC
  have HOX := hOX
  have zX : g + 2 ≤ X.heap.size := by have := hbX.size; have := HZ.out; omega
  have n0X := (hbX.block g (by have := HZ.out; omega)).trans n0
  have n1X := (hbX.block (g + 1) (by have := HZ.out; omega)).trans n1
  have bX : Below g w X := bU.trans (hbX.mono (by have := HZ.out; omega))
  rcases HOX.out.2 with ⟨-, hx0⟩ | ⟨q, cap, cur, rfl, hq, hrow, -⟩
  · cases hx0
  have k0 : X.cell? ⟨q, 0, none⟩ = some (.string (Cu.mk p0)) := by have := World.ownsRow.cells HOX.out (g := q) rfl 0 (.string (Cu.mk p0)) rfl; exact this
  have k1 : X.cell? ⟨q, 1, none⟩ = some (.string (Cu.mk p1)) := by have := World.ownsRow.cells HOX.out (g := q) rfl 1 (.string (Cu.mk p1)) rfl; exact this
  have k2 : X.cell? ⟨q, 2, none⟩ = some (.string (Cu.mk p2)) := by have := World.ownsRow.cells HOX.out (g := q) rfl 2 (.string (Cu.mk p2)) rfl; exact this
  have k3 : X.cell? ⟨q, 3, none⟩ = some (.string (Cu.mk p3)) := by have := World.ownsRow.cells HOX.out (g := q) rfl 3 (.string (Cu.mk p3)) rfl; exact this
  have k4 : X.cell? ⟨q, 4, none⟩ = some (.string (Cu.mk p4)) := by have := World.ownsRow.cells HOX.out (g := q) rfl 4 (.string (Cu.mk p4)) rfl; exact this
  have hqX : q < X.heap.size := heap_lt hrow
  clear hrow HOX hOX
  simp only [List.map_cons, List.map_nil, List.length_cons, List.length_nil, Nat.zero_add, Nat.reduceAdd]
  rcases hn2 with q0 | ⟨q0, q4⟩
  · go_wp2_with (first | (refine wpL_store_row rfl 52 _ _ rfl g #[.bool false, .int .i64 0, .slice none 0 0] rfl rfl 52 _ n0X (by kernel_rfl) rfl (by simp [Value.oneCell']) ?_) | (refine wpL_load_row rfl 52 _ rfl (g + 1) _ 52 (0, 0) _ rfl n1X Tryz.underlying52 rfl (by kernel_rfl) ?_) | go_in)
    exact retWW (x := none) _ rfl n0X bX rfl ⟨_, rfl⟩
  · go_wp2_with (first | (refine wpL_store_row rfl 52 _ _ rfl g #[.bool false, .int .i64 0, .slice none 0 0] rfl rfl 52 _ n0X (by kernel_rfl) rfl (by simp [Value.oneCell']) ?_) | (refine wpL_load_row rfl 52 _ rfl (g + 1) _ 52 (0, 0) _ rfl n1X Tryz.underlying52 rfl (by kernel_rfl) ?_) | go_in)
    exact retWW (x := none) _ rfl n0X bX rfl ⟨_, rfl⟩
set_option maxRecDepth 40000 in
set_option maxHeartbeats 8000000 in
theorem specWordNoSet (s : ByteArray) (w : World) (p0 p1 p2 p3 p4 : List UInt8) (hs : s.size ≤ 75) (h1 : hasPrefix s.data.toList [61, 63] = true) (h2 : hasSuffix s.data.toList [63, 61] = true) (hP : Cu.cut 63 [] s.data.toList = [p0, p1, p2, p3, p4]) (q0 : p0 = [61]) (q4 : p4 = [61]) (hz : setFrom 0 (lower p1) = 0) :
    Calls Tryz.prog 33 #[.string s] w fun e w' => DecOut w.heap.size none e w' ∧ Below w.heap.size w w' := by
  obtain ⟨g, hg⟩ : ∃ g, w.heap.size = g := ⟨_, rfl⟩
  rw [hg]
  obtain ⟨W, hW⟩ : ∃ W, w.alloc (.cells #[.bool false, .int .i64 0, .slice none 0 0] 52) = W := ⟨_, rfl⟩
  have zW : W.heap.size = g + 1 := by rw [← hW, World.size_alloc, hg]
  have r0 : W.heap[g]? = some (.cells #[.bool false, .int .i64 0, .slice none 0 0] 52 (0, 0)) := by rw [← hW, ← hg]; exact heap_allocS _ _
  have bW : Below g w W := by rw [← hW]; exact (Below.refl _ _).alloc (by omega) _
  obtain ⟨V, hV⟩ : ∃ V, W.alloc (.cells #[.bool false, .int .i64 0, .slice none 0 0] 52) = V := ⟨_, rfl⟩
  have zV : V.heap.size = g + 2 := by rw [← hV, World.size_alloc, zW]
  have r1 : V.heap[g + 1]? = some (.cells #[.bool false, .int .i64 0, .slice none 0 0] 52 (0, 0)) := by rw [← hV, ← zW]; exact heap_allocS _ _
  have bV1 : Below (g + 1) W V := by rw [← hV]; exact (Below.refl _ _).alloc (by omega) _
  have n1 := r1
  have n0 : V.heap[g]? = some (.cells #[.bool false, .int .i64 0, .slice none 0 0] 52 (0, 0)) := (bV1.block g (by omega)).trans r0
  have bU : Below g w V := bW.trans (bV1.mono (by omega))
  have HW := mkHid hW
  have HV := mkHid hV
  have HZ := mkHid zV
  have HG := mkHid hg
  clear r0 r1 bW bV1 hW hV zV zW
  have cB := mkHid (fun X => specBeginsW s X)
  have cE := mkHid (fun X => specEndsW s X (by omega))
  have h7 : ¬ (75 : Int) < (s.size : Int) := by omega
  rw [h1] at cB
  rw [h2] at cE
  have cC := mkHid (specCut s 63 V (by omega))
  have hsz := Cu.cut_mem 63 s.data.toList []
  have hll : s.data.toList.length = s.size := by simp
  rw [hP] at cC hsz
  have z1 := hsz p1 (by simp)
  have z3 := hsz p3 (by simp)
  have zz1 : (Cu.mk p1).size ≤ 75 := by show p1.toArray.size ≤ 75; simp at z1 ⊢; omega
  have zz3 : (Cu.mk p3).size ≤ 75 := by show p3.toArray.size ≤ 75; simp at z3 ⊢; omega
  have e0 : (Cu.mk p0).toList = p0 := by rw [ByteArray.toList_eq]; rfl
  have e1 : (Cu.mk p1).data.toList = p1 := rfl
  have e2 : (Cu.mk p2).toList = p2 := by rw [ByteArray.toList_eq]; rfl
  have e3 : (Cu.mk p3).data.toList = p3 := rfl
  have e4 : (Cu.mk p4).toList = p4 := by rw [ByteArray.toList_eq]; rfl
  clear h1 h2 hP
  replace q0 : ((Cu.mk p0).toList == [61]) = true := by rw [e0, q0]; rfl
  replace q4 : ((Cu.mk p4).toList == [61]) = true := by rw [e4, q4]; rfl
  have cO := mkHid (fun X => specOf (Cu.mk p1) X (by omega))
  rw [e1, hz] at cO
  clear e0 e1 e2 e3 e4 z1 z3 zz1 zz3 hsz
  go_enter Tryz.func33, Tryz.ntmps33
  go_wp2_with fail
  refine (cB.out _).mono ?_
  rintro e X ⟨rfl, rfl⟩
  clear cB
  go_wp2_with fail
  refine (cE.out _).mono ?_
  rintro e X ⟨rfl, rfl⟩
  clear cE
  go_wp2_with fail
  rw [HW.out, HV.out]
  refine cC.out.mono ?_
  rintro e X ⟨y, rfl, hOX, hbX⟩
  clear cC
  have HOX := hOX
  have zX : g + 2 ≤ X.heap.size := by have := hbX.size; have := HZ.out; omega
  have n0X := (hbX.block g (by have := HZ.out; omega)).trans n0
  have n1X := (hbX.block (g + 1) (by have := HZ.out; omega)).trans n1
  have bX : Below g w X := bU.trans (hbX.mono (by have := HZ.out; omega))
  rcases HOX.out.2 with ⟨-, hx0⟩ | ⟨q, cap, cur, rfl, hq, hrow, -⟩
  · cases hx0
  have k0 : X.cell? ⟨q, 0, none⟩ = some (.string (Cu.mk p0)) := by have := World.ownsRow.cells HOX.out (g := q) rfl 0 (.string (Cu.mk p0)) rfl; exact this
  have k1 : X.cell? ⟨q, 1, none⟩ = some (.string (Cu.mk p1)) := by have := World.ownsRow.cells HOX.out (g := q) rfl 1 (.string (Cu.mk p1)) rfl; exact this
  have k2 : X.cell? ⟨q, 2, none⟩ = some (.string (Cu.mk p2)) := by have := World.ownsRow.cells HOX.out (g := q) rfl 2 (.string (Cu.mk p2)) rfl; exact this
  have k3 : X.cell? ⟨q, 3, none⟩ = some (.string (Cu.mk p3)) := by have := World.ownsRow.cells HOX.out (g := q) rfl 3 (.string (Cu.mk p3)) rfl; exact this
  have k4 : X.cell? ⟨q, 4, none⟩ = some (.string (Cu.mk p4)) := by have := World.ownsRow.cells HOX.out (g := q) rfl 4 (.string (Cu.mk p4)) rfl; exact this
  have hqX : q < X.heap.size := heap_lt hrow
  clear hrow HOX hOX
  simp only [List.map_cons, List.map_nil, List.length_cons, List.length_nil, Nat.zero_add, Nat.reduceAdd]
  go_wp2_with fail
  refine (cO.out _).mono ?_
  rintro e Y ⟨rfl, hbY⟩
  have n0Y := (hbY.block g (by omega)).trans n0X
  have n1Y := (hbY.block (g + 1) (by omega)).trans n1X
  have bY : Below g w Y := bX.trans (hbY.mono (by omega))
  go_wp2_with (first | (refine wpL_store_row rfl 52 _ _ rfl g #[.bool false, .int .i64 0, .slice none 0 0] rfl rfl 52 _ n0Y (by kernel_rfl) rfl (by simp [Value.oneCell']) ?_) | (refine wpL_load_row rfl 52 _ rfl (g + 1) _ 52 (0, 0) _ rfl n1Y Tryz.underlying52 rfl (by kernel_rfl) ?_) | go_in)
  exact retWW (x := none) _ rfl n0Y bY rfl ⟨_, rfl⟩
end Go.Proofs.YtajkahpkbeobaaaGreatDoor
namespace Go.Proofs.YtajkahpkbeobaaaGreatDoor
open Go.RowKit Go.Lib
set_option maxRecDepth 20000 in
set_option maxHeartbeats 1000000 in
theorem implCutGap (s : ByteArray) (w : World) (hs : s.size ≤ 1100000) :
    Calls Tryz.prog 42 #[.string s] w fun e w' => e = .returned (.tuple #[.string (s.extract 0 (Pw.gap s.data.toList)), .string (s.extract (Pw.gap s.data.toList) s.size)]) ∧ Below w.heap.size w w' := by
  have cT := mkHid (libTrimLeft s w)
  have hle : Pw.gap s.data.toList ≤ s.size := by have := Pw.gap_le s.data.toList; simpa using this
  generalize Pw.gap s.data.toList = g at *
  have hsz : (s.extract g s.size).size = s.size - g := by simp
  have hsub : (s.size : Int) - ((s.size - g : Nat) : Int) = (g : Int) := by omega
  go_enter Tryz.func42, Tryz.ntmps42
  go_wp2_with fail
  refine cT.out.mono ?_
  rintro e w1 ⟨rfl, hb⟩
  have Hb := mkHid hb
  clear hb cT
  go_wp2
  go_ret2
  exact ⟨rfl, Hb.out⟩
namespace Pw
def pt (c : UInt8) : Int := if c.toNat < 128 then (c.toNat : Int) else 65533
def pts (l : List UInt8) : List Int := l.map pt
end Pw
set_option maxRecDepth 20000 in
/-- An append of one number: where its row lies. -/
theorem wp_appNa {w : World} {ops : Array Oper} {rest : List Oper} {o : Oper} {a : Act} {Q : Exit → Act → World → Prop} (hgd : o.guard = none) (s x : Operand)
    (ho : o.op = .call { callee := .builtin .append, args := #[s, x], argTypes := #[33, 33] })
    (B : Nat) (v : Value) (C : List Int) (hs : a.eval s = v) (hown : OwnN B v C w) (u : Int)
    (c : Nat) (hx : a.eval x = .slice (some ⟨w.heap.size, 0, none⟩) 1 c) (hlen : C.length ≤ 1000000) (hB : B ≤ w.heap.size)
    (h : ∀ v' w', OwnN B v' (C ++ [u]) w' → (w.alloc (.cells #[.int .i64 u] 2)).grownBy w' v.ownBlock → (v'.ownBlock = v.ownBlock ∨ v'.ownBlock = some (w.heap.size + 1)) → wpList Tryz.prog ops Q rest (a.put o.dst v') w') : wpList Tryz.prog ops Q (o :: rest) a (w.alloc (.cells #[.int .i64 u] 2)) := by
  obtain ⟨i0, hi0, hz0, hz1, hz2⟩ := info_parts Tryz.info2
  unfold OwnN at hown
  refine wpList_append_own_at _ hgd s x 33 ho B 2 i0 (.int .i64 0) 1 8 Tryz.underlying33 hi0 hz0 hz1 hz2 rfl (by decide) v C.length (numCells C) hs (World.ownsRow.alloc hown _) ⟨w.heap.size, 0, none⟩ 1 c [.int .i64 u] hx
    rfl ?_ ?_ (by unfold maxLen; omega) (by omega) (by simp; omega) ?_
  · intro j y hj
    rw [add_off]
    match j, hj with
    | 0, hj => simp at hj; subst hj; simp
  · intro y hy
    simp at hy
    subst hy
    rfl
  · intro v' w' h1 h2 _ h4
    refine h v' w' ?_ h2 (by rw [World.size_alloc] at h4; exact h4)
    unfold OwnN numCells
    rw [List.map_append, List.length_append]
    exact h1
/-- Of the blocks that were there at most one has turned; a row lies there, or is new. -/
def Pw.OneRow (w : World) (r : Option Nat) (u : Value) (wr : World) : Prop := w.grownBy wr r ∧ (u.ownBlock = r ∨ ∀ q, u.ownBlock = some q → w.heap.size ≤ q)
set_option maxRecDepth 20000 in
theorem oneRow_step {w wr w5 : World} {r : Option Nat} {u v5 : Value} {x : Int} (h : Pw.OneRow w r u wr) (hg : (wr.alloc (.cells #[.int .i64 x] 2)).grownBy w5 u.ownBlock) (hv : v5.ownBlock = u.ownBlock ∨ v5.ownBlock = some (wr.heap.size + 1)) : Pw.OneRow w r v5 w5 := by
  obtain ⟨h1, h2⟩ := h
  have hs := h1.size
  refine ⟨⟨hg.os.trans h1.os, hg.tape.trans h1.tape, hg.output.trans h1.output, Nat.le_trans (Nat.le_trans hs (by rw [World.size_alloc]; omega)) hg.size, fun i hi hr => ?_⟩, ?_⟩
  · refine ((hg.block i (by rw [World.size_alloc]; omega) ?_).trans (heap_alloc_old _ _ _ (by omega))).trans (h1.block i hi hr)
    intro e
    rcases h2 with h2 | h2
    · exact hr (e.trans h2)
    · have := h2 i e.symm
      omega
  · rcases hv with hv | hv
    · rw [hv]; exact h2
    · right
      intro q hq
      rw [hv] at hq
      cases hq
      omega
set_option maxRecDepth 20000 in
set_option maxHeartbeats 2000000 in
theorem implAppendBytes (B : Nat) (v : Value) (C : List Int) (s : ByteArray) (w : World) (hO : OwnN B v C w) (hB : B ≤ w.heap.size) (hl : C.length + s.size ≤ 1000000) :
    Calls Tryz.prog 45 #[v, .string s] w fun e w' => ∃ v', e = .returned v' ∧ OwnN B v' (C ++ Pw.pts s.data.toList) w' ∧ Below B w w' ∧ w.grownBy w' v.ownBlock := by
  have HO0 := mkHid hO
  have HR0 : Hid (Pw.OneRow w v.ownBlock v w) := mkHid ⟨⟨rfl, rfl, rfl, Nat.le_refl _, fun _ _ _ => rfl⟩, .inl rfl⟩
  obtain ⟨r0, hr0⟩ : ∃ r0, v.ownBlock = r0 := ⟨_, rfl⟩
  rw [hr0] at HR0 ⊢
  clear hr0
  obtain ⟨o0, c0, rfl⟩ := hO.shape
  have hll : s.data.toList.length = s.size := by simp
  clear hO
  go_enter Tryz.func45, Tryz.ntmps45
  go_wp2
  go_loopw [0, 8] (fun u iv wr => ∃ k : Nat, iv = .int .i64 k ∧ k ≤ s.size ∧ Hid (OwnN B u (C ++ Pw.pts (s.data.toList.take k)) wr) ∧ Hid (Below B w wr) ∧ Hid (Pw.OneRow w r0 u wr)) (fun _ iv _ => s.size - (Lib.intOf iv).toNat)
  case atStart => exact ⟨0, rfl, Nat.zero_le _, mkHid (by simpa [Pw.pts] using HO0.out), mkHid (Below.refl _ _), HR0⟩
  case round =>
    obtain ⟨k, rfl, hk, HO, Hb, HRw⟩ := hrel
    clear HO0 HR0
    obtain ⟨ob, cb, rfl⟩ := HO.out.shape
    have zr : B ≤ wr.heap.size := Nat.le_trans hB Hb.out.size
    have hlen : (C ++ Pw.pts (s.data.toList.take k)).length ≤ 1000000 := by simp [Pw.pts]; omega
    by_cases hlt : k < s.size
    · have Hsn : Hid (C ++ Pw.pts (s.data.toList.take (k + 1)) = (C ++ Pw.pts (s.data.toList.take k)) ++ [Pw.pt s[k]]) := mkHid (by
        rw [List.take_succ_eq_append_getElem (show k < s.data.toList.length by omega)]
        simp [Pw.pts, ByteArray.getElem_eq_getElem_data])
      have h8 : s[k].toNat < 256 := UInt8.toNat_lt _
      generalize C ++ Pw.pts (s.data.toList.take k) = P at *
      unfold Pw.pt at Hsn
      generalize hsk : s[k] = c at *
      by_cases hc : c.toNat < 128
      · rw [if_pos hc] at Hsn
        go_wp2_with (at_builtin; refine wp_appNa rfl _ _ rfl B (.slice ob P.length cb) P rfl HO.out (c.toNat : Int) _ rfl hlen zr ?_; intro v5 w5 hown5 hg5 hv5; refine Hid.out ?_)
        refine mkHid ?_
        have Hb5 := mkHid (Hb.out.trans (show Below B wr w5 from
          ⟨hg5.os, hg5.tape, hg5.output, Nat.le_trans (by simp) hg5.size, fun j hj => (hg5.block j (by simp; omega) (fun e => by have := (World.ownsRow.lt HO.out j e.symm).1; omega)).trans (heap_alloc_old _ _ _ (by omega))⟩))
        have HR5 := mkHid (oneRow_step HRw.out hg5 hv5)
        clear hg5 hv5
        go_wp2
        go_roundw
        case rel => exact ⟨k + 1, by go_num, by omega, mkHid (by rw [Hsn.out]; exact hown5), Hb5, HR5⟩
        case measure => simp [Lib.intOf]; omega
      · rw [if_neg hc] at Hsn
        go_wp2_with (at_builtin; refine wp_appNa rfl _ _ rfl B (.slice ob P.length cb) P rfl HO.out 65533 _ rfl hlen zr ?_; intro v5 w5 hown5 hg5 hv5; refine Hid.out ?_)
        refine mkHid ?_
        have Hb5 := mkHid (Hb.out.trans (show Below B wr w5 from
          ⟨hg5.os, hg5.tape, hg5.output, Nat.le_trans (by simp) hg5.size, fun j hj => (hg5.block j (by simp; omega) (fun e => by have := (World.ownsRow.lt HO.out j e.symm).1; omega)).trans (heap_alloc_old _ _ _ (by omega))⟩))
        have HR5 := mkHid (oneRow_step HRw.out hg5 hv5)
        clear hg5 hv5
        go_wp2
        go_roundw
        case rel => exact ⟨k + 1, by go_num, by omega, mkHid (by rw [Hsn.out]; exact hown5), Hb5, HR5⟩
        case measure => simp [Lib.intOf]; omega
    · have e : s.data.toList.take k = s.data.toList := List.take_of_length_le (by omega)
      rw [e] at HO ⊢
      go_wp2
      go_ret
      exact ⟨_, rfl, HO.out, Hb.out, HRw.out.1⟩
end Go.Proofs.YtajkahpkbeobaaaGreatDoor
namespace Go.Proofs.YtajkahpkbeobaaaGreatDoor
open Go.Lib
namespace Pw
/-- How many bytes that are no blanks stand ahead. -/
def tx : List UInt8 → Nat
  | [] => 0
  | c :: r => if bl c then 0 else tx r + 1
set_option maxRecDepth 20000 in
theorem tx_le : ∀ l : List UInt8, tx l ≤ l.length
  | [] => Nat.le_refl _
  | c :: r => by
    unfold tx
    split
    · exact Nat.zero_le _
    · exact Nat.succ_le_succ (tx_le r)
set_option maxRecDepth 20000 in
theorem gap_tx : ∀ l : List UInt8, l ≠ [] → 1 ≤ gap l + tx (l.drop (gap l))
  | [], h => absurd rfl h
  | c :: r, _ => by
    unfold gap
    by_cases hb : bl c = true
    · rw [if_pos hb]; omega
    · rw [if_neg hb, List.drop_zero]
      unfold tx
      rw [if_neg hb]
      omega
def wd (l : List UInt8) : List UInt8 := (l.drop (gap l)).take (tx (l.drop (gap l)))
def rs (l : List UInt8) : List UInt8 := (l.drop (gap l)).drop (tx (l.drop (gap l)))
set_option maxRecDepth 20000 in
theorem rs_len (l : List UInt8) : (rs l).length + (l.take (gap l)).length + (wd l).length = l.length := by
  have h1 := gap_le l
  have h2 := tx_le (l.drop (gap l))
  unfold rs wd
  simp only [List.length_drop, List.length_take] at h2 ⊢
  omega
set_option maxRecDepth 20000 in
theorem rs_lt (l : List UInt8) (h : l ≠ []) : (rs l).length < l.length := by
  have h1 := gap_tx l h
  have h2 := gap_le l
  have h3 := tx_le (l.drop (gap l))
  unfold rs
  simp only [List.length_drop] at h3 ⊢
  omega
/-- The points of a text, by its length; the truth: a word stands ahead. -/
def rdF : Nat → Bool → List UInt8 → List Int
  | 0, _, _ => []
  | n + 1, b, l => if l = [] then [] else
    match word (wd l) with
    | some ps => (if b then [] else pts (l.take (gap l))) ++ (ps ++ rdF n true (rs l))
    | none => pts (l.take (gap l)) ++ (pts (wd l) ++ rdF n false (rs l))
set_option maxRecDepth 20000 in
theorem rdF_more : ∀ (n m : Nat) (b : Bool) (l : List UInt8), l.length ≤ n → l.length ≤ m → rdF n b l = rdF m b l
  | 0, 0, _, _, _, _ => rfl
  | 0, m + 1, b, l, h, _ => by
    have : l = [] := List.length_eq_zero_iff.1 (by omega)
    subst this
    simp [rdF]
  | n + 1, 0, b, l, _, h => by
    have : l = [] := List.length_eq_zero_iff.1 (by omega)
    subst this
    simp [rdF]
  | n + 1, m + 1, b, l, h1, h2 => by
    by_cases hl : l = []
    · subst hl
      simp [rdF]
    · have := rs_lt l hl
      rw [rdF, rdF, if_neg hl, if_neg hl, rdF_more n m true (rs l) (by omega) (by omega), rdF_more n m false (rs l) (by omega) (by omega)]
def rd (b : Bool) (l : List UInt8) : List Int := rdF l.length b l
set_option maxRecDepth 20000 in
theorem rd_nil (b : Bool) : rd b [] = [] := rfl
set_option maxRecDepth 20000 in
theorem rd_word (b : Bool) (l : List UInt8) (ps : List Int) (hl : l ≠ []) (h : word (wd l) = some ps) : rd b l = (if b then [] else pts (l.take (gap l))) ++ (ps ++ rd true (rs l)) := by
  have h1 := rs_lt l hl
  unfold rd
  rw [rdF_more l.length (l.length - 1 + 1) b l (Nat.le_refl _) (by omega), rdF, if_neg hl, h, rdF_more (l.length - 1) (rs l).length true (rs l) (by omega) (Nat.le_refl _)]
set_option maxRecDepth 20000 in
theorem rd_text (b : Bool) (l : List UInt8) (hl : l ≠ []) (h : word (wd l) = none) : rd b l = pts (l.take (gap l)) ++ (pts (wd l) ++ rd false (rs l)) := by
  have h1 := rs_lt l hl
  unfold rd
  rw [rdF_more l.length (l.length - 1 + 1) b l (Nat.le_refl _) (by omega), rdF, if_neg hl, h, rdF_more (l.length - 1) (rs l).length false (rs l) (by omega) (Nat.le_refl _)]
set_option maxRecDepth 20000 in
theorem dec_len (set : Int) : ∀ (n : Nat) (out : List Int) (l : List UInt8) (ps : List Int), l.length ≤ n → Pd.dec set out l = some ps → ps.length ≤ out.length + l.length
  | n, out, [], ps, _, h => by
    rw [Pd.dec_nil] at h
    cases h
    simp
  | 0, out, a :: r, ps, hn, h => by simp at hn
  | n + 1, out, a :: r, ps, hn, h => by
    rw [Pd.dec] at h
    split at h
    · cases h
    · rename_i p k hk
      have := dec_len set n (out ++ [p]) (r.drop (k - 1)) ps (by simp at hn ⊢; omega) h
      simp at this ⊢
      omega
set_option maxRecDepth 20000 in
theorem quad_len (b : Bool) (x y z u : UInt8) (p : List UInt8) (h : Pu.quad b x y z u = some p) : p.length ≤ 3 := by
  unfold Pu.quad at h
  split at h
  · cases h; simp
  split at h
  · cases h; simp
  split at h
  · cases h; simp
  · cases h
set_option maxRecDepth 20000 in
theorem quads_len : ∀ (l p : List UInt8), Pu.quads l = some p → p.length ≤ l.length
  | [], p, h => by rw [Pu.quads] at h; cases h; simp
  | [_], p, h => by rw [Pu.quads] at h <;> first | (cases h; done) | simp
  | [_, _], p, h => by rw [Pu.quads] at h <;> first | (cases h; done) | simp
  | [_, _, _], p, h => by rw [Pu.quads] at h <;> first | (cases h; done) | simp
  | a :: b :: c :: e :: r, p, h => by
    rw [Pu.quads] at h
    cases hq : Pu.quad r.isEmpty a b c e with
    | none => rw [hq] at h; cases h
    | some x =>
      rw [hq, Option.bind_some] at h
      cases hr : Pu.quads r with
      | none => rw [hr] at h; cases h
      | some y =>
        rw [hr, Option.map_some] at h
        cases h
        have h1 := quad_len _ _ _ _ _ _ hq
        have h2 := quads_len r y hr
        simp only [List.length_append, List.length_cons]
        omega
set_option maxRecDepth 20000 in
theorem un64_len (l p : List UInt8) (h : Pu.un64 l = some p) : p.length ≤ l.length := by
  unfold Pu.un64 at h
  split at h
  · have h1 := quads_len _ _ h
    have h2 := Pu.strip_len l l.length
    rw [List.take_length] at h2
    omega
  · cases h
set_option maxRecDepth 20000 in
theorem wq_len : ∀ (n : Nat) (out l p : List UInt8), l.length ≤ n → wq out l = some p → p.length ≤ out.length + l.length
  | n, out, [], p, _, h => by
    rw [wq] at h
    cases h
    simp
  | 0, out, a :: r, p, hn, h => by simp at hn
  | n + 1, out, c :: r, p, hn, h => by
    have hr : r.length ≤ n := by simp at hn; omega
    rw [wq] at h
    split at h
    · have := wq_len n _ r p hr h
      simp at this ⊢
      omega
    · split at h
      · split at h
        · have := wq_len n _ (r.drop 2) p (by simp; omega) h
          simp at this ⊢
          omega
        · cases h
      · have := wq_len n _ r p hr h
        simp at this ⊢
        omega
set_option maxRecDepth 20000 in
theorem data_len (l t p : List UInt8) (h : data l t = some p) : p.length ≤ t.length := by
  unfold data at h
  split at h
  · exact un64_len _ _ h
  split at h
  · have := wq_len t.length [] t p (Nat.le_refl _) h
    simpa using this
  · cases h
set_option maxRecDepth 20000 in
theorem three_len (a b c : List UInt8) (ps : List Int) (h : three a b c = some ps) : ps.length ≤ c.length := by
  unfold three at h
  cases hd : data b c with
  | none => rw [hd] at h; cases h
  | some d =>
    rw [hd, Option.bind_some] at h
    have h1 := data_len _ _ _ hd
    unfold decA at h
    split at h
    · cases h
    · have := dec_len _ d.length [] d ps (Nat.le_refl _) h
      simp at this
      omega
set_option maxRecDepth 20000 in
theorem word_len (l : List UInt8) (ps : List Int) (h : word l = some ps) : ps.length ≤ l.length := by
  unfold word at h
  split at h
  · rename_i hc
    have e := word_shape l hc.1 hc.2.1
    split at h
    · rename_i a b c he
      have h1 := three_len a b c ps h
      have h2 := Cu.cut_mem 63 (trimSuffix (trimPrefix l [61, 63]) [63, 61]) [] c (by rw [he]; simp)
      have h3 := congrArg List.length e
      simp at h2 h3
      omega
    · cases h
  · cases h
set_option maxRecDepth 20000 in
theorem tx_at : ∀ (l : List UInt8) (k : Nat), (∀ j (h : j < l.length), j < k → bl l[j] = false) → (k = l.length ∨ ∃ h : k < l.length, bl l[k] = true) → tx l = k
  | [], k, _, h => by
    rcases h with h | ⟨h, -⟩
    · simp at h; subst h; rfl
    · simp at h
  | c :: r, 0, _, h => by
    rcases h with h | ⟨h, hb⟩
    · simp at h
    · simp at hb
      unfold tx
      rw [if_pos hb]
  | c :: r, k + 1, h1, h => by
    have hc : bl c = false := h1 0 (by simp) (by omega)
    unfold tx
    rw [hc, if_neg (by decide)]
    congr 1
    refine tx_at r k (fun j hj hk => ?_) ?_
    · exact h1 (j + 1) (by simp; omega) (by omega)
    · rcases h with h | ⟨h, hb⟩
      · left; simp at h; omega
      · right; exact ⟨by simp at h; omega, by simpa using hb⟩
set_option maxRecDepth 20000 in
theorem gap_at : ∀ (l : List UInt8) (k : Nat), (∀ j (h : j < l.length), j < k → bl l[j] = true) → (k = l.length ∨ ∃ h : k < l.length, bl l[k] = false) → gap l = k
  | [], k, _, h => by
    rcases h with h | ⟨h, -⟩
    · simp at h; subst h; rfl
    · simp at h
  | c :: r, 0, _, h => by
    rcases h with h | ⟨h, hb⟩
    · simp at h
    · simp at hb
      unfold gap
      rw [hb, if_neg (by decide)]
  | c :: r, k + 1, h1, h => by
    have hc : bl c = true := h1 0 (by simp) (by omega)
    unfold gap
    rw [if_pos hc]
    congr 1
    refine gap_at r k (fun j hj hk => ?_) ?_
    · exact h1 (j + 1) (by simp; omega) (by omega)
    · rcases h with h | ⟨h, hb⟩
      · left; simp at h; omega
      · right; exact ⟨by simp at h; omega, by simpa using hb⟩
set_option maxRecDepth 20000 in
/-- Where the first blank is, by the library's words. -/
theorem index_tx (l : List UInt8) : indexAny l [32, 9] = if tx l = l.length then -1 else (tx l : Int) := by
  induction l with
  | nil => rfl
  | cons c r ih =>
    have hb : ([32, 9] : List UInt8).contains c = bl c := by
      by_cases h1 : c = 32 <;> by_cases h2 : c = 9 <;> simp [bl, h1, h2]
    rw [indexAny, hb, ih]
    by_cases hc : bl c = true
    · have ht : tx (c :: r) = 0 := by
        unfold tx
        rw [if_pos hc]
      rw [if_pos hc, ht, if_neg (by rw [List.length_cons]; omega)]
      rfl
    · have ht : tx (c :: r) = tx r + 1 := by
        conv => lhs; unfold tx
        rw [if_neg hc]
      have hle := tx_le r
      rw [if_neg hc, ht]
      by_cases h : tx r = r.length
      · rw [if_pos h, if_pos (by rfl), if_pos (by rw [List.length_cons, h])]
      · rw [if_neg h, if_neg (by intro e; have := beq_iff_eq.1 e; omega), if_neg (by rw [List.length_cons]; omega)]
        omega
end Pw
end Go.Proofs.YtajkahpkbeobaaaGreatDoor
