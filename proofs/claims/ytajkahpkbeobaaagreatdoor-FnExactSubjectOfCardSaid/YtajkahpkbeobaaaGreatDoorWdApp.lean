
/- An encoded word: the specification's side, its data. -/

/- An encoded word: the specification's side, its signs. -/

/- A list of numbers behind another one. -/
import Derived.Test.YtajkahpkbeobaaaGreatDoorWdPlain3
import Derived.Test.YtajkahpkbeobaaaGreatDoorWdRead
import Derived.Test.YtajkahpkbeobaaaGreatDoorWdSpec1
import Derived.Laws.OwnMore
namespace Go.Proofs.YtajkahpkbeobaaaGreatDoor
open Go.RowKit Go.Lib Go.Maps
set_option maxRecDepth 20000 in
theorem decOut_set {B g : Nat} {x : Option (List Int)} {e : Ending} {w : World} (h : DecOut B x e w) (hg : g < B) (hB : g ≤ B) : ∀ cs, DecOut g x e (w.setRow g cs) := by
  intro cs
  cases x with
  | none => exact h
  | some ps =>
    obtain ⟨v, rfl, hO⟩ := h
    exact ⟨v, rfl, own_baseN (hO.keep (grown_setRow w g cs) (.inr (fun e => by have := (World.ownsRow.lt hO g e).1; omega))) hB⟩
set_option maxRecDepth 40000 in
set_option maxHeartbeats 8000000 in
theorem specWordOther (s : ByteArray) (w : World) (p0 p1 p2 p3 p4 : List UInt8) (hs : s.size ≤ 75) (h1 : hasPrefix s.data.toList [61, 63] = true) (h2 : hasSuffix s.data.toList [63, 61] = true) (hP : Cu.cut 63 [] s.data.toList = [p0, p1, p2, p3, p4]) (q0 : p0 = [61]) (q4 : p4 = [61]) (hz : setFrom 0 (lower p1) ≠ 0) (hb : ¬ (p2 = [66] ∨ p2 = [98])) (hq : ¬ (p2 = [81] ∨ p2 = [113])) :
    Calls Tryz.prog 33 #[.string s] w fun e w' => DecOut w.heap.size none e w' ∧ Below w.heap.size w w' := by
  obtain ⟨g, hg⟩ : ∃ g, w.heap.size = g := ⟨_, rfl⟩
  rw [hg]
  obtain ⟨W, hW⟩ : ∃ W, w.alloc (.cells #[.bool false, .int .i64 0, .slice none 0 0] 52) = W := ⟨_, rfl⟩
  have zW : W.heap.size = g + 1 := by rw [← hW, World.size_alloc, hg]
  have r0 : W.heap[g]? = some (.cells #[.bool false, .int .i64 0, .slice none 0 0] 52 (0, 0)) := by rw [← hW, ← hg]; exact heap_allocS _ _
  have bW : Below g w W := by rw [← hW]; exact (Below.refl _ _).alloc (by omega) _
  obtain ⟨V, hV⟩ : ∃ V, W.alloc (.cells #[.bool false, .int .i64 0, .slice none 0 0] 52) = V := ⟨_, rfl⟩
  have zV : V.heap.size = g + 2 := by rw [← hV, World.size_alloc, zW]
  have r1 : V.heap[g + 1]? = some (.cells #[.bool false, .int .i64 0, .slice none 0 0] 52 (0, 0)) := by rw [← hV, ← zW]; exact heap_allocS _ _
  have bV1 : Below (g + 1) W V := by rw [← hV]; exact (Below.refl _ _).alloc (by omega) _
  have n1 := r1
  have n0 : V.heap[g]? = some (.cells #[.bool false, .int .i64 0, .slice none 0 0] 52 (0, 0)) := (bV1.block g (by omega)).trans r0
  have bU : Below g w V := bW.trans (bV1.mono (by omega))
  have HW := mkHid hW
  have HV := mkHid hV
  have HZ := mkHid zV
  have HG := mkHid hg
  clear r0 r1 bW bV1 hW hV zV zW
  have cB := mkHid (fun X => specBeginsW s X)
  have cE := mkHid (fun X => specEndsW s X (by omega))
  have h7 : ¬ (75 : Int) < (s.size : Int) := by omega
  rw [h1] at cB
  rw [h2] at cE
  have cC := mkHid (specCut s 63 V (by omega))
  have hsz := Cu.cut_mem 63 s.data.toList []
  have hll : s.data.toList.length = s.size := by simp
  rw [hP] at cC hsz
  have z1 := hsz p1 (by simp)
  have z3 := hsz p3 (by simp)
  have zz1 : (Cu.mk p1).size ≤ 75 := by show p1.toArray.size ≤ 75; simp at z1 ⊢; omega
  have zz3 : (Cu.mk p3).size ≤ 75 := by show p3.toArray.size ≤ 75; simp at z3 ⊢; omega
  have e0 : (Cu.mk p0).toList = p0 := by rw [ByteArray.toList_eq]; rfl
  have e1 : (Cu.mk p1).data.toList = p1 := rfl
  have e2 : (Cu.mk p2).toList = p2 := by rw [ByteArray.toList_eq]; rfl
  have e3 : (Cu.mk p3).data.toList = p3 := rfl
  have e4 : (Cu.mk p4).toList = p4 := by rw [ByteArray.toList_eq]; rfl
  clear h1 h2 hP
  replace q0 : ((Cu.mk p0).toList == [61]) = true := by rw [e0, q0]; rfl
  replace q4 : ((Cu.mk p4).toList == [61]) = true := by rw [e4, q4]; rfl
  have cO := mkHid (fun X => specOf (Cu.mk p1) X (by omega))
  rw [e1] at cO
  generalize setFrom 0 (lower p1) = st at *
  have hst : (st == 0) = false := beq_eq_false_iff_ne.2 hz
  clear hz
  have b1 : ((Cu.mk p2).toList == [66]) = false := by rw [e2]; exact beq_eq_false_iff_ne.2 (fun h => hb (.inl h))
  have b2 : ((Cu.mk p2).toList == [98]) = false := by rw [e2]; exact beq_eq_false_iff_ne.2 (fun h => hb (.inr h))
  have b3 : ((Cu.mk p2).toList == [81]) = false := by rw [e2]; exact beq_eq_false_iff_ne.2 (fun h => hq (.inl h))
  have b4 : ((Cu.mk p2).toList == [113]) = false := by rw [e2]; exact beq_eq_false_iff_ne.2 (fun h => hq (.inr h))
  clear hb hq e0 e1 e2 e3 e4 z1 z3 zz1 zz3 hsz
  go_enter Tryz.func33, Tryz.ntmps33
  go_wp2_with fail
  refine (cB.out _).mono ?_
  rintro e X ⟨rfl, rfl⟩
  clear cB
  go_wp2_with fail
  refine (cE.out _).mono ?_
  rintro e X ⟨rfl, rfl⟩
  clear cE
  go_wp2_with fail
  rw [HW.out, HV.out]
  refine cC.out.mono ?_
  rintro e X ⟨y, rfl, hOX, hbX⟩
  clear cC
  have HOX := hOX
  have zX : g + 2 ≤ X.heap.size := by have := hbX.size; have := HZ.out; omega
  have n0X := (hbX.block g (by have := HZ.out; omega)).trans n0
  have n1X := (hbX.block (g + 1) (by have := HZ.out; omega)).trans n1
  have bX : Below g w X := bU.trans (hbX.mono (by have := HZ.out; omega))
  rcases HOX.out.2 with ⟨-, hx0⟩ | ⟨q, cap, cur, rfl, hq, hrow, -⟩
  · cases hx0
  have k0 : X.cell? ⟨q, 0, none⟩ = some (.string (Cu.mk p0)) := by have := World.ownsRow.cells HOX.out (g := q) rfl 0 (.string (Cu.mk p0)) rfl; exact this
  have k1 : X.cell? ⟨q, 1, none⟩ = some (.string (Cu.mk p1)) := by have := World.ownsRow.cells HOX.out (g := q) rfl 1 (.string (Cu.mk p1)) rfl; exact this
  have k2 : X.cell? ⟨q, 2, none⟩ = some (.string (Cu.mk p2)) := by have := World.ownsRow.cells HOX.out (g := q) rfl 2 (.string (Cu.mk p2)) rfl; exact this
  have k3 : X.cell? ⟨q, 3, none⟩ = some (.string (Cu.mk p3)) := by have := World.ownsRow.cells HOX.out (g := q) rfl 3 (.string (Cu.mk p3)) rfl; exact this
  have k4 : X.cell? ⟨q, 4, none⟩ = some (.string (Cu.mk p4)) := by have := World.ownsRow.cells HOX.out (g := q) rfl 4 (.string (Cu.mk p4)) rfl; exact this
  have hqX : q < X.heap.size := heap_lt hrow
  clear hrow HOX hOX
  simp only [List.map_cons, List.map_nil, List.length_cons, List.length_nil, Nat.zero_add, Nat.reduceAdd]
  go_wp2_with fail
  refine (cO.out _).mono ?_
  rintro e Y ⟨rfl, hbY⟩
  have n0Y := (hbY.block g (by omega)).trans n0X
  have n1Y := (hbY.block (g + 1) (by omega)).trans n1X
  have bY : Below g w Y := bX.trans (hbY.mono (by omega))
  have y2 := (hbY.cell (p := ⟨q, 2, none⟩) hqX).trans k2
  have y3 := (hbY.cell (p := ⟨q, 3, none⟩) hqX).trans k3
  have zY : g + 2 ≤ Y.heap.size := by have := hbY.size; omega
  clear k0 k1 k2 k3 k4 n0X n1X bX hbY hbX cO
  go_wp2_with (first | (refine wpL_store_row rfl 52 _ _ rfl g #[.bool false, .int .i64 0, .slice none 0 0] rfl rfl 52 _ n0Y (by kernel_rfl) rfl (by simp [Value.oneCell']) ?_) | (refine wpL_load_row rfl 52 _ rfl (g + 1) _ 52 (0, 0) _ rfl n1Y Tryz.underlying52 rfl (by kernel_rfl) ?_) | go_in)
  exact retWW (x := none) _ rfl n0Y bY rfl ⟨_, rfl⟩
set_option maxRecDepth 40000 in
set_option maxHeartbeats 8000000 in
theorem specWordB (s : ByteArray) (w : World) (p0 p1 p2 p3 p4 : List UInt8) (hs : s.size ≤ 75) (h1 : hasPrefix s.data.toList [61, 63] = true) (h2 : hasSuffix s.data.toList [63, 61] = true) (hP : Cu.cut 63 [] s.data.toList = [p0, p1, p2, p3, p4]) (q0 : p0 = [61]) (q4 : p4 = [61]) (hz : setFrom 0 (lower p1) ≠ 0) (hb : p2 = [66] ∨ p2 = [98]) :
    Calls Tryz.prog 33 #[.string s] w fun e w' => DecOut w.heap.size ((Pu.un64 p3).bind (decA (setFrom 0 (lower p1)))) e w' ∧ Below w.heap.size w w' := by
  obtain ⟨g, hg⟩ : ∃ g, w.heap.size = g := ⟨_, rfl⟩
  rw [hg]
  obtain ⟨W, hW⟩ : ∃ W, w.alloc (.cells #[.bool false, .int .i64 0, .slice none 0 0] 52) = W := ⟨_, rfl⟩
  have zW : W.heap.size = g + 1 := by rw [← hW, World.size_alloc, hg]
  have r0 : W.heap[g]? = some (.cells #[.bool false, .int .i64 0, .slice none 0 0] 52 (0, 0)) := by rw [← hW, ← hg]; exact heap_allocS _ _
  have bW : Below g w W := by rw [← hW]; exact (Below.refl _ _).alloc (by omega) _
  obtain ⟨V, hV⟩ : ∃ V, W.alloc (.cells #[.bool false, .int .i64 0, .slice none 0 0] 52) = V := ⟨_, rfl⟩
  have zV : V.heap.size = g + 2 := by rw [← hV, World.size_alloc, zW]
  have r1 : V.heap[g + 1]? = some (.cells #[.bool false, .int .i64 0, .slice none 0 0] 52 (0, 0)) := by rw [← hV, ← zW]; exact heap_allocS _ _
  have bV1 : Below (g + 1) W V := by rw [← hV]; exact (Below.refl _ _).alloc (by omega) _
  have n1 := r1
  have n0 : V.heap[g]? = some (.cells #[.bool false, .int .i64 0, .slice none 0 0] 52 (0, 0)) := (bV1.block g (by omega)).trans r0
  have bU : Below g w V := bW.trans (bV1.mono (by omega))
  have HW := mkHid hW
  have HV := mkHid hV
  have HZ := mkHid zV
  have HG := mkHid hg
  clear r0 r1 bW bV1 hW hV zV zW
  have cB := mkHid (fun X => specBeginsW s X)
  have cE := mkHid (fun X => specEndsW s X (by omega))
  have h7 : ¬ (75 : Int) < (s.size : Int) := by omega
  rw [h1] at cB
  rw [h2] at cE
  have cC := mkHid (specCut s 63 V (by omega))
  have hsz := Cu.cut_mem 63 s.data.toList []
  have hll : s.data.toList.length = s.size := by simp
  rw [hP] at cC hsz
  have z1 := hsz p1 (by simp)
  have z3 := hsz p3 (by simp)
  have zz1 : (Cu.mk p1).size ≤ 75 := by show p1.toArray.size ≤ 75; simp at z1 ⊢; omega
  have zz3 : (Cu.mk p3).size ≤ 75 := by show p3.toArray.size ≤ 75; simp at z3 ⊢; omega
  have e0 : (Cu.mk p0).toList = p0 := by rw [ByteArray.toList_eq]; rfl
  have e1 : (Cu.mk p1).data.toList = p1 := rfl
  have e2 : (Cu.mk p2).toList = p2 := by rw [ByteArray.toList_eq]; rfl
  have e3 : (Cu.mk p3).data.toList = p3 := rfl
  have e4 : (Cu.mk p4).toList = p4 := by rw [ByteArray.toList_eq]; rfl
  clear h1 h2 hP
  replace q0 : ((Cu.mk p0).toList == [61]) = true := by rw [e0, q0]; rfl
  replace q4 : ((Cu.mk p4).toList == [61]) = true := by rw [e4, q4]; rfl
  have cO := mkHid (fun X => specOf (Cu.mk p1) X (by omega))
  rw [e1] at cO
  generalize setFrom 0 (lower p1) = st at *
  have hst : (st == 0) = false := beq_eq_false_iff_ne.2 hz
  clear hz
  have hL : ((Cu.mk p2).toList == [66]) = true ∨ (((Cu.mk p2).toList == [66]) = false ∧ ((Cu.mk p2).toList == [98]) = true) := by
    rw [e2]
    rcases hb with h | h
    · exact .inl (by rw [h]; rfl)
    · exact .inr ⟨by rw [h]; decide, by rw [h]; rfl⟩
  clear hb
  have cU := mkHid (fun X => specUn (Cu.mk p3) X (by omega))
  rw [e3] at cU
  have hul := Pw.un64_len p3
  simp only [List.length_nil, Nat.zero_add] at z3
  have Hul := mkHid hul
  generalize Pu.un64 p3 = x at *
  clear e0 e1 e2 e3 e4 z1 zz1 zz3 hul hsz
  go_enter Tryz.func33, Tryz.ntmps33
  go_wp2_with fail
  refine (cB.out _).mono ?_
  rintro e X ⟨rfl, rfl⟩
  clear cB
  go_wp2_with fail
  refine (cE.out _).mono ?_
  rintro e X ⟨rfl, rfl⟩
  clear cE
  go_wp2_with fail
  rw [HW.out, HV.out]
  refine cC.out.mono ?_
  rintro e X ⟨y, rfl, hOX, hbX⟩
  clear cC
  have HOX := hOX
  have zX : g + 2 ≤ X.heap.size := by have := hbX.size; have := HZ.out; omega
  have n0X := (hbX.block g (by have := HZ.out; omega)).trans n0
  have n1X := (hbX.block (g + 1) (by have := HZ.out; omega)).trans n1
  have bX : Below g w X := bU.trans (hbX.mono (by have := HZ.out; omega))
  rcases HOX.out.2 with ⟨-, hx0⟩ | ⟨q, cap, cur, rfl, hq, hrow, -⟩
  · cases hx0
  have k0 : X.cell? ⟨q, 0, none⟩ = some (.string (Cu.mk p0)) := by have := World.ownsRow.cells HOX.out (g := q) rfl 0 (.string (Cu.mk p0)) rfl; exact this
  have k1 : X.cell? ⟨q, 1, none⟩ = some (.string (Cu.mk p1)) := by have := World.ownsRow.cells HOX.out (g := q) rfl 1 (.string (Cu.mk p1)) rfl; exact this
  have k2 : X.cell? ⟨q, 2, none⟩ = some (.string (Cu.mk p2)) := by have := World.ownsRow.cells HOX.out (g := q) rfl 2 (.string (Cu.mk p2)) rfl; exact this
  have k3 : X.cell? ⟨q, 3, none⟩ = some (.string (Cu.mk p3)) := by have := World.ownsRow.cells HOX.out (g := q) rfl 3 (.string (Cu.mk p3)) rfl; exact this
  have k4 : X.cell? ⟨q, 4, none⟩ = some (.string (Cu.mk p4)) := by have := World.ownsRow.cells HOX.out (g := q) rfl 4 (.string (Cu.mk p4)) rfl; exact this
  have hqX : q < X.heap.size := heap_lt hrow
  clear hrow HOX hOX
  simp only [List.map_cons, List.map_nil, List.length_cons, List.length_nil, Nat.zero_add, Nat.reduceAdd]
  go_wp2_with fail
  refine (cO.out _).mono ?_
  rintro e Y ⟨rfl, hbY⟩
  have n0Y := (hbY.block g (by omega)).trans n0X
  have n1Y := (hbY.block (g + 1) (by omega)).trans n1X
  have bY : Below g w Y := bX.trans (hbY.mono (by omega))
  have y2 := (hbY.cell (p := ⟨q, 2, none⟩) hqX).trans k2
  have y3 := (hbY.cell (p := ⟨q, 3, none⟩) hqX).trans k3
  have zY : g + 2 ≤ Y.heap.size := by have := hbY.size; omega
  clear k0 k1 k2 k3 k4 n0X n1X bX hbY hbX cO
  rcases hL with q5 | ⟨q5, q6⟩
  all_goals
    go_wp2_with fail
    refine (cU.out _).mono ?_
    rintro e Z ⟨rfl, hbZ⟩
    have n0Z := (hbZ.block g (by omega)).trans n0Y
    have n1Z := (hbZ.block (g + 1) (by omega)).trans n1Y
    have bZ : Below g w Z := bY.trans (hbZ.mono (by omega))
    have zZ : g + 2 ≤ Z.heap.size := by have := hbZ.size; omega
    clear cU hbZ y2 y3 n0Y n1Y bY
    cases x with
    | none =>
      unfold bytesV
      have n0A := (((Below.refl Z.heap.size Z).alloc (Nat.le_refl _) (.cells #[.bool false, .string ⟨#[]⟩] 31)).block g (by omega)).trans n0Z
      have n1A := (((Below.refl Z.heap.size Z).alloc (Nat.le_refl _) (.cells #[.bool false, .string ⟨#[]⟩] 31)).block (g + 1) (by omega)).trans n1Z
      have bA : Below g w (Z.alloc (.cells #[.bool false, .string ⟨#[]⟩] 31)) := bZ.alloc (by omega) _
      go_wp2_with (first | (refine wpL_store_row rfl 52 _ _ rfl g #[.bool false, .int .i64 0, .slice none 0 0] rfl rfl 52 _ n0A (by kernel_rfl) rfl (by simp [Value.oneCell']) ?_) | (refine wpL_load_row rfl 52 _ rfl (g + 1) _ 52 (0, 0) _ rfl n1A Tryz.underlying52 rfl (by kernel_rfl) ?_) | go_in)
      exact retWW (x := (none : Option (List UInt8)).bind (decA st)) _ rfl n0A bA rfl ⟨_, rfl⟩
    | some l =>
      have hl := Hul.out l rfl
      rw [show bytesV (some l) = .agg #[.bool true, .string ⟨l.toArray⟩] from rfl]
      obtain ⟨A, hA⟩ : ∃ A, Z.alloc (.cells #[.bool true, .string ⟨l.toArray⟩] 31) = A := ⟨_, rfl⟩
      have hbA : Below Z.heap.size Z A := by rw [← hA]; exact (Below.refl _ _).alloc (Nat.le_refl _) _
      have n0A := (hbA.block g (by omega)).trans n0Z
      have bA : Below g w A := bZ.trans (hbA.mono (by omega))
      have zA : g + 2 ≤ A.heap.size := by have := hbA.size; omega
      have cD := mkHid (specDecode st ⟨l.toArray⟩ A (by show l.toArray.size ≤ 100000; simp; omega))
      rw [show (⟨l.toArray⟩ : ByteArray).data.toList = l from rfl] at cD
      have HA := mkHid hA
      clear hA hbA n0Z n1Z bZ Hul
      go_wp2_with fail
      rw [HA.out]
      refine cD.out.mono ?_
      rintro e D ⟨hD, hbD⟩
      have n0D := (hbD.block g (by omega)).trans n0A
      have bD : Below g w D := bA.trans (hbD.mono (by omega))
      have hD2 := mkHid (decOut_set hD (show g < A.heap.size by omega) (show g ≤ A.heap.size by omega))
      obtain ⟨bg, i, o, n, c, rfl, HDV⟩ := dec_form hD
      clear cD hD hbD
      go_wp2_with (first | (refine wpL_store_row rfl 52 _ _ rfl g #[.bool bg, .int .i64 i, .slice o n c] rfl rfl 52 _ n0D (by kernel_rfl) rfl (by simp [Value.oneCell']) ?_) | go_in)
      exact retWW _ rfl n0D bD rfl (hD2.out _)
end Go.Proofs.YtajkahpkbeobaaaGreatDoor
namespace Go.Proofs.YtajkahpkbeobaaaGreatDoor
open Go.RowKit Go.Lib Go.Maps
set_option maxRecDepth 20000 in
theorem at_toNatW (T : ByteArray) (i : Int) (k : Nat) (hk : i.toNat = k) (h1 : i.toNat < T.size) (h2 : k < T.size) : T[i.toNat]'h1 = T[k]'h2 := by
  subst hk; rfl
set_option maxRecDepth 20000 in
theorem cell_freshW (w : World) (x : Value) (t : TypeId) : (w.drew.alloc (.cells #[x] t)).cell? ((⟨w.heap.size, 0, none⟩ : Addr).add 0) = some x := by
  show (w.drew.alloc (.cells #[x] t)).cell? ((⟨w.drew.heap.size, 0, none⟩ : Addr).add 0) = some x
  have h := heap_alloc_at w.drew (.cells #[x] t)
  rw [add_off]
  generalize w.drew.alloc (.cells #[x] t) = V at h ⊢
  generalize w.drew.heap.size = n at h ⊢
  simp [World.cell?, h]
set_option maxRecDepth 40000 in
set_option maxHeartbeats 8000000 in
theorem specWordQ (s : ByteArray) (w : World) (p0 p1 p2 p3 p4 : List UInt8) (hs : s.size ≤ 75) (h1 : hasPrefix s.data.toList [61, 63] = true) (h2 : hasSuffix s.data.toList [63, 61] = true) (hP : Cu.cut 63 [] s.data.toList = [p0, p1, p2, p3, p4]) (q0 : p0 = [61]) (q4 : p4 = [61]) (hz : setFrom 0 (lower p1) ≠ 0) (hb : ¬ (p2 = [66] ∨ p2 = [98])) (hqq : p2 = [81] ∨ p2 = [113]) :
    Calls Tryz.prog 33 #[.string s] w fun e w' => DecOut w.heap.size ((Pw.wq [] p3).bind (decA (setFrom 0 (lower p1)))) e w' ∧ Below w.heap.size w w' := by
  obtain ⟨g, hg⟩ : ∃ g, w.heap.size = g := ⟨_, rfl⟩
  rw [hg]
  obtain ⟨W, hW⟩ : ∃ W, w.alloc (.cells #[.bool false, .int .i64 0, .slice none 0 0] 52) = W := ⟨_, rfl⟩
  have zW : W.heap.size = g + 1 := by rw [← hW, World.size_alloc, hg]
  have r0 : W.heap[g]? = some (.cells #[.bool false, .int .i64 0, .slice none 0 0] 52 (0, 0)) := by rw [← hW, ← hg]; exact heap_allocS _ _
  have bW : Below g w W := by rw [← hW]; exact (Below.refl _ _).alloc (by omega) _
  obtain ⟨V, hV⟩ : ∃ V, W.alloc (.cells #[.bool false, .int .i64 0, .slice none 0 0] 52) = V := ⟨_, rfl⟩
  have zV : V.heap.size = g + 2 := by rw [← hV, World.size_alloc, zW]
  have r1 : V.heap[g + 1]? = some (.cells #[.bool false, .int .i64 0, .slice none 0 0] 52 (0, 0)) := by rw [← hV, ← zW]; exact heap_allocS _ _
  have bV1 : Below (g + 1) W V := by rw [← hV]; exact (Below.refl _ _).alloc (by omega) _
  have n1 := r1
  have n0 : V.heap[g]? = some (.cells #[.bool false, .int .i64 0, .slice none 0 0] 52 (0, 0)) := (bV1.block g (by omega)).trans r0
  have bU : Below g w V := bW.trans (bV1.mono (by omega))
  have HW := mkHid hW
  have HV := mkHid hV
  have HZ := mkHid zV
  have HG := mkHid hg
  clear r0 r1 bW bV1 hW hV zV zW
  have cB := mkHid (fun X => specBeginsW s X)
  have cE := mkHid (fun X => specEndsW s X (by omega))
  have h7 : ¬ (75 : Int) < (s.size : Int) := by omega
  rw [h1] at cB
  rw [h2] at cE
  have cC := mkHid (specCut s 63 V (by omega))
  have hsz := Cu.cut_mem 63 s.data.toList []
  have hll : s.data.toList.length = s.size := by simp
  rw [hP] at cC hsz
  have z1 := hsz p1 (by simp)
  have z3 := hsz p3 (by simp)
  have zz1 : (Cu.mk p1).size ≤ 75 := by show p1.toArray.size ≤ 75; simp at z1 ⊢; omega
  have zz3 : (Cu.mk p3).size ≤ 75 := by show p3.toArray.size ≤ 75; simp at z3 ⊢; omega
  have e0 : (Cu.mk p0).toList = p0 := by rw [ByteArray.toList_eq]; rfl
  have e1 : (Cu.mk p1).data.toList = p1 := rfl
  have e2 : (Cu.mk p2).toList = p2 := by rw [ByteArray.toList_eq]; rfl
  have e3 : (Cu.mk p3).data.toList = p3 := rfl
  have e4 : (Cu.mk p4).toList = p4 := by rw [ByteArray.toList_eq]; rfl
  clear h1 h2 hP
  replace q0 : ((Cu.mk p0).toList == [61]) = true := by rw [e0, q0]; rfl
  replace q4 : ((Cu.mk p4).toList == [61]) = true := by rw [e4, q4]; rfl
  have cO := mkHid (fun X => specOf (Cu.mk p1) X (by omega))
  rw [e1] at cO
  generalize setFrom 0 (lower p1) = st at *
  have hst : (st == 0) = false := beq_eq_false_iff_ne.2 hz
  clear hz
  have b1 : ((Cu.mk p2).toList == [66]) = false := by rw [e2]; exact beq_eq_false_iff_ne.2 (fun h => hb (.inl h))
  have b2 : ((Cu.mk p2).toList == [98]) = false := by rw [e2]; exact beq_eq_false_iff_ne.2 (fun h => hb (.inr h))
  have hL : ((Cu.mk p2).toList == [81]) = true ∨ (((Cu.mk p2).toList == [81]) = false ∧ ((Cu.mk p2).toList == [113]) = true) := by
    rw [e2]
    rcases hqq with h | h
    · exact .inl (by rw [h]; rfl)
    · exact .inr ⟨by rw [h]; decide, by rw [h]; rfl⟩
  obtain ⟨i0, hi, hy0, hy1, hy2⟩ := info_parts Tryz.info5
  clear hb hqq e0 e1 e2 e4 z1 z3 zz1 hsz
  obtain ⟨x, hx⟩ : ∃ x, Pw.wq [] p3 = x := ⟨_, rfl⟩
  rw [hx]
  have HXp := mkHid hx
  clear hx
  go_enter Tryz.func33, Tryz.ntmps33
  go_wp2_with fail
  refine (cB.out _).mono ?_
  rintro e X ⟨rfl, rfl⟩
  clear cB
  go_wp2_with fail
  refine (cE.out _).mono ?_
  rintro e X ⟨rfl, rfl⟩
  clear cE
  go_wp2_with fail
  rw [HW.out, HV.out]
  refine cC.out.mono ?_
  rintro e X ⟨y, rfl, hOX, hbX⟩
  clear cC
  have HOX := hOX
  have zX : g + 2 ≤ X.heap.size := by have := hbX.size; have := HZ.out; omega
  have n0X := (hbX.block g (by have := HZ.out; omega)).trans n0
  have n1X := (hbX.block (g + 1) (by have := HZ.out; omega)).trans n1
  have bX : Below g w X := bU.trans (hbX.mono (by have := HZ.out; omega))
  rcases HOX.out.2 with ⟨-, hx0⟩ | ⟨q, cap, cur, rfl, hq, hrow, -⟩
  · cases hx0
  have k0 : X.cell? ⟨q, 0, none⟩ = some (.string (Cu.mk p0)) := by have := World.ownsRow.cells HOX.out (g := q) rfl 0 (.string (Cu.mk p0)) rfl; exact this
  have k1 : X.cell? ⟨q, 1, none⟩ = some (.string (Cu.mk p1)) := by have := World.ownsRow.cells HOX.out (g := q) rfl 1 (.string (Cu.mk p1)) rfl; exact this
  have k2 : X.cell? ⟨q, 2, none⟩ = some (.string (Cu.mk p2)) := by have := World.ownsRow.cells HOX.out (g := q) rfl 2 (.string (Cu.mk p2)) rfl; exact this
  have k3 : X.cell? ⟨q, 3, none⟩ = some (.string (Cu.mk p3)) := by have := World.ownsRow.cells HOX.out (g := q) rfl 3 (.string (Cu.mk p3)) rfl; exact this
  have k4 : X.cell? ⟨q, 4, none⟩ = some (.string (Cu.mk p4)) := by have := World.ownsRow.cells HOX.out (g := q) rfl 4 (.string (Cu.mk p4)) rfl; exact this
  have hqX : q < X.heap.size := heap_lt hrow
  clear hrow HOX hOX
  simp only [List.map_cons, List.map_nil, List.length_cons, List.length_nil, Nat.zero_add, Nat.reduceAdd]
  go_wp2_with fail
  refine (cO.out _).mono ?_
  rintro e Y ⟨rfl, hbY⟩
  have n0Y := (hbY.block g (by omega)).trans n0X
  have n1Y := (hbY.block (g + 1) (by omega)).trans n1X
  have bY : Below g w Y := bX.trans (hbY.mono (by omega))
  have y2 := (hbY.cell (p := ⟨q, 2, none⟩) hqX).trans k2
  have y3 := (hbY.cell (p := ⟨q, 3, none⟩) hqX).trans k3
  have zY : g + 2 ≤ Y.heap.size := by have := hbY.size; omega
  clear k0 k1 k2 k3 k4 n0X n1X bX hbY hbX cO
  obtain ⟨T, hTm⟩ : ∃ T, Cu.mk p3 = T := ⟨_, rfl⟩
  rw [hTm] at y3 e3 zz3
  have hTl : T.data.toList.length = T.size := by simp
  have HXq : Hid (Pw.wq [] T.data.toList = x) := mkHid (by rw [e3]; exact HXp.out)
  clear hTm e3 HXp
  have HN0 := mkHid n0Y
  have HN1 := mkHid n1Y
  have HbY := mkHid bY
  have hown0 : Own Y.heap.size (.slice (some ⟨Y.heap.size, 0, none⟩) 0 0) [] (Y.alloc (.cells #[] 5)) := Own.made _ _ (Nat.le_refl _)
  have hb0 : Below Y.heap.size Y (Y.alloc (.cells #[] 5)) := (Below.refl _ _).alloc (Nat.le_refl _) _
  clear n0Y n1Y bY
  rcases hL with q5 | ⟨q5, q6⟩
  all_goals
    go_wp2
    go_loopw [8, 9] (fun v iv wr => ∃ (n : Nat) (q : List UInt8), n ≤ T.size ∧ iv = .int .i64 n ∧ q.length ≤ n ∧ Hid (Pw.wq q (T.data.toList.drop n) = x) ∧ Own Y.heap.size v q wr ∧ Below Y.heap.size Y wr) (fun _ iv _ => T.size - (Lib.intOf iv).toNat)
    case atStart => exact ⟨0, [], Nat.zero_le _, rfl, Nat.zero_le _, HXq, hown0, hb0⟩
    case round =>
      obtain ⟨n, p, hn, rfl, hpl, Hp, hown, hb⟩ := hrel
      clear hown0 hb0 HXq
      have n0R := (hb.block g (by omega)).trans HN0.out
      have n1R := (hb.block (g + 1) (by omega)).trans HN1.out
      have bR : Below g w wr := HbY.out.trans (hb.mono (by omega))
      have zR : Y.heap.size ≤ wr.heap.size := hb.size
      by_cases hlt : n < T.size
      · have hlt2 : n < T.data.toList.length := by omega
        have hat : T.data.toList[n]'hlt2 = T[n] := Pl.at_list T n hlt
        have h8 : T[n].toNat < 256 := UInt8.toNat_lt _
        by_cases c95 : T[n] = 95
        · have Hn := mkHid (Pw.wq_und hlt2 (hat.trans c95) Hp.out)
          have ci : (T[n].toNat : Int) = 95 := by rw [c95]; rfl
          clear Hp hat c95
          go_wp2_with (at_builtin; go_must (refine wp_app (W := Y) rfl _ _ 35 rfl i0 Tryz.underlying35 hi hy0 hy1 hy2 Y.heap.size u8 p rfl hown _ [32] (by simp [byteCells]) 1 1 rfl rfl (by simp; omega) (Nat.le_refl _) hb ?_; intro v3 w3 hown3 hb3))
          go_roundw
          case rel => exact ⟨n + 1, _, by omega, by go_num, by simp; omega, Hn, hown3, hb3⟩
          case measure => simp [Lib.intOf]; omega
        · by_cases c61 : T[n] = 61
          · have ci : (T[n].toNat : Int) = 61 := by rw [c61]; rfl
            have hbad := fun h => Pw.wq_bad hlt2 (hat.trans c61) h Hp.out
            have hhex := fun m h => Pw.wq_hex (n := m) hlt2 (hat.trans c61) h Hp.out
            clear hat c95 c61 Hp
            by_cases hroom : n + 2 < T.size
            · have hA := fun w => specHex (T[n + 1]'(by omega)) w
              have hBx := fun w => specHex (T[n + 2]'(by omega)) w
              have hx2 := Pl.hex2_at T.data.toList n (by omega)
              rw [Pl.at_list T (n + 1) (by omega), Pl.at_list T (n + 2) hroom] at hx2
              have hlt3 : n + 1 < T.size := by omega
              generalize haq : T[n + 1]'(by omega) = a at *
              generalize hbq2 : T[n + 2]'(by omega) = b at *
              cases hva : Pl.hexV a with
              | none =>
                have hE3 := mkHid (hbad (by rw [hx2, hva]))
                rw [Pl.hexI_none hva] at hA
                clear hbad hhex hx2 hva hBx
                have hx0 := hE3.out
                subst hx0
                go_wp2_with fail
                refine (hA _).mono ?_
                rintro e w3 ⟨rfl, rfl⟩
                go_wp2_with (first | (refine wpL_store_row rfl 52 _ _ rfl g #[.bool false, .int .i64 0, .slice none 0 0] rfl rfl 52 _ n0R (by kernel_rfl) rfl (by simp [Value.oneCell']) ?_) | (refine wpL_load_row rfl 52 _ rfl (g + 1) _ 52 (0, 0) _ rfl n1R Tryz.underlying52 rfl (by kernel_rfl) ?_) | go_in)
                exact retWW (x := (none : Option (List UInt8)).bind (decA st)) _ rfl n0R bR rfl ⟨_, rfl⟩
              | some d =>
                have hd16 := Pl.hexV_lt hva
                rw [Pl.hexI_some hva] at hA
                cases hvb : Pl.hexV b with
                | none =>
                  have hE3 := mkHid (hbad (by rw [hx2, hva, hvb]))
                  rw [Pl.hexI_none hvb] at hBx
                  clear hbad hhex hx2 hva hvb
                  have hx0 := hE3.out
                  subst hx0
                  go_wp2_with fail
                  refine (hA _).mono ?_
                  rintro e w3 ⟨rfl, rfl⟩
                  go_wp2_with fail
                  refine (hBx _).mono ?_
                  rintro e w3 ⟨rfl, rfl⟩
                  go_wp2_with (first | (refine wpL_store_row rfl 52 _ _ rfl g #[.bool false, .int .i64 0, .slice none 0 0] rfl rfl 52 _ n0R (by kernel_rfl) rfl (by simp [Value.oneCell']) ?_) | (refine wpL_load_row rfl 52 _ rfl (g + 1) _ 52 (0, 0) _ rfl n1R Tryz.underlying52 rfl (by kernel_rfl) ?_) | go_in)
                  exact retWW (x := (none : Option (List UInt8)).bind (decA st)) _ rfl n0R bR rfl ⟨_, rfl⟩
                | some e2 =>
                  have he16 := Pl.hexV_lt hvb
                  rw [Pl.hexI_some hvb] at hBx
                  have hE3 := mkHid (hhex (d * 16 + e2) (by rw [hx2, hva, hvb]))
                  clear hbad hhex hx2 hva hvb
                  go_wp2_with fail
                  refine (hA _).mono ?_
                  rintro e w3 ⟨rfl, rfl⟩
                  go_wp2_with fail
                  refine (hBx _).mono ?_
                  rintro e w3 ⟨rfl, rfl⟩
                  go_wp2_with fail
                  have hnum : IntKind.i64.wrap ((d : Int) * 16) = (d : Int) * 16 := by rw [IntKind.wrap_i64]; omega
                  have hnum2 : IntKind.i64.wrap ((d : Int) * 16 + (e2 : Int)) = (d : Int) * 16 + (e2 : Int) := by rw [IntKind.wrap_i64]; omega
                  have hnum3 : IntKind.i64.wrap ((n : Int) + 1) = (n : Int) + 1 := by rw [IntKind.wrap_i64]; omega
                  have hnum4 : IntKind.i64.wrap ((n : Int) + 2) = (n : Int) + 2 := by rw [IntKind.wrap_i64]; omega
                  have hnum5 : IntKind.u8.wrap ((d : Int) * 16 + (e2 : Int)) = (d : Int) * 16 + (e2 : Int) := by unfold IntKind.wrap; simp [IntKind.bits, IntKind.signed]; omega
                  have hidx2 : ∀ h, T[((n : Int) + 2).toNat]'h = b := fun h => (at_toNatW T _ (n + 2) (by omega) h hroom).trans hbq2
                  have hcf := cell_freshW w3 (.int .u8 ((d : Int) * 16 + (e2 : Int))) 5
                  refine wp_region_any (by kernel_rfl) ?_
                  refine wpAny_take (i := 0) (v := u8) rfl (by kernel_rfl) (by kernel_rfl) (by kernel_rfl) (fun _ _ _ h => h) (Or.inl ⟨by rfl, ?_⟩) ?_
                  · intro w
                    go_simp
                  go_simp
                  refine wpAny_take (i := 1) (v := .string T) rfl (by kernel_rfl) (by kernel_rfl) (by kernel_rfl) (fun _ _ _ h => h) (Or.inl ⟨by rfl, ?_⟩) ?_
                  · intro w
                    go_simp
                  go_simp
                  refine wpAny_take (i := 2) (v := .int .i64 n) rfl (by kernel_rfl) (by kernel_rfl) (by kernel_rfl) (fun _ _ _ h => h) (Or.inl ⟨by rfl, ?_⟩) ?_
                  · intro w
                    go_simp
                  go_simp
                  refine wpAny_take (i := 3) (v := .int .i64 ((n : Int) + 1)) rfl (by kernel_rfl) (by kernel_rfl) (by kernel_rfl) (fun _ _ _ h => h) (Or.inl ⟨by rfl, ?_⟩) ?_
                  · intro w
                    go_simp
                  go_simp
                  refine wpAny_take (i := 4) (v := .int .u8 (a.toNat : Int)) rfl (by kernel_rfl) (by kernel_rfl) (by kernel_rfl) (fun _ _ _ h => h) (Or.inl ⟨by rfl, ?_⟩) ?_
                  · intro w
                    go_simp
                  go_simp
                  refine wpAny_take (i := 7) (v := .string T) rfl (by kernel_rfl) (by kernel_rfl) (by kernel_rfl) (fun _ _ _ h => h) (Or.inl ⟨by rfl, ?_⟩) ?_
                  · intro w
                    go_simp
                  go_simp
                  refine wpAny_take (i := 8) (v := .int .i64 n) rfl (by kernel_rfl) (by kernel_rfl) (by kernel_rfl) (fun _ _ _ h => h) (Or.inl ⟨by rfl, ?_⟩) ?_
                  · intro w
                    go_simp
                  go_simp
                  refine wpAny_take (i := 9) (v := .int .i64 ((n : Int) + 2)) rfl (by kernel_rfl) (by kernel_rfl) (by kernel_rfl) (fun _ _ _ h => h) (Or.inl ⟨by rfl, ?_⟩) ?_
                  · intro w
                    go_simp
                  go_simp
                  refine wpAny_take (i := 10) (v := .int .u8 (b.toNat : Int)) rfl (by kernel_rfl) (by kernel_rfl) (by kernel_rfl) (fun _ _ _ h => h) (Or.inl ⟨by rfl, ?_⟩) ?_
                  · intro w
                    go_simp
                  go_simp
                  refine wpAny_ready (rs := [5]) (by kernel_rfl) (by simp) ?_
                  refine AllReady.cons rfl (fun K hK => ?_) AllReady.nil
                  go_simp
                  go_wp2_with fail
                  refine (hA _).mono ?_
                  rintro e w4 ⟨rfl, rfl⟩
                  show K _ _
                  refine hK _ _ ?_
                  clear hK K
                  go_simp
                  refine wpAny_take (i := 6) (v := .int .i64 ((d : Int) * 16)) rfl (by kernel_rfl) (by kernel_rfl) (by kernel_rfl) (fun _ _ _ h => h) (Or.inl ⟨by rfl, ?_⟩) ?_
                  · intro w
                    go_simp
                  go_simp
                  refine wpAny_ready (rs := [11]) (by kernel_rfl) (by simp) ?_
                  refine AllReady.cons rfl (fun K hK => ?_) AllReady.nil
                  go_simp
                  go_wp2_with fail
                  refine (hBx _).mono ?_
                  rintro e w4 ⟨rfl, rfl⟩
                  show K _ _
                  refine hK _ _ ?_
                  clear hK K
                  go_simp
                  refine wpAny_take (i := 12) (v := .int .i64 ((d : Int) * 16 + (e2 : Int))) rfl (by kernel_rfl) (by kernel_rfl) (by kernel_rfl) (fun _ _ _ h => h) (Or.inl ⟨by rfl, ?_⟩) ?_
                  · intro w
                    go_simp
                  go_simp
                  refine wpAny_take (i := 13) (v := .int .u8 ((d : Int) * 16 + (e2 : Int))) rfl (by kernel_rfl) (by kernel_rfl) (by kernel_rfl) (fun _ _ _ h => h) (Or.inl ⟨by rfl, ?_⟩) ?_
                  · intro w
                    go_simp
                  go_simp
                  refine wpAny_ready (rs := [14]) (by kernel_rfl) (by simp) ?_
                  refine AllReady.cons rfl (fun K hK => ?_) AllReady.nil
                  go_simp
                  refine hK _ _ ?_
                  clear hK K
                  go_simp
                  refine wpAny_ready (rs := [15]) (by kernel_rfl) (by simp) ?_
                  refine AllReady.cons rfl (fun K hK => ?_) AllReady.nil
                  refine wp_append_own _ _ _ 35 rfl Y.heap.size 5 i0 (.int .u8 0) 1 1 Tryz.underlying35 hi hy0 hy1 hy2 rfl (by decide) u8 p.length (byteCells p) rfl (World.ownsRow.alloc (World.ownsRow.drew hown) _) ⟨w3.heap.size, 0, none⟩ 1 1 [.int .u8 ((d : Int) * 16 + (e2 : Int))] rfl rfl (by intro j u hj; match j, hj with | 0, hj => cases hj; exact hcf) (by intro u hu; simp at hu; subst hu; rfl) (by unfold maxLen; omega) (by omega) (by simp; omega) ?_
                  intro v5 w5 ho5 hg5 _
                  refine hK _ _ ?_
                  clear hK K
                  go_simp
                  refine wpAny_take (i := 16) (v := v5) rfl (by kernel_rfl) (by kernel_rfl) (by kernel_rfl) (fun _ _ _ h => h) (Or.inl ⟨by rfl, ?_⟩) ?_
                  · intro w
                    go_simp
                  go_simp
                  refine wpAny_done (by kernel_rfl) ?_ _
                  have hown5 : Own Y.heap.size v5 (p ++ [UInt8.ofNat (d * 16 + e2)]) w5 := by
                    unfold Own
                    rw [byteCells_append, List.length_append]
                    rw [show byteCells [UInt8.ofNat (d * 16 + e2)] = [.int .u8 ((d : Int) * 16 + (e2 : Int))] by simp [byteCells]; omega]
                    exact ho5
                  have hb5 : Below Y.heap.size Y w5 := (hb.drew.alloc (by simp; omega) _).grown hg5 (by simp; omega) (fun k hk => (World.ownsRow.lt hown k hk).1)
                  clear ho5 hg5
                  go_wp2
                  go_roundw
                  case rel => exact ⟨n + 3, _, by omega, by go_num, by simp; omega, hE3, hown5, hb5⟩
                  case measure => simp [Lib.intOf]; omega
            · have hE3 := mkHid (hbad (Pl.hex2_short (by rw [List.length_drop]; omega)))
              have hroom2 : (T.size : Int) ≤ (n : Int) + 2 := by omega
              clear hbad hhex
              have hx0 := hE3.out
              subst hx0
              go_wp2_with (first | (refine wpL_store_row rfl 52 _ _ rfl g #[.bool false, .int .i64 0, .slice none 0 0] rfl rfl 52 _ n0R (by kernel_rfl) rfl (by simp [Value.oneCell']) ?_) | (refine wpL_load_row rfl 52 _ rfl (g + 1) _ 52 (0, 0) _ rfl n1R Tryz.underlying52 rfl (by kernel_rfl) ?_) | go_in)
              exact retWW (x := (none : Option (List UInt8)).bind (decA st)) _ rfl n0R bR rfl ⟨_, rfl⟩
          · have Hn := mkHid (Pw.wq_plain hlt2 (by rw [hat]; exact c95) (by rw [hat]; exact c61) Hp.out)
            rw [hat] at Hn
            have ci : ¬ (T[n].toNat : Int) = 61 := fun h => c61 (UInt8.toNat_inj.1 (by simpa using (by omega : T[n].toNat = 61)))
            have ci2 : ¬ (T[n].toNat : Int) = 95 := fun h => c95 (UInt8.toNat_inj.1 (by simpa using (by omega : T[n].toNat = 95)))
            clear Hp hat c95 c61
            go_wp2_with (at_builtin; go_must (refine wp_app (W := Y) rfl _ _ 35 rfl i0 Tryz.underlying35 hi hy0 hy1 hy2 Y.heap.size u8 p rfl hown _ [T[n]] (by simp [byteCells]) 1 1 rfl rfl (by simp; omega) (Nat.le_refl _) hb ?_; intro v3 w3 hown3 hb3))
            go_roundw
            case rel => exact ⟨n + 1, _, by omega, by go_num, by simp; omega, Hn, hown3, hb3⟩
            case measure => simp [Lib.intOf]; omega
      · have Hd := mkHid (Pw.wq_done (by omega) Hp.out)
        have hbk := hown.back (P := Tryz.prog) 35 9 Tryz.underlying35 Tryz.underlying5 Tryz.underlying9
        have n0A := n0R
        have bA := bR
        have zA : g + 2 ≤ wr.heap.size := by omega
        have cD := mkHid (specDecode st ⟨p.toArray⟩ wr (by show p.toArray.size ≤ 100000; simp; omega))
        rw [show (⟨p.toArray⟩ : ByteArray).data.toList = p from rfl] at cD
        have hx0 := Hd.out
        subst hx0
        go_wp2_with fail
        refine cD.out.mono ?_
        rintro e D ⟨hD, hbD⟩
        have n0D := (hbD.block g (by omega)).trans n0A
        have bD : Below g w D := bA.trans (hbD.mono (by omega))
        have hD2 := mkHid (decOut_set hD (show g < wr.heap.size by omega) (show g ≤ wr.heap.size by omega))
        obtain ⟨bg, i, o, n, c, rfl, HDV⟩ := dec_form hD
        clear cD hD hbD
        go_wp2_with (first | (refine wpL_store_row rfl 52 _ _ rfl g #[.bool bg, .int .i64 i, .slice o n c] rfl rfl 52 _ n0D (by kernel_rfl) rfl (by simp [Value.oneCell']) ?_) | go_in)
        exact retWW _ rfl n0D bD rfl (hD2.out _)
end Go.Proofs.YtajkahpkbeobaaaGreatDoor
namespace Go.Proofs.YtajkahpkbeobaaaGreatDoor
open Go.RowKit Go.Lib Go.Maps
set_option maxRecDepth 20000 in
theorem run_append_noneN {w : World} (base : Nat) (t ty e : TypeId) (i : TypeInfo) (size c : Nat) (ht : Tryz.prog.underlying t = some (.slice e)) (hi : Tryz.prog.info? e = some i)
    (v : Value) (n : Nat) (xs : List Value) (hown : w.ownsRow base e size v n xs) :
    (Builtin.append_ #[t, t] ty #[v, .slice none 0 c]).run Tryz.prog w = .ok v w := by
  rcases hown.2 with ⟨rfl, rfl⟩ | ⟨g, cap, cur, rfl, _, _, hnc, _⟩
  · simp [Builtin.append_, run_underlying ht, sizeOf, typeInfo, hi, Builtin.lenOf, Builtin.firstCells]
  · simp [Builtin.append_, run_underlying ht, sizeOf, typeInfo, hi, Builtin.lenOf, Builtin.firstCells, hnc, storeCells]
set_option maxRecDepth 20000 in
theorem wp_appNs {w : World} {ops : Array Oper} {rest : List Oper} {o : Oper} {a : Act} {Q : Exit → Act → World → Prop} (hgd : o.guard = none) (s x : Operand)
    (ho : o.op = .call { callee := .builtin .append, args := #[s, x], argTypes := #[33, 33] })
    (B : Nat) (v : Value) (C : List Int) (hs : a.eval s = v) (hown : OwnN B v C w) (o' : Option Addr) (P : List Int) (c lo : Nat) (hx : a.eval x = .slice o' P.length c) (hT : InL lo w.heap.size w o' P)
    (hlen : C.length + P.length ≤ 3000000) (hB : B ≤ w.heap.size)
    (h : ∀ v' w', OwnN B v' (C ++ P) w' → w.grownBy w' v.ownBlock → (v'.ownBlock = v.ownBlock ∨ v'.ownBlock = some w.heap.size) → wpList Tryz.prog ops Q rest (a.put o.dst v') w') : wpList Tryz.prog ops Q (o :: rest) a w := by
  refine wpList_plain hgd fun K hK => ?_
  obtain ⟨i0, hi0, hz0, hz1, hz2⟩ := info_parts Tryz.info2
  have key : ∃ v' w', (Builtin.append_ #[33, 33] o.type #[v, .slice o' P.length c]).run Tryz.prog w = .ok v' w' ∧ OwnN B v' (C ++ P) w' ∧ w.grownBy w' v.ownBlock ∧ (v'.ownBlock = v.ownBlock ∨ v'.ownBlock = some w.heap.size) := by
    cases o' with
    | none =>
      have hP : P = [] := by
        cases P with
        | nil => rfl
        | cons y t => obtain ⟨a, h1, -⟩ := hT 0 (by simp); cases h1
      subst hP
      refine ⟨v, w, run_append_noneN B _ _ 2 i0 1 c Tryz.underlying33 hi0 v C.length (numCells C) hown, ?_, ⟨rfl, rfl, rfl, Nat.le_refl _, fun _ _ _ => rfl⟩, .inl rfl⟩
      rw [List.append_nil]
      exact hown
    | some ad =>
      unfold OwnN at hown
      obtain ⟨v', w', hr, h2, h3, h4, h5⟩ := run_append_own_at (P := Tryz.prog) w B 33 o.type 2 i0 (.int .i64 0) 1 8 Tryz.underlying33 hi0 hz0 hz1 hz2 rfl (by decide) v C.length (numCells C) hown ad P.length c (numCells P) (by simp [numCells]) (by
        intro j y hj
        have hj' : j < P.length := by
          by_cases h : j < P.length
          · exact h
          · rw [List.getElem?_eq_none (by simp [numCells]; omega)] at hj
            cases hj
        obtain ⟨a, h1, -, -, h2⟩ := hT j hj'
        cases h1
        rw [h2]
        simp only [numCells, List.getElem?_map, List.getElem?_eq_getElem hj', Option.map_some, Option.some.injEq] at hj
        rw [hj]) (by
        intro y hy
        simp only [numCells, List.mem_map] at hy
        obtain ⟨z, -, rfl⟩ := hy
        rfl) (by unfold maxLen; omega) (by omega) hB
      refine ⟨v', w', hr, ?_, h3, h5⟩
      unfold OwnN numCells
      rw [List.map_append, List.length_append]
      exact h2
  obtain ⟨v', w', hr, h2, h3, h5⟩ := key
  unfold Oper.wp execOp
  simp only [ho, resolve, invoke, builtin, Sem.run_bind, Sem.run_pure, Result.andThen_ok, List.map_toArray, List.map_cons, List.map_nil, hs, hx, hr]
  exact hK _ _ (h v' w' h2 h3 h5)
end Go.Proofs.YtajkahpkbeobaaaGreatDoor
