
/- The law on ReadFilter. -/

/- FnExactReadFilter: its row, its tied card. -/
import Derived.Test.YtlphojaeaogehaaGreatDoorRpTop
import Derived.Test.YtlphojaeaogehaaGreatDoorTreeLaw
import Derived.Test.YtlphojaeaogehaaGreatDoorRows
import Derived.Test.YtlphojaeaogehaaGreatDoorTie
import Derived.Test.YtlphojaeaogehaaGreatDoorCards
import Derived.WalkKit
import Derived.ProofKit
import Derived.OpenShut
import Derived.ShutString
import Derived.ChangeOld
import Derived.Below
import Derived.Handed
import Derived.Lay
import Derived.LaidMore
import Derived.LaidSub
import Derived.Stop.Joined
import Derived.SevenTiedAt
import Derived.Lib.LaidTab
import Derived.Carry
import Derived.LaidLaws
import Derived.ChangeArms
import Derived.ChangeSame
namespace Go.Proofs.YtlphojaeaogehaaGreatDoor
open Go.RowKit Go.Lib Go.Maps
/-- What both answer. -/
def Rf.told (s : ByteArray) : Int × Nat × List Nd := if 10000 < s.size then (2, 0, []) else Rf.ans s.data.toList
set_option maxRecDepth 20000 in
theorem told_small (s : ByteArray) : (Rf.told s).2.2.length ≤ 2000 ∧ ∀ n ∈ (Rf.told s).2.2, n.fits 1048576 := by
  unfold Rf.told
  split
  · exact ⟨by simp, fun n h => by simp at h⟩
  · rename_i hs
    have hn : s.data.toList.length = s.size := by simp
    obtain ⟨l, hl⟩ : ∃ l, s.data.toList = l := ⟨_, rfl⟩
    rw [hl] at hn ⊢
    unfold Rf.ans
    obtain ⟨h1, h2⟩ := Rf.tk_one l
    have hsm := tks_small l (by omega)
    cases hR : Rf.script (Rf.tk l) with
    | bad j => exact ⟨by simp [Rf.fin], fun n h => by simp [Rf.fin] at h⟩
    | ok j N =>
      obtain ⟨hg, -⟩ := Rf.script_ok hsm hR
      obtain ⟨hf, -⟩ := good_fits hg (by omega)
      cases hy : (N.any Rf.long || (decide (2000 < N.length) || decide (20 < Tr.depTo (Fn.kids N) N.length (N.length - 1)))) with
      | true => rw [Rf.fin_bad hy]; exact ⟨by simp, fun n h => by simp at h⟩
      | false =>
        rw [Rf.fin_ok hy]
        simp only [Bool.or_eq_false_iff, decide_eq_false_iff_not] at hy
        exact ⟨by have := hy.2.1; dsimp only; omega, hf⟩
/-- A tree that was answered: its list has its own memory. -/
def TrO (z : Int × Nat × List Nd) (w : World) (e : Ending) (w' : World) : Prop := ∃ o cap E, e = .returned (trV z.1 (z.2.1 : Int) o z.2.2.length cap) ∧ Nt w.heap.size (.slice o z.2.2.length cap) E w' ∧ E.map (·.1) = z.2.2 ∧ E.length = z.2.2.length ∧ Below w.heap.size w w'
set_option maxRecDepth 20000 in
theorem TrO.mk {z : Int × Nat × List Nd} {w : World} {e : Ending} {w' : World} (h : ∃ v E, e = .returned (.agg #[.int .i64 z.1, .int .i64 (z.2.1 : Int), v]) ∧ Nt w.heap.size v E w' ∧ E.map (·.1) = z.2.2 ∧ Below w.heap.size w w') : TrO z w e w' := by
  obtain ⟨v, E, rfl, hN, hE, hb⟩ := h
  obtain ⟨o, cap, hv⟩ := hN.shape
  have hl : E.length = z.2.2.length := by rw [← hE, List.length_map]
  rw [hl] at hv
  subst hv
  exact ⟨o, cap, E, rfl, hN, hE, hl, hb⟩
set_option maxRecDepth 20000 in
theorem specTold (s : ByteArray) (w : World) : Calls Tryz.prog 4 #[.string s] w fun e w' => TrO (Rf.told s) w e w' := by
  unfold Rf.told
  by_cases hs : 10000 < s.size
  · rw [if_pos hs]
    refine (specReadBig s w hs).mono ?_
    rintro e w' ⟨rfl, hb⟩
    exact TrO.mk ⟨_, [], rfl, Nt.nil _ _, rfl, hb⟩
  · rw [if_neg hs]
    exact (specReadF s w (by omega)).mono fun e w' h => TrO.mk h
set_option maxRecDepth 20000 in
theorem implTold (s : ByteArray) (w : World) (hF : FTab w) (hM : MTab w) (hE : Er w) : Calls Tryz.prog 5 #[.string s] w fun e w' => TrO (Rf.told s) w e w' := by
  unfold Rf.told
  by_cases hs : 10000 < s.size
  · rw [if_pos hs]
    refine (implReadBig s w hs).mono ?_
    rintro e w' ⟨rfl, hb⟩
    exact TrO.mk ⟨_, [], rfl, Nt.nil _ _, rfl, hb⟩
  · rw [if_neg hs]
    exact (implReadF s w (by omega) hF hM hE).mono fun e w' h => TrO.mk h
set_option maxRecDepth 20000 in
theorem Nt.ndsN {B : Nat} {o : Option Addr} {n cap : Nat} {E : List NdE} {F : List Nd} {w w' : World} (h : Nt B (.slice o n cap) E w) (hE : E.map (·.1) = F) (hb : Below w.heap.size w w') : Nds w'.heap.size w' o F := by
  have h1 := h.nds
  rw [hE] at h1
  exact (h1.below hb).mono hb.size
set_option maxRecDepth 20000 in
theorem Nt.under {B : Nat} {v : Value} {E : List NdE} {w : World} (h : Nt B v E w) : (∀ k, v.ownBlock = some k → k < w.heap.size) ∧ ∀ e ∈ E, (e.1.names ≠ [] → ∀ k, e.2.1.ownBlock = some k → k < w.heap.size) ∧ (e.1.keys ≠ [] → ∀ k, e.2.2.1.ownBlock = some k → k < w.heap.size) ∧ (e.1.kids ≠ [] → ∀ k, e.2.2.2.ownBlock = some k → k < w.heap.size) := by
  refine ⟨fun k hk => (World.ownsRow.lt h.row k hk).2, fun e he => ?_⟩
  have m1 : (e.2.1, e.1.names) ∈ slots E := List.mem_flatMap.2 ⟨e, he, by simp⟩
  have m2 : (e.2.2.1, e.1.keys) ∈ slots E := List.mem_flatMap.2 ⟨e, he, by simp⟩
  have m3 : (e.2.2.2, e.1.kids) ∈ kslots E := List.mem_map.2 ⟨e, he, rfl⟩
  exact ⟨fun hn k hk => (World.ownsRow.lt ((h.own _ m1).2 hn) k hk).2, fun hn k hk => (World.ownsRow.lt ((h.own _ m2).2 hn) k hk).2, fun hn k hk => (World.ownsRow.lt ((h.ownN _ m3).2 hn) k hk).2⟩
set_option maxRecDepth 20000 in
/-- The tables and errors stay. -/
theorem tabs_below {w w' : World} (hb : Below w.heap.size w w') (h : FTab w ∧ MTab w ∧ Er w) : FTab w' ∧ MTab w' ∧ Er w' := by
  obtain ⟨⟨t1, f1, h1⟩, ⟨t2, f2, h2⟩, ⟨⟨a, a1, a2⟩, ⟨b, b1, b2⟩⟩⟩ := h
  exact ⟨⟨t1, f1, (hb.block _ (heap_ltM h1)).trans h1⟩, ⟨t2, f2, (hb.block _ (heap_ltM h2)).trans h2⟩, ⟨⟨a, (World.cell?_of_block (hb.block _ (World.block_lt_of_cell? _ _ a1))).trans a1, a2⟩, ⟨b, (World.cell?_of_block (hb.block _ (World.block_lt_of_cell? _ _ b1))).trans b1, b2⟩⟩⟩
set_option maxHeartbeats 8000000 in
set_option maxRecDepth 20000 in
theorem walkReadFilter (s : ByteArray) (w : World) (hT : FTab w ∧ MTab w ∧ Er w) (hs : s.size ≤ maxLen) :
    Calls Tryz.prog 3 #[.string s] w fun e w' => e = .returned (.bool true) ∧ Below w.heap.size w w' := by
  have HT := mkHid hT
  clear hT
  unfold maxLen at hs
  by_cases hbig : 1048576 < s.size
  · have hc : decide ((1048576 : Int) < (s.size : Int)) = true := by simp; omega
    go_enter Tryz.func3, Tryz.ntmps3
    go_wp2
    go_ret
    exact ⟨rfl, Below.refl _ _⟩
  have hc : decide ((1048576 : Int) < (s.size : Int)) = false := by simp; omega
  obtain ⟨hl0, hfit0⟩ := told_small s
  have cS := mkHid (fun (w : World) => specTold s w)
  have cI := mkHid (fun (w : World) (h : FTab w ∧ MTab w ∧ Er w) => implTold s w h.1 h.2.1 h.2.2)
  obtain ⟨⟨zc, zl, F⟩, hz⟩ : ∃ z, Rf.told s = z := ⟨_, rfl⟩
  rw [hz] at cS cI hl0 hfit0
  dsimp only at hl0 hfit0
  have hlen : ∀ c ∈ F, c.names.length ≤ 1048576 ∧ c.keys.length ≤ 1048576 ∧ c.kids.length ≤ 1048576 := fun c h => ⟨(hfit0 c h).2.1, (hfit0 c h).2.2.2.1, (hfit0 c h).2.2.2.2.2⟩
  have hend : endN 1 F ≤ 1000000000000 := by
    have h1 := endN_le 1048576 F 1 hlen
    have h2 : F.length * (4 + 3 * 1048576) ≤ 2000 * (4 + 3 * 1048576) := Nat.mul_le_mul_right _ hl0
    omega
  have hlE : Hid (∀ E : List NdE, E.map (·.1) = F → ∀ e ∈ E, e.1.names.length ≤ 1048576 ∧ e.1.keys.length ≤ 1048576 ∧ e.1.kids.length ≤ 1048576) := fun E hE e he => hlen e.1 (by rw [← hE]; exact List.mem_map_of_mem he)
  have hlF : F.length ≤ 1048576 := by omega
  have Hfit := mkHid hfit0
  obtain ⟨M, hMM⟩ : ∃ M, endN 1 F = M := ⟨_, rfl⟩
  have HMM := mkHid hMM
  have Hend := mkHid hend
  have u1 : decide ((M : Int) < 0) = false := decide_eq_false (by omega)
  have u2 : ((M : Int) != (M : Int)) = false := by simp
  clear hz hfit0 hMM hlen hend hl0
  go_enter Tryz.func3, Tryz.ntmps3
  go_wp2_with (go_at_call 4; fail)
  refine (cS.out _).mono ?_
  rintro e w1 ⟨p1, l1, E1, rfl, hN1, hE1, hl1, hb1⟩
  dsimp only at hN1 hE1 hl1 ⊢
  obtain ⟨W1, hW1⟩ : ∃ W1, W1 = w1.alloc (.cells #[.int .i64 zc, .int .i64 (zl : Int), .slice p1 F.length l1] 24) := ⟨_, rfl⟩
  have bW1 : Below w1.heap.size w1 W1 := by rw [hW1]; exact (Below.refl _ _).alloc (Nat.le_refl _) _
  have s1 : w1.heap.size < W1.heap.size := by rw [hW1]; simp
  have Z1 : Hid (W1.heap[w1.heap.size]? = some (.cells #[.int .i64 zc, .int .i64 (zl : Int), .slice p1 F.length l1] 24 (0, 0))) := show _ = _ from by rw [hW1]; exact heap_alloc_at _ _
  have N1 := mkHid (hN1.ndsN hE1 bW1)
  have B1 := mkHid (hb1.trans (bW1.mono hb1.size))
  have HW1 := mkHid hW1
  have T1 := mkHid (tabs_below B1.out HT.out)
  clear cS hN1 hE1 hl1 bW1 hW1
  have s01 := B1.out.size
  have cI1 := mkHid (cI.out W1 T1.out)
  go_wp2_with (go_at_call 5; fail)
  rw [← HW1.out]
  generalize hA0 : w1.heap.size = A0 at *
  refine cI1.out.mono ?_
  rintro e w2 ⟨p2, l2, E2, rfl, hN2, hE2, hl2, hb2⟩
  dsimp only at hN2 hE2 hl2 ⊢
  obtain ⟨W2, hW2⟩ : ∃ W2, W2 = w2.alloc (.cells #[.int .i64 zc, .int .i64 (zl : Int), .slice p2 F.length l2] 24) := ⟨_, rfl⟩
  have bW2 : Below w2.heap.size w2 W2 := by rw [hW2]; exact (Below.refl _ _).alloc (Nat.le_refl _) _
  have s2 : w2.heap.size < W2.heap.size := by rw [hW2]; simp
  have s12 := hb2.size
  have Z2 : Hid (W2.heap[w2.heap.size]? = some (.cells #[.int .i64 zc, .int .i64 (zl : Int), .slice p2 F.length l2] 24 (0, 0))) := show _ = _ from by rw [hW2]; exact heap_alloc_at _ _
  have hun := mkHid hN2.under
  have R2 := mkHid (hN2.below bW2)
  have B2 := mkHid (hb2.trans (bW2.mono s12))
  have Z1b := mkHid ((B2.out.block A0 s1).trans Z1.out)
  have cE := mkHid (lawEqTree zc (zl : Int) F p2 p1 l2 l1 W2 (hN2.ndsN hE2 bW2) ((N1.out.below B2.out).mono B2.out.size) hlF Hfit.out)
  have HE2 := mkHid hE2
  have Hl2 := mkHid hl2
  have HW2 := mkHid hW2
  unfold trV at cE
  clear cI1 hN2 hb2 bW2 hW2 hE2 hl2
  go_wp2_with (first | (rw [← HW2.out]; clear HW2; generalize hS0 : w2.heap.size = S0 at *; refine wpL_load_row rfl 24 _ rfl S0 _ 24 (0, 0) _ rfl Z2.out Tryz.underlying24 rfl (by kernel_rfl) ?_) | (refine wpL_load_row rfl 24 _ rfl A0 _ 24 (0, 0) _ rfl Z1b.out Tryz.underlying24 rfl (by kernel_rfl) ?_) | (go_at_call 6; fail))
  refine cE.out.mono ?_
  rintro e w3 ⟨rfl, hb3⟩
  have s3 := hb3.size
  have B3 := mkHid (B2.out.trans (hb3.mono B2.out.size))
  have R3 := mkHid (R2.out.below hb3)
  have Z23 := mkHid ((hb3.block S0 s2).trans Z2.out)
  have cM := mkHid (lawMarkTree zc (zl : Int) p2 E2 F.length l2 W1.heap.size w3 Hl2.out (by rw [HE2.out]; exact Hend.out) (hlE.out E2 HE2.out) hlF (by omega) R3.out S0 hun.out.1 hun.out.2)
  rw [HE2.out, HMM.out] at cM
  unfold trV at cM
  clear cE hb3 Z2 Z1b R2 B2
  go_wp2_with (first | (refine wpL_load_row rfl 24 _ rfl S0 _ 24 (0, 0) _ rfl Z23.out Tryz.underlying24 rfl (by kernel_rfl) ?_) | (go_at_call 7; fail))
  refine cM.out.mono ?_
  rintro e w4 ⟨rfl, hR4, hb4, hU4⟩
  have s4 := hb4.out.size
  have Z24 := mkHid ((hU4.out.2 S0 (Nat.le_refl _) (by omega)).trans Z23.out)
  have B4 := mkHid (B3.out.trans hb4.out)
  have cH := mkHid (fun (w : World) (h : Nt W1.heap.size (.slice p2 F.length l2) (mkNE 1 E2) w) => lawHeldTree zc (zl : Int) p2 E2 F.length l2 W1.heap.size w Hl2.out (by rw [HE2.out]; exact Hend.out) (hlE.out E2 HE2.out) hlF h)
  rw [HE2.out, HMM.out] at cH
  unfold trV at cH
  have cH4 := mkHid (cH.out w4 hR4.out)
  clear cM Z23 R3 B3 hU4 hb4
  go_wp2_with (first | (refine wpL_load_row rfl 24 _ rfl S0 _ 24 (0, 0) _ rfl Z24.out Tryz.underlying24 rfl (by kernel_rfl) ?_) | (go_at_call 8; fail))
  refine cH4.out.mono ?_
  rintro e w5 ⟨rfl, hb5⟩
  have s5 := hb5.size
  have B5 := mkHid (B4.out.trans (hb5.mono B4.out.size))
  have Z25 := mkHid ((hb5.block S0 (by omega)).trans Z24.out)
  have R5 := mkHid (hR4.out.below hb5)
  have BW5 := mkHid (B1.out.trans (B5.out.mono s01))
  have cI5 := mkHid (cI.out w5 (tabs_below BW5.out HT.out))
  clear cH4 hb5 Z24 hR4 B4
  go_wp2_with (go_at_call 5; fail)
  refine cI5.out.mono ?_
  rintro e w6 ⟨p3, l3, E3, rfl, hN6, hE6, hl6, hb6⟩
  dsimp only at hN6 hE6 hl6 ⊢
  obtain ⟨W6, hW6⟩ : ∃ W6, W6 = w6.alloc (.cells #[.int .i64 zc, .int .i64 (zl : Int), .slice p3 F.length l3] 24) := ⟨_, rfl⟩
  have bW6 : Below w6.heap.size w6 W6 := by rw [hW6]; exact (Below.refl _ _).alloc (Nat.le_refl _) _
  have s6 := hb6.size
  have s6a : w6.heap.size < W6.heap.size := by rw [hW6]; simp
  have b56 := hb6.trans (bW6.mono s6)
  have Z6 : Hid (W6.heap[w6.heap.size]? = some (.cells #[.int .i64 zc, .int .i64 (zl : Int), .slice p3 F.length l3] 24 (0, 0))) := show _ = _ from by rw [hW6]; exact heap_alloc_at _ _
  have Z26 := mkHid ((b56.block S0 (by omega)).trans Z25.out)
  have B6 := mkHid (B5.out.trans (b56.mono B5.out.size))
  have Z16 := mkHid ((B6.out.block A0 s1).trans Z1.out)
  have R6 := mkHid (R5.out.below b56)
  have cE := mkHid (lawEqTree zc (zl : Int) F p3 p1 l3 l1 W6 (hN6.ndsN hE6 bW6) ((N1.out.below B6.out).mono B6.out.size) hlF Hfit.out)
  have HW6 := mkHid hW6
  unfold trV at cE
  clear cI5 hN6 hE6 hl6 hb6 bW6 hW6 b56 Z25 R5 B5 BW5
  go_wp2_with (first | (rw [← HW6.out]; clear HW6; generalize hS6 : w6.heap.size = S6 at *; refine wpL_load_row rfl 24 _ rfl S6 _ 24 (0, 0) _ rfl Z6.out Tryz.underlying24 rfl (by kernel_rfl) ?_) | (refine wpL_load_row rfl 24 _ rfl A0 _ 24 (0, 0) _ rfl Z16.out Tryz.underlying24 rfl (by kernel_rfl) ?_) | (go_at_call 6; fail))
  refine cE.out.mono ?_
  rintro e w7 ⟨rfl, hb7⟩
  have s7 := hb7.size
  have Z27 := mkHid ((hb7.block S0 (by omega)).trans Z26.out)
  have B7 := mkHid (B6.out.trans (hb7.mono B6.out.size))
  have cH7 := mkHid (cH.out w7 (R6.out.below hb7))
  clear cE hb7 Z26 R6 B6 Z6 Z16
  go_wp2_with (first | (refine wpL_load_row rfl 24 _ rfl S0 _ 24 (0, 0) _ rfl Z27.out Tryz.underlying24 rfl (by kernel_rfl) ?_) | (go_at_call 8; fail))
  refine cH7.out.mono ?_
  rintro e w8 ⟨rfl, hb8⟩
  have BF := mkHid (B1.out.trans ((B7.out.trans (hb8.mono B7.out.size)).mono s01))
  clear cH7 hb8 B7 Z27
  go_wp2
  go_ret
  exact ⟨rfl, BF.out⟩
end Go.Proofs.YtlphojaeaogehaaGreatDoor
namespace Go.Proofs.YtlphojaeaogehaaGreatDoor
open Go Go.ChangeShapes Go.WideShapes Go.ChangeAt Go.WideMaps Go.WideElems Go.RowKit Go.Lib
open Go.ChangeMaps (open_string shut_string)
set_option maxRecDepth 20000 in
theorem laidOut : laidOutB Tryz.prog = true := by kernel_rfl
set_option maxRecDepth 20000 in
theorem own : ownKnob Tryz.prog.godebug = none := by kernel_rfl
set_option maxRecDepth 20000 in
theorem cells_of_strs {H : Type} {enc : TypeId × Value → H} {P : Program} {w : World} {base : Nat} {sp : Nat → Bool} {held : Bool} {fuel : Nat} {t e : TypeId} {n : Nat} {cs : List Value} {ss : List (List UInt8)} {p : List MemPlace}
    (ht : P.underlying t = some (.array n e)) (he : P.underlying e = some .string) (hce : P.cellsOf e = 1) (hct : P.cellsOf t = n)
    (h : DataW.trod enc P w base sp held fuel t cs = some (.agg (ss.map fun s => .lit (.string s)), p)) : cs = ss.map fun s => Value.string ⟨s.toArray⟩ := by
  cases fuel with
  | zero => simp [DataW.trod] at h
  | succ fuel =>
    simp only [DataW.trod, ht, hce, hct, Nat.mul_one] at h
    split at h
    · rename_i hl
      obtain ⟨xs, hm, hx⟩ := Option.map_eq_some_iff.1 h
      have hxs : xs.map (·.1) = ss.map fun s => (DataW.lit (.string s) : DataW H) := by
        have := congrArg Prod.fst hx
        simpa using this
      have hxl : xs.length = n := by simpa using mapM_length hm
      have hzl : ss.length = n := by
        have := congrArg List.length hxs
        simp at this
        omega
      apply List.ext_getElem?
      intro i
      by_cases hi : i < n
      · obtain ⟨b, hb, hf⟩ := mapM_at hm i i (by simp [hi])
        obtain ⟨s, hc, rfl, _⟩ := DataW.trod_string he hf
        have h1 : cs[i]? = some (.string s) := by
          have := congrArg (·[0]?) hc
          simpa [List.getElem?_take, List.getElem?_drop] using this
        have h2 : (xs.map (·.1))[i]? = some (DataW.lit (.string s.data.toList) : DataW H) := by simp [hb]
        rw [hxs] at h2
        simp only [List.getElem?_map, Option.map_eq_some_iff, DataW.lit.injEq, Lit.string.injEq] at h2
        obtain ⟨s', hs', rfl⟩ := h2
        simp [h1, hs']
      · rw [List.getElem?_eq_none (by omega), List.getElem?_eq_none (by simp; omega)]
    · cases h
def mWords : List (List UInt8) := [[58, 105, 115], [58, 99, 111, 110, 116, 97, 105, 110, 115], [58, 109, 97, 116, 99, 104, 101, 115]]
def fWords : List (Int × List UInt8) := (List.range 22).map fun i => (fwK i, fwT i)
def rowData {H : Type} (zs : List (Int × List UInt8)) : DataW H := .agg (zs.map fun z => .agg [.lit (.int .i64 z.1), .lit (.string z.2)])
def rowCell (z : Int × List UInt8) : List Value := [.int .i64 z.1, .string ⟨z.2.toArray⟩]
set_option maxRecDepth 20000 in
theorem cells_join2 : ∀ (zs : List (Int × List UInt8)) (cs : List Value), cs.length = zs.length * 2 → (∀ (i : Nat) (hi : i < zs.length), (cs.drop (i * 2)).take 2 = rowCell zs[i]) → cs = zs.flatMap rowCell := by
  intro zs
  induction zs with
  | nil => intro cs h _; exact List.length_eq_zero_iff.1 (by simpa using h)
  | cons z r ih =>
    intro cs h hz
    have h0 := hz 0 (by simp)
    have e := ih (cs.drop 2) (by simp at h ⊢; omega) (fun i hi => by
      have := hz (i + 1) (by simpa using hi)
      rw [show (i + 1) * 2 = 2 + i * 2 by omega, ← List.drop_drop] at this
      simpa using this)
    rw [List.flatMap_cons, ← e]
    simp only [Nat.zero_mul, List.drop_zero, List.getElem_cons_zero] at h0
    rw [← h0, List.take_append_drop]
set_option maxRecDepth 20000 in
theorem cells_of_rows {H : Type} {enc : TypeId × Value → H} {P : Program} {w : World} {base : Nat} {sp : Nat → Bool} {held : Bool} {fuel : Nat} {t e : TypeId} {n : Nat} {f0 f1 : Field} {cs : List Value} {zs : List (Int × List UInt8)} {p : List MemPlace}
    (ht : P.underlying t = some (.array n e)) (he : P.underlying e = some (.struct #[f0, f1])) (h0 : P.underlying f0.type = some (.int .i64)) (h1 : P.underlying f1.type = some .string)
    (o0 : f0.offset = 0) (o1 : f1.offset = 1) (c0 : P.cellsOf f0.type = 1) (c1 : P.cellsOf f1.type = 1) (ce : P.cellsOf e = 2) (ct : P.cellsOf t = zs.length * 2)
    (h : DataW.trod enc P w base sp held fuel t cs = some (rowData zs, p)) : cs = zs.flatMap rowCell := by
  obtain ⟨xs, m, rfl, hx, hl, hn, hel⟩ := DataW.trod_array ht h
  have hx1 : zs.map (fun z => (DataW.agg [.lit (.int .i64 z.1), .lit (.string z.2)] : DataW H)) = xs.map (·.1) := by
    have := congrArg Prod.fst hx
    simpa [rowData] using this
  have hxl : xs.length = zs.length := by
    have := congrArg List.length hx1
    simpa using this.symm
  refine cells_join2 zs cs (by omega) fun i hi => ?_
  have hi' := hel i (by omega)
  rw [ce] at hi'
  rw [List.getElem?_eq_getElem (by omega)] at hi'
  obtain ⟨y0, y1, n', hy, hl', e0, e1⟩ := trod_struct2 he hi'
  rw [o0, c0] at e0
  rw [o1, c1] at e1
  obtain ⟨z, ez, rfl, _⟩ := DataW.trod_int h0 e0
  obtain ⟨u, eu, rfl, _⟩ := DataW.trod_string h1 e1
  have hxi : (xs.map (·.1))[i]? = some (DataW.agg [.lit (.int .i64 zs[i].1), .lit (.string zs[i].2)] : DataW H) := by
    rw [← hx1]
    simp [hi]
  rw [List.getElem?_map, List.getElem?_eq_getElem (by omega), hy] at hxi
  simp only [Option.map_some, Option.some.injEq, DataW.agg.injEq, List.cons.injEq, DataW.lit.injEq, Lit.string.injEq, Lit.int.injEq, true_and, and_true] at hxi
  obtain ⟨hz, hu⟩ := hxi
  have hlen : ((cs.drop (i * 2)).take 2).length = 2 := by rw [hl', ce]
  generalize (cs.drop (i * 2)).take 2 = l at *
  match l, hlen with
  | [a, b], _ =>
    simp at ez eu
    subst ez eu
    have e2 : u = ⟨zs[i].2.toArray⟩ := by
      apply ByteArray.ext
      apply Array.toList_inj.1
      rw [hu]
    rw [e2, hz]
    rfl
set_option maxRecDepth 20000 in
theorem gF : Tryz.prog.globalNamed "loop.example/g00013/impl.filterWords" = some 1 := by kernel_rfl
set_option maxRecDepth 20000 in
theorem gW : Tryz.prog.globalNamed "loop.example/g00013/impl.matchWords" = some 2 := by kernel_rfl
set_option maxRecDepth 20000 in
theorem gY : Tryz.prog.globalNamed "strconv.ErrSyntax" = some 3 := by kernel_rfl
set_option maxRecDepth 20000 in
theorem gR : Tryz.prog.globalNamed "strconv.ErrRange" = some 4 := by kernel_rfl
set_option maxRecDepth 20000 in
theorem tF : (Tryz.prog.globals[1]?).map (·.type) = some 98 := by kernel_rfl
set_option maxRecDepth 20000 in
theorem tW : (Tryz.prog.globals[2]?).map (·.type) = some 107 := by kernel_rfl
set_option maxRecDepth 20000 in
theorem tY : (Tryz.prog.globals[3]?).map (·.type) = some 101 := by kernel_rfl
set_option maxRecDepth 20000 in
theorem tR : (Tryz.prog.globals[4]?).map (·.type) = some 101 := by kernel_rfl
set_option maxRecDepth 20000 in
theorem farr_eq : fWords.flatMap rowCell = farr.toList := by kernel_rfl
set_option maxRecDepth 20000 in
theorem marr_eq : (mWords.map fun s => Value.string ⟨s.toArray⟩) = marr.toList := by kernel_rfl
set_option maxRecDepth 20000 in
theorem laidF_eq : (Rows.laid_loop_example_g00013_impl_filterWords : DataW Unit) = rowData fWords := by kernel_rfl
set_option maxRecDepth 20000 in
theorem blk_of_var {w : World} {n : String} {g : Nat} {cs ar : Array Value} (hg : Tryz.prog.globalNamed n = some g) (h : w.var? Tryz.prog n = some cs) (hcs : cs.toList = ar.toList) : ∃ t fr, w.heap[g]? = some (.cells ar t fr) := by
  have e : cs = ar := Array.toList_inj.1 hcs
  unfold World.var? at h
  rw [hg] at h
  simp only [Option.bind_some] at h
  split at h
  · rename_i c t fr hh
    cases h
    exact ⟨t, fr, by rw [hh, e]⟩
  · cases h
set_option maxRecDepth 20000 in
theorem lt_of_var {w : World} {n : String} {g : Nat} {cs : Array Value} (hg : Tryz.prog.globalNamed n = some g) (h : w.var? Tryz.prog n = some cs) : g < w.heap.size := by
  unfold World.var? at h
  rw [hg] at h
  simp only [Option.bind_some] at h
  by_cases hz : g < w.heap.size
  · exact hz
  · rw [Array.getElem?_eq_none (by omega)] at h; cases h
def laidS : List (String × DataW Unit) := [("math/bits.deBruijn32tab", Rows.laid_math_bits_deBruijn32tab), ("math/bits.deBruijn64tab", Rows.laid_math_bits_deBruijn64tab), ("internal/strconv.uint64pow10", Rows.laid_internal_strconv_uint64pow10), ("strconv.ErrRange", Rows.laid_strconv_ErrRange), ("strconv.ErrSyntax", Rows.laid_strconv_ErrSyntax), ("loop.example/g00013/impl.filterWords", Rows.laid_loop_example_g00013_impl_filterWords), ("loop.example/g00013/impl.matchWords", Rows.laid_loop_example_g00013_impl_matchWords)]
set_option maxRecDepth 20000 in
theorem laidS_gives {W : World} (h : laidMetH Tryz.prog laidS W) : FTab W ∧ MTab W ∧ Er W := by
  refine ⟨?_, ?_, ?_, ?_⟩
  · have h1 := h.filter (fun x => x.1 == "loop.example/g00013/impl.filterWords")
    rw [show (laidS.filter fun x => x.1 == "loop.example/g00013/impl.filterWords") = [("loop.example/g00013/impl.filterWords", Rows.laid_loop_example_g00013_impl_filterWords)] from by simp [laidS]] at h1
    rw [MakeChecks.laidMetH_plain _ _ _ (by kernel_rfl)] at h1
    obtain ⟨ps, ⟨g0, t0, cs0, f0, p0, q0, hg0, ht0, hv0, hd0, hq, e0⟩, hnd, hrows⟩ := h1
    obtain rfl := Option.some.inj (gF.symm.trans hg0)
    obtain rfl := Option.some.inj (tF.symm.trans ht0)
    rw [laidF_eq] at hd0
    have e4 := cells_of_rows (zs := fWords) Tryz.underlying98 Tryz.underlying97 Tryz.underlying2 Tryz.underlying9 rfl rfl (by kernel_rfl) (by kernel_rfl) (by kernel_rfl) (by kernel_rfl) hd0
    exact blk_of_var hg0 hv0 (e4.trans farr_eq)
  · have h1 := h.filter (fun x => x.1 == "loop.example/g00013/impl.matchWords")
    rw [show (laidS.filter fun x => x.1 == "loop.example/g00013/impl.matchWords") = [("loop.example/g00013/impl.matchWords", Rows.laid_loop_example_g00013_impl_matchWords)] from by simp [laidS]] at h1
    rw [MakeChecks.laidMetH_plain _ _ _ (by kernel_rfl)] at h1
    obtain ⟨ps, ⟨g0, t0, cs0, f0, p0, q0, hg0, ht0, hv0, hd0, hq, e0⟩, hnd, hrows⟩ := h1
    obtain rfl := Option.some.inj (gW.symm.trans hg0)
    obtain rfl := Option.some.inj (tW.symm.trans ht0)
    have e4 := cells_of_strs (ss := mWords) Tryz.underlying107 Tryz.underlying9 (by kernel_rfl) (by kernel_rfl) hd0
    exact blk_of_var hg0 hv0 (e4.trans marr_eq)
  · have h1 := h.filter (fun x => x.1 == "strconv.ErrSyntax")
    rw [show (laidS.filter fun x => x.1 == "strconv.ErrSyntax") = [("strconv.ErrSyntax", Rows.laid_strconv_ErrSyntax)] from by simp [laidS]] at h1
    rw [MakeChecks.laidMetH_plain _ _ _ (by kernel_rfl)] at h1
    obtain ⟨ps, ⟨g0, t0, cs0, f0, p0, q0, hg0, ht0, hv0, hd0, hq, e0⟩, hnd, hrows⟩ := h1
    obtain rfl := Option.some.inj (gY.symm.trans hg0)
    obtain rfl := Option.some.inj (tY.symm.trans ht0)
    obtain ⟨f1, u, v, hcs, -, -⟩ := iface_of_trod Tryz.underlying101 hd0
    have hc := World.var?_cell hg0 hv0 0
    have hc2 : cs0[0]? = some (.iface u v) := by rw [← Array.getElem?_toList, hcs]; rfl
    rw [hc2] at hc
    exact ⟨_, hc, .inr ⟨u, v, rfl⟩⟩
  · have h1 := h.filter (fun x => x.1 == "strconv.ErrRange")
    rw [show (laidS.filter fun x => x.1 == "strconv.ErrRange") = [("strconv.ErrRange", Rows.laid_strconv_ErrRange)] from by simp [laidS]] at h1
    rw [MakeChecks.laidMetH_plain _ _ _ (by kernel_rfl)] at h1
    obtain ⟨ps, ⟨g0, t0, cs0, f0, p0, q0, hg0, ht0, hv0, hd0, hq, e0⟩, hnd, hrows⟩ := h1
    obtain rfl := Option.some.inj (gR.symm.trans hg0)
    obtain rfl := Option.some.inj (tR.symm.trans ht0)
    obtain ⟨f1, u, v, hcs, -, -⟩ := iface_of_trod Tryz.underlying101 hd0
    have hc := World.var?_cell hg0 hv0 0
    have hc2 : cs0[0]? = some (.iface u v) := by rw [← Array.getElem?_toList, hcs]; rfl
    rw [hc2] at hc
    exact ⟨_, hc, .inr ⟨u, v, rfl⟩⟩
set_option maxRecDepth 20000 in
theorem varFM_on {H : Type} {enc : TypeId × Value → H} {W W' : World} {gs : List (DataW H)} {q : List MemPlace} (hV : DataW.TrodVars enc Tryz.prog W (fun _ => true) ["loop.example/g00013/impl.filterWords", "loop.example/g00013/impl.matchWords"] gs q) (bel : Below W.heap.size W W') :
    ∃ d0 d1, gs = [d0, d1] ∧ DataW.TrodVars enc Tryz.prog W' (fun b => decide (b < W.heap.size)) ["loop.example/g00013/impl.filterWords", "loop.example/g00013/impl.matchWords"] [d0, d1] q := by
  obtain ⟨g0, t0, cs0, f0, d0, p0, g1, t1, cs1, f1, d1, p1, rfl, a1, a2, a3, a4, b1, b2, b3, b4, rfl⟩ := trodVars_two hV
  obtain rfl := Option.some.inj (gF.symm.trans a1)
  obtain rfl := Option.some.inj (tF.symm.trans a2)
  obtain rfl := Option.some.inj (gW.symm.trans b1)
  obtain rfl := Option.some.inj (tW.symm.trans b2)
  have hT0 : DataW.Trod enc Tryz.prog W 0 (fun _ => true) true 98 (.agg cs0) d0 p0 := ⟨f0, a4⟩
  have hT1 : DataW.Trod enc Tryz.prog W 0 (fun _ => true) true 107 (.agg cs1) d1 p1 := ⟨f1, b4⟩
  obtain ⟨f0', a4'⟩ := Below.trod laidOut (by kernel_rfl) (of_decide_eq_true (by kernel_rfl)) hT0 bel (DataW.trod_lt f0 _ _ _ a4)
  obtain ⟨f1', b4'⟩ := Below.trod laidOut (by kernel_rfl) (of_decide_eq_true (by kernel_rfl)) hT1 bel (DataW.trod_lt f1 _ _ _ b4)
  exact ⟨d0, d1, rfl, ⟨_, _, cs0, f0', p0, _, gF, tF, var?_below bel gF (lt_of_var gF a3) a3, a4', trodVars_mk1 gW tW (var?_below bel gW (lt_of_var gW b3) b3) b4', rfl⟩⟩
set_option maxRecDepth 20000 in
theorem door_laid (os : Os) (args : Array Value) : laidMetH Tryz.prog laidS ((World.doorLaid Tryz.prog 2000 os).forCall (fun _ _ => 0) ⟨#[], args, []⟩).memory :=
  laidMetH_of_parts3 (fuel := 8) (laidMet_of_run' 8 (by kernel_rfl) (by kernel_rfl)) (by kernel_rfl) (by kernel_rfl)
set_option maxRecDepth 100000 in
theorem filterLifted (os : Os) (started : os.Started) (H : Type) (enc : TypeId × Value → H) :
    ReturnsInHanded {} Tryz.checked os 3 .any (fun w args => (Rows.fnExactReadFilterSpec.pre enc Tryz.prog Tryz.f3 [] false w args ∧ laidMetH Tryz.prog laidS w) ∧ sizedMet enc Tryz.prog Tryz.f3 (OpenSpec.ofChange Rows.fnExactReadFilterSpec) false w args)
      (Rows.fnExactReadFilterSpec.post enc Tryz.prog Tryz.f3 false true false false) := by
  refine returnsInHanded_of_change_and (C := Tryz.checked) (X := fun w _ => laidMetH Tryz.prog laidS w) (fun _ _ _ hh h => h.of_heap hh) own started (by kernel_rfl) Tryz.func3
    (ChangeSpec.witness_shaped (enc := enc) (C := Tryz.checked) (os := os) (X := fun w _ => laidMetH Tryz.prog laidS w) false (World.doorLaid Tryz.prog 2000 os) #[.string ByteArray.empty] 8 rfl (World.shaped_of_RefB (by kernel_rfl) (by kernel_rfl)) (by kernel_rfl) (by kernel_rfl) (by kernel_rfl) (door_laid os _)) ?_
  intro W base args ds gs before hval0 hW _ _ hL _
  have hval : ∀ (j : Nat) t v, Tryz.f3.params[j]? = some t → args[j]? = some v → Value.okWide Tryz.prog W .any base t v := hval0
  have hW' := hW
  obtain ⟨p, q, hA0, hV, rfl, hfz, hnd⟩ := hW
  have hA : DataW.TrodAll enc Tryz.prog W 0 (fun _ => true) true Tryz.f3.params.toList args.toList ds p := hA0
  rw [Tryz.params3] at hA hval
  obtain ⟨v0, vs0, d0, ds0, p0, q0, hargs, rfl, rfl, h0, r0⟩ := trodAll_cons hA
  obtain ⟨rfl, rfl, rfl⟩ := trodAll_nil r0
  obtain rfl : args = #[v0] := by cases args; simp_all
  have hlt0 : ∀ x ∈ p0, x.block < W.heap.size := by obtain ⟨fuel, hx⟩ := h0; exact DataW.trod_lt fuel _ _ _ hx
  have h0' := h0
  obtain ⟨a0, rfl, -, -, w0⟩ := open_string Tryz.underlying9 (hval 0 9 v0 rfl rfl) h0'
  clear hA0 hval0
  refine (walkReadFilter a0 W (laidS_gives hL) w0).mono fun e W' ⟨he, bel⟩ => ?_
  subst he
  obtain ⟨e0, e1, rfl, hV'⟩ := varFM_on hV bel
  exact ⟨_, rfl, _, _, _, [], _, q, hW', trodAll_mk1 (shut_bool Tryz.underlying4 _), (trodAll_cons_mk (Below.trod laidOut (by kernel_rfl) (of_decide_eq_true (by kernel_rfl)) h0 bel hlt0) trodAll_mk0), hV', bel.frame _, fun h => by cases h⟩

set_option maxRecDepth 20000 in
theorem readFilter_row : Rows.FnExactReadFilterSaid :=
  OpenClaim.holds_of_wide 3 Tryz.f3 rfl rfl rfl rfl rfl rfl rfl ⟨rfl, rfl, rfl, rfl, rfl⟩ rfl rfl rfl rfl rfl (by kernel_rfl) Tryz.func3 (by kernel_rfl)
    (of_decide_eq_true (by kernel_rfl)) (by unfold Func.isWrapper; first | (rw [if_pos (by decide +kernel)]; kernel_rfl) | (rw [if_neg (by decide +kernel)]; exact ⟨rfl, rfl⟩))
    (fun os started H enc _ => filterLifted os started H enc)
set_option maxRecDepth 20000 in
theorem readFilter_holds : Rows.FnExactReadFilterCardSaid :=
  Claim7.holds_tied_plain_at .later [] [.data, .data, .data, .sentinel, .sentinel, .data, .data] true (true, "b4c77d59c902d0fd43ba36ec29c66e7305e6a598a19b083cc36fc7feb8691eb8") true
    readFilter_row (fun _ h => by cases h) (by kernel_rfl) (fun _ h => by cases h) fnExactReadFilter_row_tie rfl ⟨rfl, rfl⟩ (by kernel_rfl) rfl
    (fun f fn hf hfn => by
      obtain rfl : f = 3 := Option.some.inj ((show Tryz.prog.funcNamed "loop.example/g00013/laws.FnExactReadFilter" = some 3 by kernel_rfl).symm.trans hf) |>.symm
      obtain rfl : fn = Tryz.f3 := (Option.some.inj (Tryz.func3.symm.trans hfn)).symm
      exact ⟨by kernel_rfl, fun j t ht => by
        rw [Tryz.params3] at ht
        have hm : t ∈ [9] := by simpa using Array.mem_of_getElem? ht
        have hall : ([9].all fun u => !Tryz.prog.wantsStandIn u) = true := by kernel_rfl
        exact (show Tryz.prog.wantsStandIn t = false by simpa using List.all_eq_true.1 hall t hm)⟩)
    (by kernel_rfl)
#print axioms readFilter_holds
end Go.Proofs.YtlphojaeaogehaaGreatDoor
