
/- The specification's ChangesSince. (By tools/gen/specchanges.py.) -/
import Derived.Test.YtkklaiphpccldaaOwnN
import Derived.Test.YtkklaiphpccldaaGenMailbox
namespace Go.Proofs.Ytkklaiphpccldaa
open Go.RowKit Go.Lib Go.Maps
namespace St
def chM (mo : Int) (M : List GMail) : List Int := (M.filter fun m => decide (mo < m.modF)).map (·.uid)
def chG (mo : Int) (D : List GGone) : List Int := (D.filter fun m => decide (mo < m.modF)).map (·.uid)
theorem chM_step (mo : Int) (M : List GMail) (k : Nat) (h : k < M.length) : chM mo (M.drop k) = if mo < M[k].modF then M[k].uid :: chM mo (M.drop (k + 1)) else chM mo (M.drop (k + 1)) := by
  rw [List.drop_eq_getElem_cons h]
  unfold chM
  rw [List.filter_cons]
  by_cases e : mo < M[k].modF
  · rw [if_pos (by simpa using e), if_pos e, List.map_cons]
  · rw [if_neg (by simpa using e), if_neg e]
theorem chG_step (mo : Int) (M : List GGone) (k : Nat) (h : k < M.length) : chG mo (M.drop k) = if mo < M[k].modF then M[k].uid :: chG mo (M.drop (k + 1)) else chG mo (M.drop (k + 1)) := by
  rw [List.drop_eq_getElem_cons h]
  unfold chG
  rw [List.filter_cons]
  by_cases e : mo < M[k].modF
  · rw [if_pos (by simpa using e), if_pos e, List.map_cons]
  · rw [if_neg (by simpa using e), if_neg e]
def small (b : GMailbox) : Bool := decide (b.mails.length ≤ 300) && decide (b.gones.length ≤ 300)
def changed (b : GMailbox) (mo : Int) : List Int := if small b then chM mo b.mails else []
def goneL (b : GMailbox) (mo : Int) : List Int := if small b then chG mo b.gones else []
end St
theorem OwnN.lower {B B' : Nat} {v : Value} {P : List Int} {w : World} (h : OwnN B v P w) (hB : B' ≤ B) : OwnN B' v P w := by
  refine ⟨h.1, ?_⟩
  rcases h.2 with h | ⟨g, cap, cur, h1, h2, h3⟩
  · exact .inl h
  · exact .inr ⟨g, cap, cur, h1, by omega, h3⟩
/-- Two lists of numbers that a call has made, apart. -/
structure TwoN (B : Nat) (w : World) (v1 v2 : Value) (C D : List Int) : Prop where
  own1 : OwnN B v1 C w
  own2 : OwnN B v2 D w
  apart : v1.ownBlock = none ∨ v1.ownBlock ≠ v2.ownBlock
theorem two_cellsN {w : World} {b : Nat} {x y : Value} {t : TypeId} {z : Nat × Nat} (h : w.heap[b]? = some (.cells #[x, y] t z)) : w.cell? ⟨b, 0, none⟩ = some x ∧ w.cell? ⟨b, 1, none⟩ = some y := by
  constructor <;> simp [World.cell?, h]
theorem two_frozenN {w : World} {b : Nat} {x y : Value} {t : TypeId} (h : w.heap[b]? = some (.cells #[x, y] t (0, 0))) (j : Nat) : w.frozen? ⟨b, j, none⟩ = false := by
  simp [World.frozen?, h]
set_option maxHeartbeats 20000000 in
set_option maxRecDepth 20000 in
theorem specChanges (b : GMailbox) (v4 v5 : Value) (mo : Int) (lo : Nat) (w : World) (hI : GMailboxIn lo w.heap.size w b v4 v5) (hf : b.fits 1048576) :
    Calls Try.prog 5 #[GMailboxV b v4 v5, .int .i64 mo] w fun e w' => ∃ y1 y2 : Value, e = .returned (.agg #[y1, y2]) ∧ Hid (TwoN w.heap.size w' y1 y2 (St.changed b mo) (St.goneL b mo)) ∧ Below w.heap.size w w' := by
  obtain ⟨⟨a4, c4, rfl, t4⟩, ⟨a5, c5, rfl, t5⟩⟩ := hI
  obtain ⟨-, f4, -, f5, -⟩ := hf
  obtain ⟨G, hG⟩ : ∃ G, w.heap.size = G := ⟨_, rfl⟩
  obtain ⟨W, hW⟩ : ∃ W, W = ((w.alloc (.cells #[.string b.name, .int .i64 b.validity, .int .i64 b.nextUid, .int .i64 b.topMod, .slice a4 b.mails.length c4, .slice a5 b.gones.length c5] 34)).alloc (.cells #[.slice none 0 0, .slice none 0 0] 29)).alloc (.cells #[.slice none 0 0, .slice none 0 0] 29) := ⟨_, rfl⟩
  obtain ⟨hb0, hs0, hP0, hR0, hO0⟩ := three_blocks hG hW
  have HM := mkHid (t4.below hb0 (Nat.le_of_eq hG))
  have HD := mkHid (t5.below hb0 (Nat.le_of_eq hG))
  have q4 : W.cell? ⟨G, 4, none⟩ = some (.slice a4 b.mails.length c4) := by simp [World.cell?, hP0]
  have q5 : W.cell? ⟨G, 5, none⟩ = some (.slice a5 b.gones.length c5) := by simp [World.cell?, hP0]
  have HW := mkHid hW
  have HR := mkHid hR0
  have HO := mkHid hO0
  clear hW t4 t5 hP0 hR0 hO0
  unfold St.changed St.goneL St.small
  unfold GMailboxV
  generalize b.mails = M at *
  generalize b.gones = D at *
  by_cases h1 : M.length ≤ 300
  · have x1 : decide ((300 : Int) < (M.length : Int)) = false := decide_eq_false (by omega)
    by_cases h2 : D.length ≤ 300
    · have x2 : decide ((300 : Int) < (D.length : Int)) = false := decide_eq_false (by omega)
      rw [decide_eq_true h1, decide_eq_true h2, Bool.true_and, if_pos rfl, if_pos rfl]
      go_enter Try.func5, Try.ntmps5
      go_wp2
      rw [← HW.out]
      clear HW

      go_loopw [6] (fun iv wr => ∃ (i : Nat) (C : List Int) (o1 : Option Addr) (k1 : Nat), i ≤ M.length ∧ iv = .int .i64 i ∧ C.length ≤ i ∧ Hid (C ++ St.chM mo (M.drop i) = St.chM mo M) ∧ Hid (OwnN (G + 3) (.slice o1 C.length k1) C wr) ∧ Hid (wr.heap[G + 1 + 1]? = some (.cells #[.slice o1 C.length k1, .slice none 0 0] 29 (0, 0))) ∧ Hid (Below (G + 1 + 1) W wr)) (fun iv _ => M.length - (Lib.intOf iv).toNat)
      case atStart => exact ⟨0, [], none, 0, Nat.zero_le _, rfl, Nat.le_refl _, rfl, OwnN.nil _ _, HO, Below.refl _ _⟩
      case round =>
        clear HO
        obtain ⟨i, C, o1, k1, hi, rfl, hCl, hz, hown, hO, hB⟩ := hrel
        have hb := hB.out
        have r4 := (hb.cell (p := ⟨G, 4, none⟩) (by show G < G + 1 + 1; omega)).trans q4
        have hOs : G + 1 + 1 < wr.heap.size := heap_lt hO.out
        by_cases hlt : i < M.length
        · obtain ⟨a, v3, rfl, ha1, ha2, hA, -⟩ := (HM.out.below hb (by omega)) i hlt
          have c0 := hA.c0
          have c1 := hA.c1
          have hz1 := hz.out
          rw [St.chM_step mo M i hlt] at hz1
          clear hA hz
          generalize M[i] = m at *
          generalize m.uid = uid at *
          generalize m.modF = mm at *
          by_cases hm : mo < mm
          · have u1 : decide (mo < mm) = true := decide_eq_true hm
            rw [if_pos hm] at hz1
            have hz2 : Hid ((C ++ [uid]) ++ St.chM mo (M.drop (i + 1)) = St.chM mo M) := by rw [List.append_assoc]; exact hz1
            obtain ⟨C5, hC5⟩ : ∃ C5, C5 = C ++ [uid] := ⟨_, rfl⟩
            rw [← hC5] at hz2
            have hC5l : Hid (C5.length ≤ i + 1) := by rw [hC5]; show _ ≤ _; simp; omega
            have HC5 := mkHid hC5
            clear hC5
            have x0 := (two_cellsN hO.out).1
            have x1 := (two_cellsN hO.out).2
            have hownO := hown.out
            unfold OwnN at hownO
            obtain ⟨i0, hi0, hz0, hz1_, hz2_⟩ := info_parts Try.info2
            clear hz1
            go_wp2
            refine wp_region_any (by kernel_rfl) ?_
            refine wpAny_take (i := 0) (v := .pointer (some ⟨G + 1 + 1, 0, none⟩)) rfl (by kernel_rfl) (by kernel_rfl) (by kernel_rfl) (fun _ _ _ h => h) (Or.inl ⟨by rfl, ?_⟩) ?_
            · intro w
              go_simp
              all_goals first | done | (intro h; exfalso; omega)
            go_simp
            refine wpAny_take (i := 2) (v := .pointer (some ⟨G, 4, none⟩)) rfl (by kernel_rfl) (by kernel_rfl) (by kernel_rfl) (fun _ _ _ h => h) (Or.inl ⟨by rfl, ?_⟩) ?_
            · intro w
              go_simp
              all_goals first | done | (intro h; exfalso; omega)
            go_simp
            refine wpAny_take (i := 4) (v := .int .i64 (i : Int)) rfl (by kernel_rfl) (by kernel_rfl) (by kernel_rfl) (fun _ _ _ h => h) (Or.inl ⟨by rfl, ?_⟩) ?_
            · intro w
              go_simp
              all_goals first | done | (intro h; exfalso; omega)
            go_simp
            refine wpAny_ready (rs := [1, 3]) (by kernel_rfl) (by simp) ?_
            refine AllReady.cons rfl (fun K hK => ?_) (AllReady.cons rfl (fun K hK => ?_) AllReady.nil)
            · go_simp
              refine hK _ _ ?_
              clear hK K
              go_simp
              refine wpAny_ready (rs := [3]) (by kernel_rfl) (by simp) ?_
              refine AllReady.cons rfl (fun K hK => ?_) AllReady.nil
              go_simp
              refine hK _ _ ?_
              clear hK K
              go_simp
              refine wpAny_take (i := 5) (v := .pointer (some (a.add (i * 5)))) rfl (by kernel_rfl) (by kernel_rfl) (by kernel_rfl) (fun _ _ _ h => h) (Or.inl ⟨by rfl, ?_⟩) ?_
              · intro w
                go_simp
                all_goals first | done | (intro h; exfalso; omega)
              go_simp
              refine wpAny_take (i := 6) (v := .pointer (some (a.add (i * 5)))) rfl (by kernel_rfl) (by kernel_rfl) (by kernel_rfl) (fun _ _ _ h => h) (Or.inl ⟨by rfl, ?_⟩) ?_
              · intro w
                go_simp
                all_goals first | done | (intro h; exfalso; omega)
              go_simp
              refine wpAny_ready (rs := [7]) (by kernel_rfl) (by simp) ?_
              refine AllReady.cons rfl (fun K hK => ?_) AllReady.nil
              go_simp
              refine hK _ _ ?_
              clear hK K
              go_simp
              refine wpAny_ready (rs := [8]) (by kernel_rfl) (by simp) ?_
              refine AllReady.cons rfl (fun K hK => ?_) AllReady.nil
              go_simp
              refine hK _ _ ?_
              clear hK K
              go_simp
              refine wpAny_ready (rs := [9]) (by kernel_rfl) (by simp) ?_
              refine AllReady.cons rfl (fun K hK => ?_) AllReady.nil
              refine wp_append_own _ _ _ 27 rfl (G + 3) 2 i0 (.int .i64 0) 1 8 Try.underlying27 hi0 hz0 hz1_ hz2_ rfl (by decide) (.slice o1 C.length k1) C.length (numCells C) rfl (World.ownsRow.alloc hownO _) ⟨wr.heap.size, 0, none⟩ 1 1 [.int .i64 uid] rfl rfl (by intro j u hj; match j, hj with | 0, hj => cases hj; simp [Addr.add]) (by intro u hu; simp at hu; subst hu; rfl) (by unfold maxLen; omega) (by omega) (by simp; omega) ?_
              intro y5 w6 ho5 hg5 _
              have hown5 : OwnN (G + 3) y5 C5 w6 := by
                rw [HC5.out]
                unfold OwnN numCells
                rw [List.map_append, List.length_append]
                exact ho5
              obtain ⟨o5, k5, rfl⟩ := hown5.shape
              have hnb : ∀ k, (Value.slice o1 C.length k1).ownBlock = some k → (G + 3) ≤ k := fun k hk => (World.ownsRow.lt hownO k hk).1
              have hO6 : w6.heap[G + 1 + 1]? = some (.cells #[.slice o1 C.length k1, .slice none 0 0] 29 (0, 0)) := (hg5.block (G + 1 + 1) (by simp; omega) (by intro e; have := hnb _ e.symm; omega)).trans ((heap_alloc_old wr _ _ hOs).trans hO.out)
              have x6 := (two_cellsN hO6).1
              have z6 := two_frozenN hO6 0
              have hb6 : Below (G + 1 + 1) W w6 := ((hb.alloc (by omega) (.cells #[.int .i64 uid] 2)).drew).grown hg5 (by simp; omega) (fun k hk => by have := hnb k hk; omega)
              refine hK _ _ ?_
              clear hK K
              go_simp
              refine wpAny_take (i := 10) (v := .pointer (some ⟨G + 1 + 1, 0, none⟩)) rfl (by kernel_rfl) (by kernel_rfl) (by kernel_rfl) (fun _ _ _ h => h) (Or.inl ⟨by rfl, ?_⟩) ?_
              · intro w
                go_simp
                all_goals first | done | (intro h; exfalso; omega)
              go_simp
              refine wpAny_ready (rs := [11]) (by kernel_rfl) (by simp) ?_
              refine AllReady.cons rfl (fun K hK => ?_) AllReady.nil
              go_simp
              refine hK _ _ ?_
              clear hK K
              go_simp
              refine wpAny_done (by kernel_rfl) ?_ _
              have hO7 : Hid ((w6.setCell ⟨G + 1 + 1, 0, none⟩ (.slice o5 C5.length k5)).heap[G + 1 + 1]? = some (.cells #[.slice o5 C5.length k5, .slice none 0 0] 29 (0, 0))) := by show _ = _; simp [World.setCell, Array.getElem?_modify, hO6]
              have hown7 : Hid (OwnN (G + 3) (.slice o5 C5.length k5) C5 (w6.setCell ⟨G + 1 + 1, 0, none⟩ (.slice o5 C5.length k5))) := hown5.keep (grG_set _ _ _ _) (by
                cases ho : (Value.slice o5 C5.length k5).ownBlock with
                | none => exact .inl rfl
                | some k => exact .inr (by have := (World.ownsRow.lt hown5 k ho).1; intro e; cases e; omega))
              have hb7 := mkHid (hb6.setCell (p := ⟨G + 1 + 1, 0, none⟩) (Nat.le_refl _) (.slice o5 C5.length k5))
              clear ho5 hg5 hown5 hO6 x6 z6 hb6 c0 c1 x0 x1 hownO
              go_wp2
              go_roundw
              case rel => exact ⟨i + 1, C5, o5, k5, by omega, by go_num, hC5l.out, hz2, hown7, hO7, hb7⟩
              case measure => simp [Lib.intOf]; omega
            · go_simp
              refine hK _ _ ?_
              clear hK K
              go_simp
              refine wpAny_take (i := 5) (v := .pointer (some (a.add (i * 5)))) rfl (by kernel_rfl) (by kernel_rfl) (by kernel_rfl) (fun _ _ _ h => h) (Or.inl ⟨by rfl, ?_⟩) ?_
              · intro w
                go_simp
                all_goals first | done | (intro h; exfalso; omega)
              go_simp
              refine wpAny_take (i := 6) (v := .pointer (some (a.add (i * 5)))) rfl (by kernel_rfl) (by kernel_rfl) (by kernel_rfl) (fun _ _ _ h => h) (Or.inl ⟨by rfl, ?_⟩) ?_
              · intro w
                go_simp
                all_goals first | done | (intro h; exfalso; omega)
              go_simp
              refine wpAny_ready (rs := [1, 7]) (by kernel_rfl) (by simp) ?_
              refine AllReady.cons rfl (fun K hK => ?_) (AllReady.cons rfl (fun K hK => ?_) AllReady.nil)
              · go_simp
                refine hK _ _ ?_
                clear hK K
                go_simp
                refine wpAny_ready (rs := [7]) (by kernel_rfl) (by simp) ?_
                refine AllReady.cons rfl (fun K hK => ?_) AllReady.nil
                go_simp
                refine hK _ _ ?_
                clear hK K
                go_simp
                refine wpAny_ready (rs := [8]) (by kernel_rfl) (by simp) ?_
                refine AllReady.cons rfl (fun K hK => ?_) AllReady.nil
                go_simp
                refine hK _ _ ?_
                clear hK K
                go_simp
                refine wpAny_ready (rs := [9]) (by kernel_rfl) (by simp) ?_
                refine AllReady.cons rfl (fun K hK => ?_) AllReady.nil
                refine wp_append_own _ _ _ 27 rfl (G + 3) 2 i0 (.int .i64 0) 1 8 Try.underlying27 hi0 hz0 hz1_ hz2_ rfl (by decide) (.slice o1 C.length k1) C.length (numCells C) rfl (World.ownsRow.alloc hownO _) ⟨wr.heap.size, 0, none⟩ 1 1 [.int .i64 uid] rfl rfl (by intro j u hj; match j, hj with | 0, hj => cases hj; simp [Addr.add]) (by intro u hu; simp at hu; subst hu; rfl) (by unfold maxLen; omega) (by omega) (by simp; omega) ?_
                intro y5 w6 ho5 hg5 _
                have hown5 : OwnN (G + 3) y5 C5 w6 := by
                  rw [HC5.out]
                  unfold OwnN numCells
                  rw [List.map_append, List.length_append]
                  exact ho5
                obtain ⟨o5, k5, rfl⟩ := hown5.shape
                have hnb : ∀ k, (Value.slice o1 C.length k1).ownBlock = some k → (G + 3) ≤ k := fun k hk => (World.ownsRow.lt hownO k hk).1
                have hO6 : w6.heap[G + 1 + 1]? = some (.cells #[.slice o1 C.length k1, .slice none 0 0] 29 (0, 0)) := (hg5.block (G + 1 + 1) (by simp; omega) (by intro e; have := hnb _ e.symm; omega)).trans ((heap_alloc_old wr _ _ hOs).trans hO.out)
                have x6 := (two_cellsN hO6).1
                have z6 := two_frozenN hO6 0
                have hb6 : Below (G + 1 + 1) W w6 := ((hb.alloc (by omega) (.cells #[.int .i64 uid] 2)).drew).grown hg5 (by simp; omega) (fun k hk => by have := hnb k hk; omega)
                refine hK _ _ ?_
                clear hK K
                go_simp
                refine wpAny_take (i := 10) (v := .pointer (some ⟨G + 1 + 1, 0, none⟩)) rfl (by kernel_rfl) (by kernel_rfl) (by kernel_rfl) (fun _ _ _ h => h) (Or.inl ⟨by rfl, ?_⟩) ?_
                · intro w
                  go_simp
                  all_goals first | done | (intro h; exfalso; omega)
                go_simp
                refine wpAny_ready (rs := [11]) (by kernel_rfl) (by simp) ?_
                refine AllReady.cons rfl (fun K hK => ?_) AllReady.nil
                go_simp
                refine hK _ _ ?_
                clear hK K
                go_simp
                refine wpAny_done (by kernel_rfl) ?_ _
                have hO7 : Hid ((w6.setCell ⟨G + 1 + 1, 0, none⟩ (.slice o5 C5.length k5)).heap[G + 1 + 1]? = some (.cells #[.slice o5 C5.length k5, .slice none 0 0] 29 (0, 0))) := by show _ = _; simp [World.setCell, Array.getElem?_modify, hO6]
                have hown7 : Hid (OwnN (G + 3) (.slice o5 C5.length k5) C5 (w6.setCell ⟨G + 1 + 1, 0, none⟩ (.slice o5 C5.length k5))) := hown5.keep (grG_set _ _ _ _) (by
                  cases ho : (Value.slice o5 C5.length k5).ownBlock with
                  | none => exact .inl rfl
                  | some k => exact .inr (by have := (World.ownsRow.lt hown5 k ho).1; intro e; cases e; omega))
                have hb7 := mkHid (hb6.setCell (p := ⟨G + 1 + 1, 0, none⟩) (Nat.le_refl _) (.slice o5 C5.length k5))
                clear ho5 hg5 hown5 hO6 x6 z6 hb6 c0 c1 x0 x1 hownO
                go_wp2
                go_roundw
                case rel => exact ⟨i + 1, C5, o5, k5, by omega, by go_num, hC5l.out, hz2, hown7, hO7, hb7⟩
                case measure => simp [Lib.intOf]; omega
              · go_simp
                refine hK _ _ ?_
                clear hK K
                go_simp
                refine wpAny_ready (rs := [1, 8]) (by kernel_rfl) (by simp) ?_
                refine AllReady.cons rfl (fun K hK => ?_) (AllReady.cons rfl (fun K hK => ?_) AllReady.nil)
                · go_simp
                  refine hK _ _ ?_
                  clear hK K
                  go_simp
                  refine wpAny_ready (rs := [8]) (by kernel_rfl) (by simp) ?_
                  refine AllReady.cons rfl (fun K hK => ?_) AllReady.nil
                  go_simp
                  refine hK _ _ ?_
                  clear hK K
                  go_simp
                  refine wpAny_ready (rs := [9]) (by kernel_rfl) (by simp) ?_
                  refine AllReady.cons rfl (fun K hK => ?_) AllReady.nil
                  refine wp_append_own _ _ _ 27 rfl (G + 3) 2 i0 (.int .i64 0) 1 8 Try.underlying27 hi0 hz0 hz1_ hz2_ rfl (by decide) (.slice o1 C.length k1) C.length (numCells C) rfl (World.ownsRow.alloc hownO _) ⟨wr.heap.size, 0, none⟩ 1 1 [.int .i64 uid] rfl rfl (by intro j u hj; match j, hj with | 0, hj => cases hj; simp [Addr.add]) (by intro u hu; simp at hu; subst hu; rfl) (by unfold maxLen; omega) (by omega) (by simp; omega) ?_
                  intro y5 w6 ho5 hg5 _
                  have hown5 : OwnN (G + 3) y5 C5 w6 := by
                    rw [HC5.out]
                    unfold OwnN numCells
                    rw [List.map_append, List.length_append]
                    exact ho5
                  obtain ⟨o5, k5, rfl⟩ := hown5.shape
                  have hnb : ∀ k, (Value.slice o1 C.length k1).ownBlock = some k → (G + 3) ≤ k := fun k hk => (World.ownsRow.lt hownO k hk).1
                  have hO6 : w6.heap[G + 1 + 1]? = some (.cells #[.slice o1 C.length k1, .slice none 0 0] 29 (0, 0)) := (hg5.block (G + 1 + 1) (by simp; omega) (by intro e; have := hnb _ e.symm; omega)).trans ((heap_alloc_old wr _ _ hOs).trans hO.out)
                  have x6 := (two_cellsN hO6).1
                  have z6 := two_frozenN hO6 0
                  have hb6 : Below (G + 1 + 1) W w6 := ((hb.alloc (by omega) (.cells #[.int .i64 uid] 2)).drew).grown hg5 (by simp; omega) (fun k hk => by have := hnb k hk; omega)
                  refine hK _ _ ?_
                  clear hK K
                  go_simp
                  refine wpAny_take (i := 10) (v := .pointer (some ⟨G + 1 + 1, 0, none⟩)) rfl (by kernel_rfl) (by kernel_rfl) (by kernel_rfl) (fun _ _ _ h => h) (Or.inl ⟨by rfl, ?_⟩) ?_
                  · intro w
                    go_simp
                    all_goals first | done | (intro h; exfalso; omega)
                  go_simp
                  refine wpAny_ready (rs := [11]) (by kernel_rfl) (by simp) ?_
                  refine AllReady.cons rfl (fun K hK => ?_) AllReady.nil
                  go_simp
                  refine hK _ _ ?_
                  clear hK K
                  go_simp
                  refine wpAny_done (by kernel_rfl) ?_ _
                  have hO7 : Hid ((w6.setCell ⟨G + 1 + 1, 0, none⟩ (.slice o5 C5.length k5)).heap[G + 1 + 1]? = some (.cells #[.slice o5 C5.length k5, .slice none 0 0] 29 (0, 0))) := by show _ = _; simp [World.setCell, Array.getElem?_modify, hO6]
                  have hown7 : Hid (OwnN (G + 3) (.slice o5 C5.length k5) C5 (w6.setCell ⟨G + 1 + 1, 0, none⟩ (.slice o5 C5.length k5))) := hown5.keep (grG_set _ _ _ _) (by
                    cases ho : (Value.slice o5 C5.length k5).ownBlock with
                    | none => exact .inl rfl
                    | some k => exact .inr (by have := (World.ownsRow.lt hown5 k ho).1; intro e; cases e; omega))
                  have hb7 := mkHid (hb6.setCell (p := ⟨G + 1 + 1, 0, none⟩) (Nat.le_refl _) (.slice o5 C5.length k5))
                  clear ho5 hg5 hown5 hO6 x6 z6 hb6 c0 c1 x0 x1 hownO
                  go_wp2
                  go_roundw
                  case rel => exact ⟨i + 1, C5, o5, k5, by omega, by go_num, hC5l.out, hz2, hown7, hO7, hb7⟩
                  case measure => simp [Lib.intOf]; omega
                · go_simp
                  refine hK _ _ ?_
                  clear hK K
                  go_simp
                  refine wpAny_ready (rs := [1]) (by kernel_rfl) (by simp) ?_
                  refine AllReady.cons rfl (fun K hK => ?_) AllReady.nil
                  go_simp
                  refine hK _ _ ?_
                  clear hK K
                  go_simp
                  refine wpAny_ready (rs := [9]) (by kernel_rfl) (by simp) ?_
                  refine AllReady.cons rfl (fun K hK => ?_) AllReady.nil
                  refine wp_append_own _ _ _ 27 rfl (G + 3) 2 i0 (.int .i64 0) 1 8 Try.underlying27 hi0 hz0 hz1_ hz2_ rfl (by decide) (.slice o1 C.length k1) C.length (numCells C) rfl (World.ownsRow.alloc hownO _) ⟨wr.heap.size, 0, none⟩ 1 1 [.int .i64 uid] rfl rfl (by intro j u hj; match j, hj with | 0, hj => cases hj; simp [Addr.add]) (by intro u hu; simp at hu; subst hu; rfl) (by unfold maxLen; omega) (by omega) (by simp; omega) ?_
                  intro y5 w6 ho5 hg5 _
                  have hown5 : OwnN (G + 3) y5 C5 w6 := by
                    rw [HC5.out]
                    unfold OwnN numCells
                    rw [List.map_append, List.length_append]
                    exact ho5
                  obtain ⟨o5, k5, rfl⟩ := hown5.shape
                  have hnb : ∀ k, (Value.slice o1 C.length k1).ownBlock = some k → (G + 3) ≤ k := fun k hk => (World.ownsRow.lt hownO k hk).1
                  have hO6 : w6.heap[G + 1 + 1]? = some (.cells #[.slice o1 C.length k1, .slice none 0 0] 29 (0, 0)) := (hg5.block (G + 1 + 1) (by simp; omega) (by intro e; have := hnb _ e.symm; omega)).trans ((heap_alloc_old wr _ _ hOs).trans hO.out)
                  have x6 := (two_cellsN hO6).1
                  have z6 := two_frozenN hO6 0
                  have hb6 : Below (G + 1 + 1) W w6 := ((hb.alloc (by omega) (.cells #[.int .i64 uid] 2)).drew).grown hg5 (by simp; omega) (fun k hk => by have := hnb k hk; omega)
                  refine hK _ _ ?_
                  clear hK K
                  go_simp
                  refine wpAny_take (i := 10) (v := .pointer (some ⟨G + 1 + 1, 0, none⟩)) rfl (by kernel_rfl) (by kernel_rfl) (by kernel_rfl) (fun _ _ _ h => h) (Or.inl ⟨by rfl, ?_⟩) ?_
                  · intro w
                    go_simp
                    all_goals first | done | (intro h; exfalso; omega)
                  go_simp
                  refine wpAny_ready (rs := [11]) (by kernel_rfl) (by simp) ?_
                  refine AllReady.cons rfl (fun K hK => ?_) AllReady.nil
                  go_simp
                  refine hK _ _ ?_
                  clear hK K
                  go_simp
                  refine wpAny_done (by kernel_rfl) ?_ _
                  have hO7 : Hid ((w6.setCell ⟨G + 1 + 1, 0, none⟩ (.slice o5 C5.length k5)).heap[G + 1 + 1]? = some (.cells #[.slice o5 C5.length k5, .slice none 0 0] 29 (0, 0))) := by show _ = _; simp [World.setCell, Array.getElem?_modify, hO6]
                  have hown7 : Hid (OwnN (G + 3) (.slice o5 C5.length k5) C5 (w6.setCell ⟨G + 1 + 1, 0, none⟩ (.slice o5 C5.length k5))) := hown5.keep (grG_set _ _ _ _) (by
                    cases ho : (Value.slice o5 C5.length k5).ownBlock with
                    | none => exact .inl rfl
                    | some k => exact .inr (by have := (World.ownsRow.lt hown5 k ho).1; intro e; cases e; omega))
                  have hb7 := mkHid (hb6.setCell (p := ⟨G + 1 + 1, 0, none⟩) (Nat.le_refl _) (.slice o5 C5.length k5))
                  clear ho5 hg5 hown5 hO6 x6 z6 hb6 c0 c1 x0 x1 hownO
                  go_wp2
                  go_roundw
                  case rel => exact ⟨i + 1, C5, o5, k5, by omega, by go_num, hC5l.out, hz2, hown7, hO7, hb7⟩
                  case measure => simp [Lib.intOf]; omega
          · have u1 : decide (mo < mm) = false := decide_eq_false hm
            rw [if_neg hm] at hz1
            replace hz1 := mkHid hz1
            go_wp2
            go_roundw
            case rel => exact ⟨i + 1, C, o1, k1, by omega, by go_num, by omega, hz1, hown, hO, hB⟩
            case measure => simp [Lib.intOf]; omega
        · have hz1 : Hid (C = St.chM mo M) := by
            have := hz.out
            rw [List.drop_eq_nil_of_le (by omega), show St.chM mo [] = [] from rfl, List.append_nil] at this
            exact this
          have r5 := (hb.cell (p := ⟨G, 5, none⟩) (by show G < G + 1 + 1; omega)).trans q5
          clear hz
          go_wp2
          obtain ⟨W2, hW2⟩ : ∃ W2, W2 = wr := ⟨_, rfl⟩
          subst hW2
          obtain ⟨B2, hB2⟩ : ∃ B2, W2.heap.size = B2 := ⟨_, rfl⟩
          have hB2l : G + 3 ≤ B2 := by omega
          have hap : Hid (∀ v : Value, (∀ k, v.ownBlock = some k → B2 ≤ k) → (Value.slice o1 C.length k1).ownBlock = none ∨ (Value.slice o1 C.length k1).ownBlock ≠ v.ownBlock) := show ∀ v, _ from fun v hv => by
            cases ho : (Value.slice o1 C.length k1).ownBlock with
            | none => exact .inl rfl
            | some k => exact .inr (fun e => by have h1 := (World.ownsRow.lt hown.out k ho).2; have h2 := hv k e.symm; omega)
          replace hB2 := mkHid hB2
          obtain ⟨E, hEe⟩ : ∃ E, E = C := ⟨_, rfl⟩
          obtain ⟨p1, hp1⟩ : ∃ p1, p1 = o1 := ⟨_, rfl⟩
          obtain ⟨l1, hl1⟩ : ∃ l1, l1 = k1 := ⟨_, rfl⟩
          rw [← hEe, ← hp1, ← hl1] at hap hown hO
          rw [← hEe] at hz1
          have HE := hown
          have HO := hO
          have HB2 := hB
          have HAP := hap
          have hzE := hz1
          clear hEe hp1 hl1 hown hO hB hb hap hz1 r4 hOs hCl C o1 k1
          go_loopw [7] (fun iv wr => ∃ (i : Nat) (C : List Int) (o1 : Option Addr) (k1 : Nat), i ≤ D.length ∧ iv = .int .i64 i ∧ C.length ≤ i ∧ Hid (C ++ St.chG mo (D.drop i) = St.chG mo D) ∧ Hid (OwnN B2 (.slice o1 C.length k1) C wr) ∧ Hid (wr.heap[G + 1 + 1]? = some (.cells #[.slice p1 E.length l1, .slice o1 C.length k1] 29 (0, 0))) ∧ Hid (Below (G + 1 + 1) W wr) ∧ Hid (OwnN (G + 3) (.slice p1 E.length l1) E wr) ∧ B2 ≤ wr.heap.size) (fun iv _ => D.length - (Lib.intOf iv).toNat)
          case atStart => exact ⟨0, [], none, 0, Nat.zero_le _, rfl, Nat.le_refl _, rfl, OwnN.nil _ _, HO, HB2, HE, Nat.le_of_eq hB2.out.symm⟩
          case round =>
            clear HO HE
            obtain ⟨i, C, o1, k1, hi, rfl, hCl, hz, hown, hO, hB, hE, hBs⟩ := hrel
            have hb := hB.out
            have r5 := (hb.cell (p := ⟨G, 5, none⟩) (by show G < G + 1 + 1; omega)).trans q5
            have hOs : G + 1 + 1 < wr.heap.size := heap_lt hO.out
            by_cases hlt : i < D.length
            · obtain ⟨a, rfl, ha1, ha2, hA⟩ := (HD.out.below hb (by omega)) i hlt
              have c0 := hA.c0
              have c1 := hA.c1
              have hz1 := hz.out
              rw [St.chG_step mo D i hlt] at hz1
              clear hA hz
              generalize D[i] = m at *
              generalize m.uid = uid at *
              generalize m.modF = mm at *
              by_cases hm : mo < mm
              · have u1 : decide (mo < mm) = true := decide_eq_true hm
                rw [if_pos hm] at hz1
                have hz2 : Hid ((C ++ [uid]) ++ St.chG mo (D.drop (i + 1)) = St.chG mo D) := by rw [List.append_assoc]; exact hz1
                obtain ⟨C5, hC5⟩ : ∃ C5, C5 = C ++ [uid] := ⟨_, rfl⟩
                rw [← hC5] at hz2
                have hC5l : Hid (C5.length ≤ i + 1) := by rw [hC5]; show _ ≤ _; simp; omega
                have HC5 := mkHid hC5
                clear hC5
                have x0 := (two_cellsN hO.out).1
                have x1 := (two_cellsN hO.out).2
                have hownO := hown.out
                unfold OwnN at hownO
                obtain ⟨i0, hi0, hz0, hz1_, hz2_⟩ := info_parts Try.info2
                clear hz1
                go_wp2
                refine wp_region_any (by kernel_rfl) ?_
                refine wpAny_take (i := 0) (v := .pointer (some ⟨G + 1 + 1, 1, none⟩)) rfl (by kernel_rfl) (by kernel_rfl) (by kernel_rfl) (fun _ _ _ h => h) (Or.inl ⟨by rfl, ?_⟩) ?_
                · intro w
                  go_simp
                  all_goals first | done | (intro h; exfalso; omega)
                go_simp
                refine wpAny_take (i := 2) (v := .pointer (some ⟨G, 5, none⟩)) rfl (by kernel_rfl) (by kernel_rfl) (by kernel_rfl) (fun _ _ _ h => h) (Or.inl ⟨by rfl, ?_⟩) ?_
                · intro w
                  go_simp
                  all_goals first | done | (intro h; exfalso; omega)
                go_simp
                refine wpAny_take (i := 4) (v := .int .i64 (i : Int)) rfl (by kernel_rfl) (by kernel_rfl) (by kernel_rfl) (fun _ _ _ h => h) (Or.inl ⟨by rfl, ?_⟩) ?_
                · intro w
                  go_simp
                  all_goals first | done | (intro h; exfalso; omega)
                go_simp
                refine wpAny_ready (rs := [1, 3]) (by kernel_rfl) (by simp) ?_
                refine AllReady.cons rfl (fun K hK => ?_) (AllReady.cons rfl (fun K hK => ?_) AllReady.nil)
                · go_simp
                  refine hK _ _ ?_
                  clear hK K
                  go_simp
                  refine wpAny_ready (rs := [3]) (by kernel_rfl) (by simp) ?_
                  refine AllReady.cons rfl (fun K hK => ?_) AllReady.nil
                  go_simp
                  refine hK _ _ ?_
                  clear hK K
                  go_simp
                  refine wpAny_take (i := 5) (v := .pointer (some (a.add (i * 2)))) rfl (by kernel_rfl) (by kernel_rfl) (by kernel_rfl) (fun _ _ _ h => h) (Or.inl ⟨by rfl, ?_⟩) ?_
                  · intro w
                    go_simp
                    all_goals first | done | (intro h; exfalso; omega)
                  go_simp
                  refine wpAny_take (i := 6) (v := .pointer (some (a.add (i * 2)))) rfl (by kernel_rfl) (by kernel_rfl) (by kernel_rfl) (fun _ _ _ h => h) (Or.inl ⟨by rfl, ?_⟩) ?_
                  · intro w
                    go_simp
                    all_goals first | done | (intro h; exfalso; omega)
                  go_simp
                  refine wpAny_ready (rs := [7]) (by kernel_rfl) (by simp) ?_
                  refine AllReady.cons rfl (fun K hK => ?_) AllReady.nil
                  go_simp
                  refine hK _ _ ?_
                  clear hK K
                  go_simp
                  refine wpAny_ready (rs := [8]) (by kernel_rfl) (by simp) ?_
                  refine AllReady.cons rfl (fun K hK => ?_) AllReady.nil
                  go_simp
                  refine hK _ _ ?_
                  clear hK K
                  go_simp
                  refine wpAny_ready (rs := [9]) (by kernel_rfl) (by simp) ?_
                  refine AllReady.cons rfl (fun K hK => ?_) AllReady.nil
                  refine wp_append_own _ _ _ 27 rfl B2 2 i0 (.int .i64 0) 1 8 Try.underlying27 hi0 hz0 hz1_ hz2_ rfl (by decide) (.slice o1 C.length k1) C.length (numCells C) rfl (World.ownsRow.alloc hownO _) ⟨wr.heap.size, 0, none⟩ 1 1 [.int .i64 uid] rfl rfl (by intro j u hj; match j, hj with | 0, hj => cases hj; simp [Addr.add]) (by intro u hu; simp at hu; subst hu; rfl) (by unfold maxLen; omega) (by omega) (by simp; omega) ?_
                  intro y5 w6 ho5 hg5 _
                  have hown5 : OwnN B2 y5 C5 w6 := by
                    rw [HC5.out]
                    unfold OwnN numCells
                    rw [List.map_append, List.length_append]
                    exact ho5
                  obtain ⟨o5, k5, rfl⟩ := hown5.shape
                  have hnb : ∀ k, (Value.slice o1 C.length k1).ownBlock = some k → B2 ≤ k := fun k hk => (World.ownsRow.lt hownO k hk).1
                  have hO6 : w6.heap[G + 1 + 1]? = some (.cells #[.slice p1 E.length l1, .slice o1 C.length k1] 29 (0, 0)) := (hg5.block (G + 1 + 1) (by simp; omega) (by intro e; have := hnb _ e.symm; omega)).trans ((heap_alloc_old wr _ _ hOs).trans hO.out)
                  have x6 := (two_cellsN hO6).2
                  have z6 := two_frozenN hO6 1
                  have hb6 : Below (G + 1 + 1) W w6 := ((hb.alloc (by omega) (.cells #[.int .i64 uid] 2)).drew).grown hg5 (by simp; omega) (fun k hk => by have := hnb k hk; omega)
                  have hE6 : OwnN (G + 3) (.slice p1 E.length l1) E w6 := (World.ownsRow.alloc hE.out _) |> fun hh => World.ownsRow.kept hh hg5 (HAP.out _ hnb)
                  refine hK _ _ ?_
                  clear hK K
                  go_simp
                  refine wpAny_take (i := 10) (v := .pointer (some ⟨G + 1 + 1, 1, none⟩)) rfl (by kernel_rfl) (by kernel_rfl) (by kernel_rfl) (fun _ _ _ h => h) (Or.inl ⟨by rfl, ?_⟩) ?_
                  · intro w
                    go_simp
                    all_goals first | done | (intro h; exfalso; omega)
                  go_simp
                  refine wpAny_ready (rs := [11]) (by kernel_rfl) (by simp) ?_
                  refine AllReady.cons rfl (fun K hK => ?_) AllReady.nil
                  go_simp
                  refine hK _ _ ?_
                  clear hK K
                  go_simp
                  refine wpAny_done (by kernel_rfl) ?_ _
                  have hO7 : Hid ((w6.setCell ⟨G + 1 + 1, 1, none⟩ (.slice o5 C5.length k5)).heap[G + 1 + 1]? = some (.cells #[.slice p1 E.length l1, .slice o5 C5.length k5] 29 (0, 0))) := by show _ = _; simp [World.setCell, Array.getElem?_modify, hO6]
                  have hown7 : Hid (OwnN B2 (.slice o5 C5.length k5) C5 (w6.setCell ⟨G + 1 + 1, 1, none⟩ (.slice o5 C5.length k5))) := hown5.keep (grG_set _ _ _ _) (by
                    cases ho : (Value.slice o5 C5.length k5).ownBlock with
                    | none => exact .inl rfl
                    | some k => exact .inr (by have := (World.ownsRow.lt hown5 k ho).1; intro e; cases e; omega))
                  have hb7 := mkHid (hb6.setCell (p := ⟨G + 1 + 1, 1, none⟩) (Nat.le_refl _) (.slice o5 C5.length k5))
                  have hE7 : Hid (OwnN (G + 3) (.slice p1 E.length l1) E (w6.setCell ⟨G + 1 + 1, 1, none⟩ (.slice o5 C5.length k5))) := hE6.keep (grG_set _ _ _ _) (by
                    cases ho : (Value.slice p1 E.length l1).ownBlock with
                    | none => exact .inl rfl
                    | some k => exact .inr (by have := (World.ownsRow.lt hE6 k ho).1; intro e; cases e; omega))
                  have hs7 : Hid (B2 ≤ (w6.setCell ⟨G + 1 + 1, 1, none⟩ (.slice o5 C5.length k5)).heap.size) := by show _ ≤ _; have := hg5.size; simp at this; simp [World.setCell]; omega
                  clear ho5 hg5 hown5 hO6 x6 z6 hb6 c0 c1 x0 x1 hownO
                  go_wp2
                  go_roundw
                  case rel => exact ⟨i + 1, C5, o5, k5, by omega, by go_num, hC5l.out, hz2, hown7, hO7, hb7, hE7, hs7.out⟩
                  case measure => simp [Lib.intOf]; omega
                · go_simp
                  refine hK _ _ ?_
                  clear hK K
                  go_simp
                  refine wpAny_take (i := 5) (v := .pointer (some (a.add (i * 2)))) rfl (by kernel_rfl) (by kernel_rfl) (by kernel_rfl) (fun _ _ _ h => h) (Or.inl ⟨by rfl, ?_⟩) ?_
                  · intro w
                    go_simp
                    all_goals first | done | (intro h; exfalso; omega)
                  go_simp
                  refine wpAny_take (i := 6) (v := .pointer (some (a.add (i * 2)))) rfl (by kernel_rfl) (by kernel_rfl) (by kernel_rfl) (fun _ _ _ h => h) (Or.inl ⟨by rfl, ?_⟩) ?_
                  · intro w
                    go_simp
                    all_goals first | done | (intro h; exfalso; omega)
                  go_simp
                  refine wpAny_ready (rs := [1, 7]) (by kernel_rfl) (by simp) ?_
                  refine AllReady.cons rfl (fun K hK => ?_) (AllReady.cons rfl (fun K hK => ?_) AllReady.nil)
                  · go_simp
                    refine hK _ _ ?_
                    clear hK K
                    go_simp
                    refine wpAny_ready (rs := [7]) (by kernel_rfl) (by simp) ?_
                    refine AllReady.cons rfl (fun K hK => ?_) AllReady.nil
                    go_simp
                    refine hK _ _ ?_
                    clear hK K
                    go_simp
                    refine wpAny_ready (rs := [8]) (by kernel_rfl) (by simp) ?_
                    refine AllReady.cons rfl (fun K hK => ?_) AllReady.nil
                    go_simp
                    refine hK _ _ ?_
                    clear hK K
                    go_simp
                    refine wpAny_ready (rs := [9]) (by kernel_rfl) (by simp) ?_
                    refine AllReady.cons rfl (fun K hK => ?_) AllReady.nil
                    refine wp_append_own _ _ _ 27 rfl B2 2 i0 (.int .i64 0) 1 8 Try.underlying27 hi0 hz0 hz1_ hz2_ rfl (by decide) (.slice o1 C.length k1) C.length (numCells C) rfl (World.ownsRow.alloc hownO _) ⟨wr.heap.size, 0, none⟩ 1 1 [.int .i64 uid] rfl rfl (by intro j u hj; match j, hj with | 0, hj => cases hj; simp [Addr.add]) (by intro u hu; simp at hu; subst hu; rfl) (by unfold maxLen; omega) (by omega) (by simp; omega) ?_
                    intro y5 w6 ho5 hg5 _
                    have hown5 : OwnN B2 y5 C5 w6 := by
                      rw [HC5.out]
                      unfold OwnN numCells
                      rw [List.map_append, List.length_append]
                      exact ho5
                    obtain ⟨o5, k5, rfl⟩ := hown5.shape
                    have hnb : ∀ k, (Value.slice o1 C.length k1).ownBlock = some k → B2 ≤ k := fun k hk => (World.ownsRow.lt hownO k hk).1
                    have hO6 : w6.heap[G + 1 + 1]? = some (.cells #[.slice p1 E.length l1, .slice o1 C.length k1] 29 (0, 0)) := (hg5.block (G + 1 + 1) (by simp; omega) (by intro e; have := hnb _ e.symm; omega)).trans ((heap_alloc_old wr _ _ hOs).trans hO.out)
                    have x6 := (two_cellsN hO6).2
                    have z6 := two_frozenN hO6 1
                    have hb6 : Below (G + 1 + 1) W w6 := ((hb.alloc (by omega) (.cells #[.int .i64 uid] 2)).drew).grown hg5 (by simp; omega) (fun k hk => by have := hnb k hk; omega)
                    have hE6 : OwnN (G + 3) (.slice p1 E.length l1) E w6 := (World.ownsRow.alloc hE.out _) |> fun hh => World.ownsRow.kept hh hg5 (HAP.out _ hnb)
                    refine hK _ _ ?_
                    clear hK K
                    go_simp
                    refine wpAny_take (i := 10) (v := .pointer (some ⟨G + 1 + 1, 1, none⟩)) rfl (by kernel_rfl) (by kernel_rfl) (by kernel_rfl) (fun _ _ _ h => h) (Or.inl ⟨by rfl, ?_⟩) ?_
                    · intro w
                      go_simp
                      all_goals first | done | (intro h; exfalso; omega)
                    go_simp
                    refine wpAny_ready (rs := [11]) (by kernel_rfl) (by simp) ?_
                    refine AllReady.cons rfl (fun K hK => ?_) AllReady.nil
                    go_simp
                    refine hK _ _ ?_
                    clear hK K
                    go_simp
                    refine wpAny_done (by kernel_rfl) ?_ _
                    have hO7 : Hid ((w6.setCell ⟨G + 1 + 1, 1, none⟩ (.slice o5 C5.length k5)).heap[G + 1 + 1]? = some (.cells #[.slice p1 E.length l1, .slice o5 C5.length k5] 29 (0, 0))) := by show _ = _; simp [World.setCell, Array.getElem?_modify, hO6]
                    have hown7 : Hid (OwnN B2 (.slice o5 C5.length k5) C5 (w6.setCell ⟨G + 1 + 1, 1, none⟩ (.slice o5 C5.length k5))) := hown5.keep (grG_set _ _ _ _) (by
                      cases ho : (Value.slice o5 C5.length k5).ownBlock with
                      | none => exact .inl rfl
                      | some k => exact .inr (by have := (World.ownsRow.lt hown5 k ho).1; intro e; cases e; omega))
                    have hb7 := mkHid (hb6.setCell (p := ⟨G + 1 + 1, 1, none⟩) (Nat.le_refl _) (.slice o5 C5.length k5))
                    have hE7 : Hid (OwnN (G + 3) (.slice p1 E.length l1) E (w6.setCell ⟨G + 1 + 1, 1, none⟩ (.slice o5 C5.length k5))) := hE6.keep (grG_set _ _ _ _) (by
                      cases ho : (Value.slice p1 E.length l1).ownBlock with
                      | none => exact .inl rfl
                      | some k => exact .inr (by have := (World.ownsRow.lt hE6 k ho).1; intro e; cases e; omega))
                    have hs7 : Hid (B2 ≤ (w6.setCell ⟨G + 1 + 1, 1, none⟩ (.slice o5 C5.length k5)).heap.size) := by show _ ≤ _; have := hg5.size; simp at this; simp [World.setCell]; omega
                    clear ho5 hg5 hown5 hO6 x6 z6 hb6 c0 c1 x0 x1 hownO
                    go_wp2
                    go_roundw
                    case rel => exact ⟨i + 1, C5, o5, k5, by omega, by go_num, hC5l.out, hz2, hown7, hO7, hb7, hE7, hs7.out⟩
                    case measure => simp [Lib.intOf]; omega
                  · go_simp
                    refine hK _ _ ?_
                    clear hK K
                    go_simp
                    refine wpAny_ready (rs := [1, 8]) (by kernel_rfl) (by simp) ?_
                    refine AllReady.cons rfl (fun K hK => ?_) (AllReady.cons rfl (fun K hK => ?_) AllReady.nil)
                    · go_simp
                      refine hK _ _ ?_
                      clear hK K
                      go_simp
                      refine wpAny_ready (rs := [8]) (by kernel_rfl) (by simp) ?_
                      refine AllReady.cons rfl (fun K hK => ?_) AllReady.nil
                      go_simp
                      refine hK _ _ ?_
                      clear hK K
                      go_simp
                      refine wpAny_ready (rs := [9]) (by kernel_rfl) (by simp) ?_
                      refine AllReady.cons rfl (fun K hK => ?_) AllReady.nil
                      refine wp_append_own _ _ _ 27 rfl B2 2 i0 (.int .i64 0) 1 8 Try.underlying27 hi0 hz0 hz1_ hz2_ rfl (by decide) (.slice o1 C.length k1) C.length (numCells C) rfl (World.ownsRow.alloc hownO _) ⟨wr.heap.size, 0, none⟩ 1 1 [.int .i64 uid] rfl rfl (by intro j u hj; match j, hj with | 0, hj => cases hj; simp [Addr.add]) (by intro u hu; simp at hu; subst hu; rfl) (by unfold maxLen; omega) (by omega) (by simp; omega) ?_
                      intro y5 w6 ho5 hg5 _
                      have hown5 : OwnN B2 y5 C5 w6 := by
                        rw [HC5.out]
                        unfold OwnN numCells
                        rw [List.map_append, List.length_append]
                        exact ho5
                      obtain ⟨o5, k5, rfl⟩ := hown5.shape
                      have hnb : ∀ k, (Value.slice o1 C.length k1).ownBlock = some k → B2 ≤ k := fun k hk => (World.ownsRow.lt hownO k hk).1
                      have hO6 : w6.heap[G + 1 + 1]? = some (.cells #[.slice p1 E.length l1, .slice o1 C.length k1] 29 (0, 0)) := (hg5.block (G + 1 + 1) (by simp; omega) (by intro e; have := hnb _ e.symm; omega)).trans ((heap_alloc_old wr _ _ hOs).trans hO.out)
                      have x6 := (two_cellsN hO6).2
                      have z6 := two_frozenN hO6 1
                      have hb6 : Below (G + 1 + 1) W w6 := ((hb.alloc (by omega) (.cells #[.int .i64 uid] 2)).drew).grown hg5 (by simp; omega) (fun k hk => by have := hnb k hk; omega)
                      have hE6 : OwnN (G + 3) (.slice p1 E.length l1) E w6 := (World.ownsRow.alloc hE.out _) |> fun hh => World.ownsRow.kept hh hg5 (HAP.out _ hnb)
                      refine hK _ _ ?_
                      clear hK K
                      go_simp
                      refine wpAny_take (i := 10) (v := .pointer (some ⟨G + 1 + 1, 1, none⟩)) rfl (by kernel_rfl) (by kernel_rfl) (by kernel_rfl) (fun _ _ _ h => h) (Or.inl ⟨by rfl, ?_⟩) ?_
                      · intro w
                        go_simp
                        all_goals first | done | (intro h; exfalso; omega)
                      go_simp
                      refine wpAny_ready (rs := [11]) (by kernel_rfl) (by simp) ?_
                      refine AllReady.cons rfl (fun K hK => ?_) AllReady.nil
                      go_simp
                      refine hK _ _ ?_
                      clear hK K
                      go_simp
                      refine wpAny_done (by kernel_rfl) ?_ _
                      have hO7 : Hid ((w6.setCell ⟨G + 1 + 1, 1, none⟩ (.slice o5 C5.length k5)).heap[G + 1 + 1]? = some (.cells #[.slice p1 E.length l1, .slice o5 C5.length k5] 29 (0, 0))) := by show _ = _; simp [World.setCell, Array.getElem?_modify, hO6]
                      have hown7 : Hid (OwnN B2 (.slice o5 C5.length k5) C5 (w6.setCell ⟨G + 1 + 1, 1, none⟩ (.slice o5 C5.length k5))) := hown5.keep (grG_set _ _ _ _) (by
                        cases ho : (Value.slice o5 C5.length k5).ownBlock with
                        | none => exact .inl rfl
                        | some k => exact .inr (by have := (World.ownsRow.lt hown5 k ho).1; intro e; cases e; omega))
                      have hb7 := mkHid (hb6.setCell (p := ⟨G + 1 + 1, 1, none⟩) (Nat.le_refl _) (.slice o5 C5.length k5))
                      have hE7 : Hid (OwnN (G + 3) (.slice p1 E.length l1) E (w6.setCell ⟨G + 1 + 1, 1, none⟩ (.slice o5 C5.length k5))) := hE6.keep (grG_set _ _ _ _) (by
                        cases ho : (Value.slice p1 E.length l1).ownBlock with
                        | none => exact .inl rfl
                        | some k => exact .inr (by have := (World.ownsRow.lt hE6 k ho).1; intro e; cases e; omega))
                      have hs7 : Hid (B2 ≤ (w6.setCell ⟨G + 1 + 1, 1, none⟩ (.slice o5 C5.length k5)).heap.size) := by show _ ≤ _; have := hg5.size; simp at this; simp [World.setCell]; omega
                      clear ho5 hg5 hown5 hO6 x6 z6 hb6 c0 c1 x0 x1 hownO
                      go_wp2
                      go_roundw
                      case rel => exact ⟨i + 1, C5, o5, k5, by omega, by go_num, hC5l.out, hz2, hown7, hO7, hb7, hE7, hs7.out⟩
                      case measure => simp [Lib.intOf]; omega
                    · go_simp
                      refine hK _ _ ?_
                      clear hK K
                      go_simp
                      refine wpAny_ready (rs := [1]) (by kernel_rfl) (by simp) ?_
                      refine AllReady.cons rfl (fun K hK => ?_) AllReady.nil
                      go_simp
                      refine hK _ _ ?_
                      clear hK K
                      go_simp
                      refine wpAny_ready (rs := [9]) (by kernel_rfl) (by simp) ?_
                      refine AllReady.cons rfl (fun K hK => ?_) AllReady.nil
                      refine wp_append_own _ _ _ 27 rfl B2 2 i0 (.int .i64 0) 1 8 Try.underlying27 hi0 hz0 hz1_ hz2_ rfl (by decide) (.slice o1 C.length k1) C.length (numCells C) rfl (World.ownsRow.alloc hownO _) ⟨wr.heap.size, 0, none⟩ 1 1 [.int .i64 uid] rfl rfl (by intro j u hj; match j, hj with | 0, hj => cases hj; simp [Addr.add]) (by intro u hu; simp at hu; subst hu; rfl) (by unfold maxLen; omega) (by omega) (by simp; omega) ?_
                      intro y5 w6 ho5 hg5 _
                      have hown5 : OwnN B2 y5 C5 w6 := by
                        rw [HC5.out]
                        unfold OwnN numCells
                        rw [List.map_append, List.length_append]
                        exact ho5
                      obtain ⟨o5, k5, rfl⟩ := hown5.shape
                      have hnb : ∀ k, (Value.slice o1 C.length k1).ownBlock = some k → B2 ≤ k := fun k hk => (World.ownsRow.lt hownO k hk).1
                      have hO6 : w6.heap[G + 1 + 1]? = some (.cells #[.slice p1 E.length l1, .slice o1 C.length k1] 29 (0, 0)) := (hg5.block (G + 1 + 1) (by simp; omega) (by intro e; have := hnb _ e.symm; omega)).trans ((heap_alloc_old wr _ _ hOs).trans hO.out)
                      have x6 := (two_cellsN hO6).2
                      have z6 := two_frozenN hO6 1
                      have hb6 : Below (G + 1 + 1) W w6 := ((hb.alloc (by omega) (.cells #[.int .i64 uid] 2)).drew).grown hg5 (by simp; omega) (fun k hk => by have := hnb k hk; omega)
                      have hE6 : OwnN (G + 3) (.slice p1 E.length l1) E w6 := (World.ownsRow.alloc hE.out _) |> fun hh => World.ownsRow.kept hh hg5 (HAP.out _ hnb)
                      refine hK _ _ ?_
                      clear hK K
                      go_simp
                      refine wpAny_take (i := 10) (v := .pointer (some ⟨G + 1 + 1, 1, none⟩)) rfl (by kernel_rfl) (by kernel_rfl) (by kernel_rfl) (fun _ _ _ h => h) (Or.inl ⟨by rfl, ?_⟩) ?_
                      · intro w
                        go_simp
                        all_goals first | done | (intro h; exfalso; omega)
                      go_simp
                      refine wpAny_ready (rs := [11]) (by kernel_rfl) (by simp) ?_
                      refine AllReady.cons rfl (fun K hK => ?_) AllReady.nil
                      go_simp
                      refine hK _ _ ?_
                      clear hK K
                      go_simp
                      refine wpAny_done (by kernel_rfl) ?_ _
                      have hO7 : Hid ((w6.setCell ⟨G + 1 + 1, 1, none⟩ (.slice o5 C5.length k5)).heap[G + 1 + 1]? = some (.cells #[.slice p1 E.length l1, .slice o5 C5.length k5] 29 (0, 0))) := by show _ = _; simp [World.setCell, Array.getElem?_modify, hO6]
                      have hown7 : Hid (OwnN B2 (.slice o5 C5.length k5) C5 (w6.setCell ⟨G + 1 + 1, 1, none⟩ (.slice o5 C5.length k5))) := hown5.keep (grG_set _ _ _ _) (by
                        cases ho : (Value.slice o5 C5.length k5).ownBlock with
                        | none => exact .inl rfl
                        | some k => exact .inr (by have := (World.ownsRow.lt hown5 k ho).1; intro e; cases e; omega))
                      have hb7 := mkHid (hb6.setCell (p := ⟨G + 1 + 1, 1, none⟩) (Nat.le_refl _) (.slice o5 C5.length k5))
                      have hE7 : Hid (OwnN (G + 3) (.slice p1 E.length l1) E (w6.setCell ⟨G + 1 + 1, 1, none⟩ (.slice o5 C5.length k5))) := hE6.keep (grG_set _ _ _ _) (by
                        cases ho : (Value.slice p1 E.length l1).ownBlock with
                        | none => exact .inl rfl
                        | some k => exact .inr (by have := (World.ownsRow.lt hE6 k ho).1; intro e; cases e; omega))
                      have hs7 : Hid (B2 ≤ (w6.setCell ⟨G + 1 + 1, 1, none⟩ (.slice o5 C5.length k5)).heap.size) := by show _ ≤ _; have := hg5.size; simp at this; simp [World.setCell]; omega
                      clear ho5 hg5 hown5 hO6 x6 z6 hb6 c0 c1 x0 x1 hownO
                      go_wp2
                      go_roundw
                      case rel => exact ⟨i + 1, C5, o5, k5, by omega, by go_num, hC5l.out, hz2, hown7, hO7, hb7, hE7, hs7.out⟩
                      case measure => simp [Lib.intOf]; omega
              · have u1 : decide (mo < mm) = false := decide_eq_false hm
                rw [if_neg hm] at hz1
                replace hz1 := mkHid hz1
                go_wp2
                go_roundw
                case rel => exact ⟨i + 1, C, o1, k1, by omega, by go_num, by omega, hz1, hown, hO, hB, hE, hBs⟩
                case measure => simp [Lib.intOf]; omega
            · have hz1 : Hid (C = St.chG mo D) := by
                have := hz.out
                rw [List.drop_eq_nil_of_le (by omega), show St.chG mo [] = [] from rfl, List.append_nil] at this
                exact this
              clear hz
              have hRw : wr.heap[G + 1]? = some (.cells #[.slice none 0 0, .slice none 0 0] 29 (0, 0)) := (hb.block (G + 1) (by omega)).trans HR.out
              have hOw := hO.out
              have hapart := mkHid (HAP.out _ (fun k hk => (World.ownsRow.lt hown.out k hk).1))
              have hsz : Hid (G + 1 + 1 < wr.heap.size) := hOs
              have hgz := grown_setRow wr (G + 1) #[.slice p1 E.length l1, .slice o1 C.length k1]
              have hbz := mkHid ((hb0.trans (hb.mono (by omega))).grown hgz (by omega) (fun k hk => by cases hk; omega))
              have f1 : OwnN (G + 3) (.slice p1 E.length l1) E (wr.setRow (G + 1) #[.slice p1 E.length l1, .slice o1 C.length k1]) := hE.out.keep hgz (by
                cases ho : (Value.slice p1 E.length l1).ownBlock with
                | none => exact .inl rfl
                | some k => exact .inr (by have := (World.ownsRow.lt hE.out k ho).1; intro e; cases e; omega))
              have f2 : OwnN B2 (.slice o1 C.length k1) C (wr.setRow (G + 1) #[.slice p1 E.length l1, .slice o1 C.length k1]) := hown.out.keep hgz (by
                cases ho : (Value.slice o1 C.length k1).ownBlock with
                | none => exact .inl rfl
                | some k => exact .inr (by have := (World.ownsRow.lt hown.out k ho).1; intro e; cases e; omega))
              have hTwo : Hid (TwoN w.heap.size (wr.setRow (G + 1) #[.slice p1 E.length l1, .slice o1 C.length k1]) (.slice p1 E.length l1) (.slice o1 C.length k1) (St.chM mo M) (St.chG mo D)) := by
                rw [← hzE.out, ← hz1.out]
                exact ⟨f1.lower (by omega), f2.lower (by omega), hapart.out⟩
              clear hapart f1 f2 hgz
              go_wp2_with (first | (refine wpL_load_row rfl 29 _ rfl (G + 1 + 1) _ 29 (0, 0) _ rfl hOw Try.underlying29 rfl (by kernel_rfl) ?_) | (refine wpL_store_row rfl 29 _ _ rfl (G + 1) _ rfl rfl 29 _ hRw (by kernel_rfl) rfl (by simp [Value.oneCell']) ?_) | go_in)
              refine bodyPost_ret (v := .agg #[.slice p1 E.length l1, .slice o1 C.length k1]) (results_cell_row Try.results5 _ _ (G + 1) 29 _ (0, 0) _ rfl (setRow_heap _ _ _ _ _ _ hRw) Try.underlying29 rfl (by kernel_rfl)) rfl ?_
              exact ⟨_, _, rfl, hTwo, by rw [hG]; exact hbz.out⟩
    · have x2 : decide ((300 : Int) < (D.length : Int)) = true := decide_eq_true (by omega)
      rw [decide_eq_true h1, decide_eq_false h2, Bool.and_false, if_neg (by decide), if_neg (by decide)]
      go_enter Try.func5, Try.ntmps5
      have hR0 := HR.out
      have hO0 := HO.out
      have hgz := grown_setRow W (G + 1) #[.slice none 0 0, .slice none 0 0]
      have hbz := mkHid (hb0.grown hgz (by omega) (fun k hk => by cases hk; omega))
      clear hgz
      go_wp2_with (first | (rw [← HW.out]; refine wpL_load_row rfl 29 _ rfl (G + 1 + 1) _ 29 (0, 0) _ rfl hO0 Try.underlying29 rfl (by kernel_rfl) ?_) | (refine wpL_store_row rfl 29 _ _ rfl (G + 1) _ rfl rfl 29 _ hR0 (by kernel_rfl) rfl (by simp [Value.oneCell']) ?_) | go_in)
      refine bodyPost_ret (v := .agg #[.slice none 0 0, .slice none 0 0]) (results_cell_row Try.results5 _ _ (G + 1) 29 _ (0, 0) _ rfl (setRow_heap _ _ _ _ _ _ hR0) Try.underlying29 rfl (by kernel_rfl)) rfl ?_
      exact ⟨_, _, rfl, ⟨OwnN.nil _ _, OwnN.nil _ _, .inl rfl⟩, by rw [hG]; exact hbz.out⟩
  · have x1 : decide ((300 : Int) < (M.length : Int)) = true := decide_eq_true (by omega)
    rw [decide_eq_false h1, Bool.false_and, if_neg (by decide), if_neg (by decide)]
    go_enter Try.func5, Try.ntmps5
    have hR0 := HR.out
    have hO0 := HO.out
    have hgz := grown_setRow W (G + 1) #[.slice none 0 0, .slice none 0 0]
    have hbz := mkHid (hb0.grown hgz (by omega) (fun k hk => by cases hk; omega))
    clear hgz
    go_wp2_with (first | (rw [← HW.out]; refine wpL_load_row rfl 29 _ rfl (G + 1 + 1) _ 29 (0, 0) _ rfl hO0 Try.underlying29 rfl (by kernel_rfl) ?_) | (refine wpL_store_row rfl 29 _ _ rfl (G + 1) _ rfl rfl 29 _ hR0 (by kernel_rfl) rfl (by simp [Value.oneCell']) ?_) | go_in)
    refine bodyPost_ret (v := .agg #[.slice none 0 0, .slice none 0 0]) (results_cell_row Try.results5 _ _ (G + 1) 29 _ (0, 0) _ rfl (setRow_heap _ _ _ _ _ _ hR0) Try.underlying29 rfl (by kernel_rfl)) rfl ?_
    exact ⟨_, _, rfl, ⟨OwnN.nil _ _, OwnN.nil _ _, .inl rfl⟩, by rw [hG]; exact hbz.out⟩
end Go.Proofs.Ytkklaiphpccldaa
