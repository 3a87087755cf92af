
/- The specification's reader of a script: a block. (By tools/gen/rfblock.py.) -/
import Derived.Test.YtlphojaeaogehaaGreatDoorRfFrame2
namespace Go.Proofs.YtlphojaeaogehaaGreatDoor
open Go.RowKit Go.Lib Go.Maps
set_option maxRecDepth 20000 in
/-- What a region does, cut off from what follows. -/
theorem wp_cut {P : Program} {c : Code} {a : Act} {w : World} {Q : Exit → Act → World → Prop} (R : Act → Act → World → Prop) (h1 : c.wp P (fun x a' w' => x = .normal ∧ R a a' w') a w) (h2 : ∀ a' w', R a a' w' → Q .normal a' w') : c.wp P Q a w :=
  Code.wp_mono (fun _ a' w' h => by obtain ⟨rfl, h⟩ := h; exact h2 a' w' h) h1
def Rf.blkEnd : Rf.KO → Rf.Out
  | .ok i N ks => .ok i (N ++ [{ Rf.zn 1 with kids := ks }])
  | .bad j => .bad j
set_option maxRecDepth 20000 in
theorem Rf.blk_yes (T : List Rf.Tk) (C : Nat → List Nd → Rf.Out) (i : Nat) (N : List Nd) (h : Rf.is T i 112 [123] = true) : Rf.blk T C i N = Rf.blkEnd (Rf.cmds T C T.length (i + 1) N []) := by
  unfold Rf.blk
  rw [if_pos h]
  cases Rf.cmds T C T.length (i + 1) N [] <;> rfl
def big (A : List NdE) : Bool := A.any fun e => decide (100 < e.1.names.length) || decide (100 < e.1.keys.length)
set_option maxRecDepth 20000 in
theorem big_app (A B : List NdE) : big (A ++ B) = (big A || big B) := List.any_append
/-- What becomes of a reading, said in one. -/
def Rf.given (bad : Bool) (i : Nat) (o : Rf.Out) : Rf.Out := if bad = true then .bad i else o
set_option maxRecDepth 20000 in
theorem RdP.mk2 {g : Nat} {tv : Value} {T : List Rf.Tk} {TE : List TkE} {c : Nat} {P : Nat → List Nd → Rf.Out} {i : Nat} {bad many : Bool} {v : Value} {E : List NdE} {w : World} {z : Int} {A : List NdE} {i' : Nat} {bad' many' : Bool} {v' : Value} {w' : World} (R : Rf.Out) (hR : R = Rf.given bad i (P i (E.map (·.1))))
    (rs : Rs g tv TE i' bad' many' v' (E ++ A) w') (ef : Ef g v.ownBlock w w') (nw : Nw w v v') (fr : ∀ s ∈ slots A, s.2 = [] ∨ ∀ k, s.1.ownBlock = some k → w.heap.size ≤ k) (frN : ∀ s ∈ kslots A, s.2 = [] ∨ ∀ k, s.1.ownBlock = some k → w.heap.size ≤ k)
    (lt : i' < T.length) (le : i ≤ i') (cnt : A.length + 3 * i ≤ 3 * i' + c) (cnt0 : bad' = false → A.length + 3 * i + 1 ≤ 3 * i' ∧ i < i')
    (h1 : bad' = true → R = .bad i') (h2 : bad' = false → R = .ok i' ((E ++ A).map (·.1)) ∧ z = Rf.last ((E ++ A).map (·.1)) ∧ many' = (many || big A)) : RdP g tv T TE c P i bad many v E w z A i' bad' many' v' w' := by
  refine ⟨rs, ef, nw, fr, frN, lt, le, fun h => (cnt0 h).2, cnt, fun h => (cnt0 h).1, ?_⟩
  unfold Rf.given at hR
  cases hb : bad with
  | true =>
    rw [hb, if_pos rfl] at hR
    rw [if_pos rfl]
    cases hb' : bad' with
    | true =>
      have := h1 hb'
      rw [hR] at this
      cases this
      exact ⟨rfl, rfl⟩
    | false =>
      have := (h2 hb').1
      rw [hR] at this
      cases this
  | false =>
    rw [hb, if_neg (by decide)] at hR
    rw [if_neg (by decide), ← hR]
    cases hb' : bad' with
    | true => rw [h1 hb']; exact ⟨rfl, rfl⟩
    | false => rw [(h2 hb').1]; exact ⟨rfl, rfl, rfl, (h2 hb').2.1, (h2 hb').2.2⟩
set_option maxRecDepth 20000 in
theorem RdP.given {g : Nat} {tv : Value} {T : List Rf.Tk} {TE : List TkE} {c : Nat} {P : Nat → List Nd → Rf.Out} {i : Nat} {many : Bool} {v : Value} {E : List NdE} {w : World} {z : Int} {A : List NdE} {i' : Nat} {bad' many' : Bool} {v' : Value} {w' : World} (h : RdP g tv T TE c P i false many v E w z A i' bad' many' v' w') :
    (bad' = true → P i (E.map (·.1)) = .bad i') ∧ (bad' = false → P i (E.map (·.1)) = .ok i' ((E ++ A).map (·.1)) ∧ z = Rf.last ((E ++ A).map (·.1)) ∧ many' = (many || big A)) := by
  have ho := h.out
  rw [if_neg (by decide)] at ho
  cases hP : P i (E.map (·.1)) with
  | ok j N =>
    rw [hP] at ho
    obtain ⟨rfl, rfl, rfl, hz, hm⟩ := ho
    exact ⟨fun e => (by cases e), fun _ => ⟨rfl, hz, hm⟩⟩
  | bad j =>
    rw [hP] at ho
    obtain ⟨rfl, rfl⟩ := ho
    exact ⟨fun _ => rfl, fun e => (by cases e)⟩
set_option maxRecDepth 20000 in
theorem own_shape {w : World} {B s m : Nat} {e : TypeId} {x : Value} {xs : List Value} (h : w.ownsRow B e s x m xs) : ∃ o cap, x = .slice o m cap := by
  rcases h.2 with ⟨e, h0⟩ | ⟨q, cap, cur, e, -⟩
  · exact ⟨none, 0, by rw [e, h0]⟩
  · exact ⟨_, cap, e⟩
set_option maxRecDepth 20000 in
theorem below_drew {B : Nat} {w w' : World} (h : Below B w w') : Below B w w'.drew := ⟨h.os, h.tape, h.output, h.size, h.block⟩
/-- How much is left. -/
def blkM (T : List Rf.Tk) (g : Nat) (wr : World) : Nat := 2 * (T.length - (Lib.intOf ((wr.cell? ⟨g, 1, none⟩).getD undef)).toNat) + (match wr.cell? ⟨g, 2, none⟩ with | some (.bool false) => 1 | _ => 0)
/-- A block that is being read. -/
def BlkInv (g : Nat) (tv : Value) (T : List Rf.Tk) (TE : List TkE) (v : Value) (E : List NdE) (w : World) (B i : Nat) (many : Bool) (R : Rf.Out) (C : Nat → List Nd → Rf.Out) (wr : World) : Prop :=
  ∃ (j : Nat) (bd mn : Bool) (v' vd : Value) (A : List NdE) (ks : List Int) (F : Nat), j < T.length ∧ i ≤ j ∧ T.length ≤ j + F ∧ ks.length ≤ j + 1 ∧ (bd = false → ks.length ≤ j) ∧ A.length + 3 * i ≤ 3 * j ∧ Hid (Fm g tv TE v E w B { Rf.zn 1 with kids := ks } (.slice none 0 0) (.slice none 0 0) vd j bd mn v' A wr) ∧ Hid (bd = true → R = .bad j) ∧ Hid (bd = false → i < j ∧ R = Rf.blkEnd (Rf.cmds T C F j ((E ++ A).map (·.1)) ks) ∧ mn = (many || big A))
set_option maxRecDepth 20000 in
theorem RdP.res {g : Nat} {tv : Value} {T : List Rf.Tk} {TE : List TkE} {c : Nat} {P : Nat → List Nd → Rf.Out} {i : Nat} {bad many : Bool} {v : Value} {E : List NdE} {w : World} {z : Int} {A : List NdE} {i' : Nat} {bad' many' : Bool} {v' : Value} {w' : World} (h : RdP g tv T TE c P i bad many v E w z A i' bad' many' v' w') :
    (bad' = true → Rf.given bad i (P i (E.map (·.1))) = .bad i') ∧ (bad' = false → bad = false ∧ P i (E.map (·.1)) = .ok i' ((E ++ A).map (·.1)) ∧ z = Rf.last ((E ++ A).map (·.1)) ∧ many' = (many || big A)) := by
  cases bad with
  | true =>
    have ho := h.out
    rw [if_pos rfl] at ho
    obtain ⟨rfl, rfl⟩ := ho
    exact ⟨fun _ => rfl, fun e => (by cases e)⟩
  | false =>
    obtain ⟨h1, h2⟩ := h.given
    exact ⟨fun e => (by rw [Rf.given, if_neg (by decide), h1 e]), fun e => ⟨rfl, h2 e⟩⟩
set_option maxRecDepth 20000 in
set_option maxHeartbeats 8000000 in
theorem specBlock (g : Nat) (tv : Value) (l : List UInt8) (T : List Rf.Tk) (TE : List TkE) (f : Nat) (C : Nat → List Nd → Rf.Out) (hK : Tks l T TE) (hT : T.length ≤ 30000) (hC : RdC 10 g tv T TE 0 f C) :
    RdC 28 g tv T TE 1 (f + 1) (Rf.blk T C) := by
  intro i bad many v E w h hi hf hE
  obtain ⟨R, hR⟩ : ∃ R, R = Rf.given bad i (Rf.blk T C i (E.map (·.1))) := ⟨_, rfl⟩
  have hgl := heap_ltM h.blk
  have hll := hK.length
  have hW : Calls Tryz.prog 31 #[.pointer (some ⟨g, 0, none⟩), .int .u8 ((112 : Nat) : Int), .string ⟨#[123]⟩] w fun e w1 => e = .returned (.tuple #[]) ∧ ∃ j bd, Rs g tv TE j bd many v E w1 ∧ Ef g none w w1 ∧ j < T.length ∧ i ≤ j ∧ (bd = true → R = .bad j) ∧ (bd = false → i < j ∧ R = Rf.blkEnd (Rf.cmds T C T.length j (E.map (·.1)) [])) := by
    by_cases hA : (!bad && Rf.is T i 112 [123]) = true
    · obtain ⟨hb0, hA1⟩ : bad = false ∧ Rf.is T i 112 [123] = true := by cases bad <;> simp_all
      subst hb0
      refine (specWantY g tv TE i many v E w 112 ⟨#[123]⟩ h (by omega) (by omega) (by rw [hK.is i hi]; exact hA1)).mono ?_
      rintro e w1 ⟨rfl, h1, e1⟩
      refine ⟨rfl, i + 1, false, h1, e1, hK.is_nxt i hi 112 [123] hA1, by omega, fun e => (by cases e), fun _ => ⟨by omega, ?_⟩⟩
      rw [hR, ← Rf.blk_yes T C i _ hA1]
      rfl
    · refine (specWantN g tv TE i bad many v E w 112 ⟨#[123]⟩ h (by omega) (by rw [hK.is i hi]; simpa using hA)).mono ?_
      rintro e w1 ⟨rfl, h1, e1⟩
      refine ⟨rfl, i, true, h1, e1, hi, Nat.le_refl _, fun _ => ?_, fun e => (by cases e)⟩
      rw [hR]
      cases bad
      · unfold Rf.given Rf.blk
        rw [if_neg (by decide), if_neg (by simpa using hA)]
      · rfl
  have HR := mkHid hR
  have HK := mkHid hK
  have HC := mkHid hC
  have HE := mkHid hE
  clear hC hR h hK
  go_enter Tryz.func28, Tryz.ntmps28
  go_wp2_with (go_at_call 31; fail)
  refine hW.mono ?_
  rintro e w1 ⟨rfl, j, bd, h1, e1, hj, hij, r1, r2⟩
  have S0 := mkHid (Fm.start hgl h1 e1 1)
  clear h1 e1 hW
  obtain ⟨B, hB⟩ : ∃ B, w1.heap.size = B := ⟨_, rfl⟩
  rw [hB] at S0
  go_wp2
  replace S0 : Hid (BlkInv g tv T TE v E w B i many R C (w1.alloc (.cells (sevC (Rf.zn 1) (.slice none 0 0) (.slice none 0 0) (.slice none 0 0)) 37))) :=
    ⟨j, bd, many, v, _, [], [], T.length, hj, hij, by omega, by simp, by simp, by simp; omega, S0, r1, fun e => ⟨(r2 e).1, by rw [List.append_nil]; exact (r2 e).2, by simp [big]⟩⟩
  clear r1 r2 hj hij
  clear hB
  go_loopw [] (fun wr => BlkInv g tv T TE v E w B i many R C wr) (fun wr => blkM T g wr)
  case atStart => exact S0.out
  case round =>
    clear S0
    obtain ⟨j, bd, mn, v', vd, A, ks, F, hj, hij, hF, hks, hks2, hcn, S, R1, R2⟩ := hrel
    have c1 := mkHid (five S.out.rs.blk).2.1
    have c2 := (five S.out.rs.blk).2.2.1
    have C2 := mkHid c2
    obtain ⟨F, rfl⟩ : ∃ F', F = F' + 1 := ⟨F - 1, by omega⟩
    cases bd
    · have hks2 := hks2 rfl
      obtain ⟨hij2, hRb, hmn⟩ := R2.out rfl
      replace hRb := mkHid hRb
      replace hmn := mkHid hmn
      clear R1 R2
      by_cases hB : Rf.is T j 112 [125] = true
      · go_wp2_with (go_at_call 46; fail)
        refine (specIs g tv TE j false mn v' (E ++ A) _ 112 ⟨#[125]⟩ S.out.rs (by omega)).mono ?_
        rintro e W ⟨rfl, hb2⟩
        rw [HK.out.is j hj, hB]
        have S2 := mkHid (S.out.small (S.out.rs.below hb2) (Ef.of_below hb2))
        clear hb2 S c2
        go_wp2_with (go_at_call 31; fail)
        have hj1 := HK.out.is_nxt j hj 112 [125] hB
        refine (specWantY g tv TE j mn v' (E ++ A) _ 112 ⟨#[125]⟩ S2.out.rs (by omega) (by omega) (by rw [HK.out.is j hj]; exact hB)).mono ?_
        rintro e w3 ⟨rfl, h3, e3⟩
        have S3 := mkHid (S2.out.small h3 e3)
        clear h3 e3 S2
        have HRR : Hid (R = .ok (j + 1) ((E ++ A).map (·.1) ++ [{ Rf.zn 1 with kids := ks }])) := by
          show R = _
          rw [hRb.out, Rf.cmds, if_pos hB]
          rfl
        clear hRb
        obtain ⟨oD, cD, eD⟩ := own_shape S3.out.od
        subst eD
        have hbk := S3.out.blk
        have d0 : w3.cell? ⟨B, 0, none⟩ = some (.int .i64 1) := by simp [World.cell?, hbk]; rfl
        have d1 : w3.cell? ⟨B, 1, none⟩ = some (.int .i64 0) := by simp [World.cell?, hbk]; rfl
        have d2 : w3.cell? ⟨B, 2, none⟩ = some (.int .i64 0) := by simp [World.cell?, hbk]; rfl
        have d3 : w3.cell? ⟨B, 3, none⟩ = some (.string ⟨#[]⟩) := by simp [World.cell?, hbk]; rfl
        have d4 : w3.cell? ⟨B, 4, none⟩ = some (.slice none 0 0) := by simp [World.cell?, hbk]
        have d5 : w3.cell? ⟨B, 5, none⟩ = some (.slice none 0 0) := by simp [World.cell?, hbk]
        have d6 : w3.cell? ⟨B, 6, none⟩ = some (.slice oD ks.length cD) := by simp [World.cell?, hbk]
        clear hbk
        have kP := mkHid (S3.out.put (by have := HE.out; simp; omega))
        clear S3
        go_wp2_with (go_at_call 11; fail)
        refine kP.out.mono ?_
        rintro e w4 ⟨rfl, v2, h4, e4, n4, f4, g4⟩
        clear d0 d1 d2 d3 d4 d5 d6 kP
        go_wp2
        go_ret
        refine ⟨_, _, j + 1, false, mn, v2, rfl, RdP.mk2 R HR.out h4 e4 n4 f4 g4 hj1 (by omega) (by simp; omega) (fun _ => ⟨by simp; omega, by omega⟩) (fun e => (by cases e)) (fun _ => ⟨?_, ?_, ?_⟩)⟩
        · rw [HRR.out]; simp
        · simp [Rf.last]; omega
        · rw [hmn.out, big_app]; simp [big, Rf.zn]
      · have hB1 : Rf.is T j 112 [125] = false := by simpa using hB
        go_wp2_with (go_at_call 46; fail)
        refine (specIs g tv TE j false mn v' (E ++ A) _ 112 ⟨#[125]⟩ S.out.rs (by omega)).mono ?_
        rintro e W ⟨rfl, hb2⟩
        rw [HK.out.is j hj, hB1]
        have S2 := mkHid (S.out.small (S.out.rs.below hb2) (Ef.of_below hb2))
        clear hb2 S c2
        go_wp2

        obtain ⟨RR, hRR⟩ : ∃ RR : Act → Act → World → Prop, RR = (fun a a' w' => ∃ (z : Int) (A1 : List NdE) (j' : Nat) (bd' mn' : Bool) (v1 vd' : Value) (hh : Nat) (w3 : World), a' = (((((((a.put (some 17) (.pointer (some ⟨B, 6, none⟩))).put (some 18) vd).put (some 19) (.pointer (some ⟨g, 0, none⟩))).put (some 20) (.int .i64 z)).put (some 21) (.slice (some ⟨hh, 0, none⟩) 1 1)).put (some 22) vd').put (some 23) (.pointer (some ⟨B, 6, none⟩))) ∧ Hid (Fm g tv TE v E w B { Rf.zn 1 with kids := ks ++ [z] } (.slice none 0 0) (.slice none 0 0) vd' j' bd' mn' v1 (A ++ A1) w') ∧ Hid (RdP g tv T TE 0 C j false mn v' (E ++ A) W.drew z A1 j' bd' mn' v1 w3)) := ⟨_, rfl⟩
        have HRR := mkHid hRR
        clear hRR
        refine wp_cut RR ?_ ?_
        · have SD := mkHid (S2.out.small (S2.out.rs.below (below_drew (Below.refl _ _))) (Ef.of_below (below_drew (Below.refl _ _))))
          have kC := mkHid (HC.out j false mn v' (E ++ A) W.drew SD.out.rs hj (by omega) (by have := HE.out; simp; omega))
          obtain ⟨oD, cD, eD⟩ := own_shape S2.out.od
          subst eD
          have y0 : W.cell? ⟨B, 6, none⟩ = some (.slice oD ks.length cD) := by simp [World.cell?, S2.out.blk]
          refine wp_region_any (by kernel_rfl) ?_
          refine wpAny_take (i := 0) (v := (.pointer (some ⟨B, 6, none⟩))) rfl (by kernel_rfl) (by kernel_rfl) (by kernel_rfl) (fun _ _ _ h => nomatch h.1) (Or.inl ⟨by rfl, ?_⟩) ?_
          · intro w
            go_simp
            all_goals first | done | (intro h; exfalso; omega) | omega
          go_simp
          refine wpAny_take (i := 2) (v := (.pointer (some ⟨g, 0, none⟩))) rfl (by kernel_rfl) (by kernel_rfl) (by kernel_rfl) (fun _ _ _ h => nomatch h.1) (Or.inl ⟨by rfl, ?_⟩) ?_
          · intro w
            go_simp
            all_goals first | done | (intro h; exfalso; omega) | omega
          go_simp
          refine wpAny_ready (rs := [1, 3]) (by kernel_rfl) (by simp) ?_
          refine AllReady.cons rfl (fun K hK => ?_) (AllReady.cons rfl (fun K hK => ?_) AllReady.nil)
          · skip
            go_simp
            refine hK _ _ ?_
            clear hK K
            go_simp
            refine wpAny_ready (rs := [3]) (by kernel_rfl) (by simp) ?_
            refine AllReady.cons rfl (fun K hK => ?_) AllReady.nil
            go_simp
            refine kC.out.mono ?_
            rintro e w3 ⟨z, A1, j', bd', mn', v1, rfl, hp⟩
            have S3 := mkHid (SD.out.call hp)
            have HP := mkHid hp
            clear hp
            have y3 : w3.cell? ⟨B, 6, none⟩ = some (.slice oD ks.length cD) := by simp [World.cell?, S3.out.blk]
            have y4 : (w3.alloc (.cells #[.int .i64 z] 2)).cell? ⟨B, 6, none⟩ = some (.slice oD ks.length cD) := (World.cell?_of_block (((Below.refl w3.heap.size w3).alloc (Nat.le_refl _) _).block B (heap_ltM S3.out.blk))).trans y3
            go_simp
            refine hK _ _ ?_
            clear hK K
            go_simp
            refine wpAny_ready (rs := [4]) (by kernel_rfl) (by simp) ?_
            refine AllReady.cons rfl (fun K hK => ?_) AllReady.nil
            go_simp
            refine hK _ _ ?_
            clear hK K
            go_simp
            refine wpAny_ready (rs := [5]) (by kernel_rfl) (by simp) ?_
            refine AllReady.cons rfl (fun K hK => ?_) AllReady.nil
            refine opAppKd _ _ rfl w.heap.size (.slice oD ks.length cD) ks rfl (S3.out.od.below ((Below.refl _ _).alloc (Nat.le_refl _) _)) z w3.heap.size 1 rfl (by simp) (by omega) (by have := S3.out.ef.size; simp; omega) ?_
            intro vd' w4 ho4 hg4 hn4
            obtain ⟨x6, z6, s5⟩ := S3.out.kid ho4 hg4 hn4
            obtain ⟨o5, c5, e5⟩ := own_shape ho4
            rw [List.length_append, List.length_singleton] at e5
            subst e5
            have S5 := mkHid s5
            clear s5 ho4 hg4 hn4
            refine hK _ _ ?_
            clear hK K
            go_simp
            refine wpAny_take (i := 6) (v := (.pointer (some ⟨B, 6, none⟩))) rfl (by kernel_rfl) (by kernel_rfl) (by kernel_rfl) (fun _ _ _ h => nomatch h.1) (Or.inl ⟨by rfl, ?_⟩) ?_
            · intro w
              go_simp
              all_goals first | done | (intro h; exfalso; omega) | omega
            go_simp
            refine wpAny_ready (rs := [7]) (by kernel_rfl) (by simp) ?_
            refine AllReady.cons rfl (fun K hK => ?_) AllReady.nil
            go_simp
            refine hK _ _ ?_
            clear hK K
            go_simp
            refine wpAny_done (by kernel_rfl) ?_ _
            first | refine ⟨rfl, ?_⟩ | skip
            rw [HRR.out]
            exact ⟨z, A1, j', bd', mn', v1, .slice o5 (ks.length + 1) c5, w3.heap.size, w3, by kernel_rfl, S5, HP⟩
          · skip
            go_simp
            refine kC.out.mono ?_
            rintro e w3 ⟨z, A1, j', bd', mn', v1, rfl, hp⟩
            have S3 := mkHid (SD.out.call hp)
            have HP := mkHid hp
            clear hp
            have y3 : w3.cell? ⟨B, 6, none⟩ = some (.slice oD ks.length cD) := by simp [World.cell?, S3.out.blk]
            have y4 : (w3.alloc (.cells #[.int .i64 z] 2)).cell? ⟨B, 6, none⟩ = some (.slice oD ks.length cD) := (World.cell?_of_block (((Below.refl w3.heap.size w3).alloc (Nat.le_refl _) _).block B (heap_ltM S3.out.blk))).trans y3
            go_simp
            refine hK _ _ ?_
            clear hK K
            go_simp
            refine wpAny_ready (rs := [1, 4]) (by kernel_rfl) (by simp) ?_
            refine AllReady.cons rfl (fun K hK => ?_) (AllReady.cons rfl (fun K hK => ?_) AllReady.nil)
            · skip
              go_simp
              refine hK _ _ ?_
              clear hK K
              go_simp
              refine wpAny_ready (rs := [4]) (by kernel_rfl) (by simp) ?_
              refine AllReady.cons rfl (fun K hK => ?_) AllReady.nil
              go_simp
              refine hK _ _ ?_
              clear hK K
              go_simp
              refine wpAny_ready (rs := [5]) (by kernel_rfl) (by simp) ?_
              refine AllReady.cons rfl (fun K hK => ?_) AllReady.nil
              refine opAppKd _ _ rfl w.heap.size (.slice oD ks.length cD) ks rfl (S3.out.od.below ((Below.refl _ _).alloc (Nat.le_refl _) _)) z w3.heap.size 1 rfl (by simp) (by omega) (by have := S3.out.ef.size; simp; omega) ?_
              intro vd' w4 ho4 hg4 hn4
              obtain ⟨x6, z6, s5⟩ := S3.out.kid ho4 hg4 hn4
              obtain ⟨o5, c5, e5⟩ := own_shape ho4
              rw [List.length_append, List.length_singleton] at e5
              subst e5
              have S5 := mkHid s5
              clear s5 ho4 hg4 hn4
              refine hK _ _ ?_
              clear hK K
              go_simp
              refine wpAny_take (i := 6) (v := (.pointer (some ⟨B, 6, none⟩))) rfl (by kernel_rfl) (by kernel_rfl) (by kernel_rfl) (fun _ _ _ h => nomatch h.1) (Or.inl ⟨by rfl, ?_⟩) ?_
              · intro w
                go_simp
                all_goals first | done | (intro h; exfalso; omega) | omega
              go_simp
              refine wpAny_ready (rs := [7]) (by kernel_rfl) (by simp) ?_
              refine AllReady.cons rfl (fun K hK => ?_) AllReady.nil
              go_simp
              refine hK _ _ ?_
              clear hK K
              go_simp
              refine wpAny_done (by kernel_rfl) ?_ _
              first | refine ⟨rfl, ?_⟩ | skip
              rw [HRR.out]
              exact ⟨z, A1, j', bd', mn', v1, .slice o5 (ks.length + 1) c5, w3.heap.size, w3, by kernel_rfl, S5, HP⟩
            · skip
              go_simp
              refine hK _ _ ?_
              clear hK K
              go_simp
              refine wpAny_ready (rs := [1]) (by kernel_rfl) (by simp) ?_
              refine AllReady.cons rfl (fun K hK => ?_) AllReady.nil
              go_simp
              refine hK _ _ ?_
              clear hK K
              go_simp
              refine wpAny_ready (rs := [5]) (by kernel_rfl) (by simp) ?_
              refine AllReady.cons rfl (fun K hK => ?_) AllReady.nil
              refine opAppKd _ _ rfl w.heap.size (.slice oD ks.length cD) ks rfl (S3.out.od.below ((Below.refl _ _).alloc (Nat.le_refl _) _)) z w3.heap.size 1 rfl (by simp) (by omega) (by have := S3.out.ef.size; simp; omega) ?_
              intro vd' w4 ho4 hg4 hn4
              obtain ⟨x6, z6, s5⟩ := S3.out.kid ho4 hg4 hn4
              obtain ⟨o5, c5, e5⟩ := own_shape ho4
              rw [List.length_append, List.length_singleton] at e5
              subst e5
              have S5 := mkHid s5
              clear s5 ho4 hg4 hn4
              refine hK _ _ ?_
              clear hK K
              go_simp
              refine wpAny_take (i := 6) (v := (.pointer (some ⟨B, 6, none⟩))) rfl (by kernel_rfl) (by kernel_rfl) (by kernel_rfl) (fun _ _ _ h => nomatch h.1) (Or.inl ⟨by rfl, ?_⟩) ?_
              · intro w
                go_simp
                all_goals first | done | (intro h; exfalso; omega) | omega
              go_simp
              refine wpAny_ready (rs := [7]) (by kernel_rfl) (by simp) ?_
              refine AllReady.cons rfl (fun K hK => ?_) AllReady.nil
              go_simp
              refine hK _ _ ?_
              clear hK K
              go_simp
              refine wpAny_done (by kernel_rfl) ?_ _
              first | refine ⟨rfl, ?_⟩ | skip
              rw [HRR.out]
              exact ⟨z, A1, j', bd', mn', v1, .slice o5 (ks.length + 1) c5, w3.heap.size, w3, by kernel_rfl, S5, HP⟩
        rw [HRR.out]
        clear HRR RR
        rintro a' w5 ⟨z, A1, j', bd', mn', v1, vd', hh, w3, rfl, S5, HP⟩
        obtain ⟨q1, q2⟩ := HP.out.given
        have hlt := HP.out.lt
        have hle := HP.out.le
        have hadv := HP.out.adv
        have hcnt := HP.out.cnt
        have c3 := mkHid (five S5.out.rs.blk).2.1
        have c4 := mkHid (five S5.out.rs.blk).2.2.1
        clear HP S2
        cases bd'
        · have hadv := hadv rfl
          obtain ⟨p1, p2, p3⟩ := q2 rfl
          have hRn : Hid (false = false → i < j' ∧ R = Rf.blkEnd (Rf.cmds T C F j' ((E ++ (A ++ A1)).map (·.1)) (ks ++ [z])) ∧ mn' = (many || big (A ++ A1))) := by
            refine fun _ => ⟨by omega, ?_, ?_⟩
            · rw [hRb.out, Rf.cmds, if_neg hB, p1, p2, ← List.append_assoc]
            · rw [p3, hmn.out, big_app, Bool.or_assoc]
          have hRb2 : Hid (false = true → R = Rf.Out.bad j') := fun e => (by cases e)
          clear q1 q2 p1 p2 p3 hRb hmn
          have HI : Hid (BlkInv g tv T TE v E w B i many R C w5) := ⟨j', false, mn', v1, vd', A ++ A1, ks ++ [z], F, hlt, by omega, by omega, by simp; omega, by simp; omega, by simp; omega, S5, hRb2, hRn⟩
          have HM : Hid (blkM T g w5 < blkM T g wr) := by
            show _ < _
            unfold blkM
            rw [c1.out, C2.out, c3.out, c4.out]
            simp [Lib.intOf]
            omega
          clear S5 hRb2 hRn
          go_wp2
          go_roundw
          case rel => first | exact HI.out | exact ⟨_, _, _, _, _, _, _, _, _, _, _, _, _, _, _, _, _, HI.out, rfl⟩
          case measure => exact HM.out
        · have hRb2 : Hid (true = true → R = Rf.Out.bad j') := by
            refine fun _ => ?_
            rw [hRb.out, Rf.cmds, if_neg hB, q1 rfl]
            rfl
          have hRn : Hid (true = false → i < j' ∧ R = Rf.blkEnd (Rf.cmds T C (F + 1) j' ((E ++ (A ++ A1)).map (·.1)) (ks ++ [z])) ∧ mn' = (many || big (A ++ A1))) := fun e => (by cases e)
          clear q1 q2 hRb hmn
          have HI : Hid (BlkInv g tv T TE v E w B i many R C w5) := ⟨j', true, mn', v1, vd', A ++ A1, ks ++ [z], F + 1, hlt, by omega, by omega, by simp; omega, fun e => (by cases e), by simp; omega, S5, hRb2, hRn⟩
          have HM : Hid (blkM T g w5 < blkM T g wr) := by
            show _ < _
            unfold blkM
            rw [c1.out, C2.out, c3.out, c4.out]
            simp [Lib.intOf]
            omega
          clear S5 hRb2 hRn
          go_wp2
          go_roundw
          case rel => first | exact HI.out | exact ⟨_, _, _, _, _, _, _, _, _, _, _, _, _, _, _, _, _, HI.out, rfl⟩
          case measure => exact HM.out
    · clear R2
      go_wp2_with (go_at_call 31; fail)
      refine (specWantN g tv TE j true mn v' (E ++ A) _ 112 ⟨#[125]⟩ S.out.rs (by omega) rfl).mono ?_
      rintro e w3 ⟨rfl, h3, e3⟩
      have S3 := mkHid (S.out.small h3 e3)
      clear h3 e3 S
      obtain ⟨oD, cD, eD⟩ := own_shape S3.out.od
      subst eD
      have hbk := S3.out.blk
      have d0 : w3.cell? ⟨B, 0, none⟩ = some (.int .i64 1) := by simp [World.cell?, hbk]; rfl
      have d1 : w3.cell? ⟨B, 1, none⟩ = some (.int .i64 0) := by simp [World.cell?, hbk]; rfl
      have d2 : w3.cell? ⟨B, 2, none⟩ = some (.int .i64 0) := by simp [World.cell?, hbk]; rfl
      have d3 : w3.cell? ⟨B, 3, none⟩ = some (.string ⟨#[]⟩) := by simp [World.cell?, hbk]; rfl
      have d4 : w3.cell? ⟨B, 4, none⟩ = some (.slice none 0 0) := by simp [World.cell?, hbk]
      have d5 : w3.cell? ⟨B, 5, none⟩ = some (.slice none 0 0) := by simp [World.cell?, hbk]
      have d6 : w3.cell? ⟨B, 6, none⟩ = some (.slice oD ks.length cD) := by simp [World.cell?, hbk]
      clear hbk
      have kP := mkHid (S3.out.put (by have := HE.out; simp; omega))
      clear S3
      go_wp2_with (go_at_call 11; fail)
      refine kP.out.mono ?_
      rintro e w4 ⟨rfl, v2, h4, e4, n4, f4, g4⟩
      clear d0 d1 d2 d3 d4 d5 d6 kP
      go_wp2
      go_ret
      exact ⟨_, _, j, true, mn, v2, rfl, RdP.mk2 R HR.out h4 e4 n4 f4 g4 hj (by omega) (by simp; omega) (fun e => (by cases e)) (fun _ => R1.out (by trivial)) (fun e => (by cases e))⟩
end Go.Proofs.YtlphojaeaogehaaGreatDoor
