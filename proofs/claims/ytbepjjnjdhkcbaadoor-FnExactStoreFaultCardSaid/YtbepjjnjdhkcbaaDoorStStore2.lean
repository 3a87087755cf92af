
/- The program's walk over a store's boxes. -/
import Derived.Test.YtbepjjnjdhkcbaaDoorStStore
namespace Go.Proofs.YtbepjjnjdhkcbaaDoor
open Go.RowKit Go.Lib Go.Maps
def sameV (P : List GMailbox) (z : Int) : Bool := P.any (fun x => x.validity == z)
set_option maxRecDepth 20000 in
set_option maxHeartbeats 16000000 in
theorem implStore (n : GStore) (v1 : Value) (lo : Nat) (mx : Int) (w : World) (hm : w.cell? ⟨0, 0, none⟩ = some (.int .i64 mx)) (hI : GStoreIn lo w.heap.size w n v1) (hf : n.fits 1048576) :
    Calls Tryd.prog 16 #[GStoreV n v1] w fun e w' => e = .returned (.bool (St.okStore n)) ∧ Below w.heap.size w w' := by
  rw [St.okStore_eq]
  obtain ⟨Z, hZ⟩ : ∃ Z, St.storeP n = Z := ⟨_, rfl⟩
  rw [hZ]
  unfold St.storeP at hZ
  replace hZ := mkHid hZ
  have hm0 := bcell_ltS hm
  have HI := mkHid hI
  have cBy0 := mkHid (fun (w' : World) (hI' : GStoreIn lo w'.heap.size w' n v1) (hs : ∀ b ∈ n.boxes, shortB b) => implBytes n v1 lo w' hI' hf hs)
  obtain ⟨⟨a1, c1, rfl, t1⟩⟩ := hI
  obtain ⟨f1, f2⟩ := hf
  obtain ⟨W, hW⟩ : ∃ W, W = w.alloc (.cells #[.int .i64 n.nextValidity, .slice a1 n.boxes.length c1] 29) := ⟨_, rfl⟩
  have hbA : Below w.heap.size w W := by rw [hW]; exact (Below.refl _ _).alloc (Nat.le_refl _) _
  have hWs : w.heap.size < W.heap.size := by rw [hW]; simp
  have q0 : W.cell? ⟨w.heap.size, 0, none⟩ = some (.int .i64 n.nextValidity) := by rw [hW]; simp
  have q1 : W.cell? ⟨w.heap.size, 1, none⟩ = some (.slice a1 n.boxes.length c1) := by rw [hW]; simp
  have qm : W.cell? ⟨0, 0, none⟩ = some (.int .i64 mx) := (hbA.cell (p := ⟨0, 0, none⟩) hm0).trans hm
  have hW0 : 0 < W.heap.size := by omega
  have HT := mkHid ((t1.below hbA (Nat.le_refl _)).mono (Nat.le_refl _) hbA.size)
  replace HI := mkHid ((HI.out.same (Same.of_below hbA (Nat.le_refl _))).mono (Nat.le_refl _) hbA.size)
  have HW := mkHid hW
  have HbA := mkHid hbA
  have Hf := mkHid f2
  clear hW t1 hbA f2 hm
  unfold GStoreV at cBy0 ⊢
  have cBy : Hid (∀ w' : World, Below W.heap.size W w' → (∀ b ∈ n.boxes, shortB b) → Calls Tryd.prog 30 #[.agg #[.int .i64 n.nextValidity, .slice a1 n.boxes.length c1]] w' fun e w'' => e = .returned (.int .i64 ((St.boxBytes n.boxes : Nat) : Int)) ∧ Below w'.heap.size w' w'') := fun w' hb' hs => cBy0.out w' ((HI.out.same (Same.of_below hb' (Nat.le_refl _))).mono (Nat.le_refl _) hb'.size) hs
  clear cBy0 HI
  generalize n.boxes = F at *
  generalize n.nextValidity = nv at *
  have cF := mkHid (implFromTo nv 1 4294967295 W)
  cases hw1 : St.within nv 1 4294967295
  · rw [hw1] at hZ cF
    have hf0 : Hid (Z = false) := by rw [← hZ.out]; rfl
    clear hZ
    go_enter Tryd.func16, Tryd.ntmps16
    go_wp2_with (first | (go_at_call 24; go_must (rw [← HW.out]; refine cF.out.mono ?_; rintro e wx ⟨rfl, rfl⟩)) | fail)
    go_ret
    rw [hf0.out]
    exact ⟨rfl, HbA.out⟩
  have hn : 1 ≤ nv ∧ nv ≤ 4294967295 := by
    unfold St.within at hw1
    simpa using hw1
  have hwr : IntKind.i64.wrap (nv - 1) = nv - 1 := wrap_inS _ (by omega) (by omega)
  rw [hw1] at hZ cF
  by_cases hl : F.length ≤ 32
  · have x1 : decide ((32 : Int) < (F.length : Int)) = false := decide_eq_false (by omega)
    rw [decide_eq_true hl] at hZ
    obtain ⟨R, hR⟩ : ∃ R, (St.rise (F.map (·.name)) && ((F.map (·.name)).any (fun x => x.toList == St.inbox.toList) && decide (St.boxBytes F ≤ 400000))) = R := ⟨_, rfl⟩
    rw [hR] at hZ
    have HZ : Hid ((St.pBoxes nv (F.take 0) (F.drop 0) && R) = Z) := hZ
    replace hR := mkHid hR
    obtain ⟨P0, hP0⟩ : ∃ P0, St.pBoxes nv [] F = P0 := ⟨_, rfl⟩
    have HP : Hid (St.pBoxes nv (F.take 0) (F.drop 0) = P0) := hP0
    replace hP0 := mkHid hP0
    obtain ⟨W1, hW1⟩ : ∃ W1, W1 = W.alloc (.map #[] 0) := ⟨_, rfl⟩
    have b1 : Below W.heap.size W W1 := by rw [hW1]; exact (Below.refl _ _).alloc (Nat.le_refl _) _
    have hS0 : Hid (SetI W1 W.heap.size 0 (sameV (F.take 0))) := by
      have h0 : SetI W1 W.heap.size 0 (fun _ => false) := by rw [hW1]; exact SetI.made W
      obtain ⟨E, hE, hat⟩ := h0.own
      exact ⟨E, hE, fun z => by rw [hat z]; rfl⟩
    have hs1 : W1.heap.size = W.heap.size + 1 := by rw [hW1]; simp
    have B1 := mkHid b1
    have HW1 := mkHid hW1
    have r1 := (b1.cell (p := ⟨w.heap.size, 1, none⟩) hWs).trans q1
    have hmm := @run_makeMap Tryd.prog
    clear hZ hW1 b1
    go_enter Tryd.func16, Tryd.ntmps16
    go_wp2_with (first | (go_at_call 24; go_must (rw [← HW.out]; refine cF.out.mono ?_; rintro e wx ⟨rfl, rfl⟩; refine Hid.out ?_)) | fail)
    refine mkHid ?_
    clear cF HW
    go_wp2
    rw [← HW1.out]
    clear HW1 r1
    go_loopw [3, 21] (fun yv iv wr => ∃ i : Nat, i ≤ F.length ∧ iv = .int .i64 i ∧ Hid ((St.pBoxes nv (F.take i) (F.drop i) && R) = Z) ∧ Hid (St.pBoxes nv (F.take i) (F.drop i) = P0) ∧ Hid (OwnX (W.heap.size + 1) yv ((F.take i).map (·.name)) wr) ∧ Hid (SetI wr W.heap.size i (sameV (F.take i))) ∧ Hid (Below W.heap.size W wr) ∧ W.heap.size + 1 ≤ wr.heap.size) (fun _ iv _ => F.length - (Lib.intOf iv).toNat)
    case atStart => exact ⟨0, Nat.zero_le _, rfl, HZ, HP, OwnX.nil _ _, hS0, B1, Nat.le_of_eq hs1.symm⟩
    case round =>
      clear HZ HP hS0 B1 hs1
      obtain ⟨i, hi, rfl, hz, hp, hown, hS, hB, hsz⟩ := hrel
      by_cases hlt : i < F.length
      · obtain ⟨a, v4, v5, rfl, ha1, ha2, hAt, hIn⟩ := ((HT.out.below hB.out (Nat.le_refl _)).mono (Nat.le_refl _) hB.out.size) i hlt
        have fk := Hf.out _ (List.getElem_mem hlt)
        have hInH := mkHid hIn
        obtain ⟨⟨a4, c4, rfl, -⟩, ⟨a5, c5, rfl, -⟩⟩ := hIn
        have d0 := hAt.c0
        have d1 := hAt.c1
        have d2 := hAt.c2
        have d3 := hAt.c3
        have d4 := hAt.c4
        have d5 := hAt.c5
        have hst := St.pBoxes_step nv F i hlt
        have hz1 := hz.out
        have hp1 := hp.out
        rw [hst] at hz1 hp1
        unfold St.pBox at hz1 hp1
        have hsl := hS.out.lt
        have hnm : Hid ((F.take i).map (·.name) ++ [F[i].name] = (F.take (i + 1)).map (·.name)) := by show _ = _; rw [List.take_succ_eq_append_getElem hlt, List.map_append]; rfl
        have hsv : Hid (∀ z, sameV (F.take (i + 1)) z = (sameV (F.take i) z || [F[i].validity].any (· == z))) := by
          intro z
          unfold sameV
          rw [List.take_succ_eq_append_getElem hlt, List.any_append]
          simp
        have hlen : ((F.take i).map (·.name)).length ≤ 32 := by rw [List.length_map, List.length_take]; omega
        obtain ⟨V, hV⟩ : ∃ V, V = wr.alloc (.cells #[.string F[i].name, .int .i64 F[i].validity, .int .i64 F[i].nextUid, .int .i64 F[i].topMod, .slice a4 F[i].mails.length c4, .slice a5 F[i].gones.length c5] 38) := ⟨_, rfl⟩
        have bV : Below wr.heap.size wr V := by rw [hV]; exact (Below.refl _ _).alloc (Nat.le_refl _) _
        have hVs : V.heap.size = wr.heap.size + 1 := by rw [hV]; simp
        have X0 : Hid (V.heap[wr.heap.size]? = some (.cells #[.string F[i].name, .int .i64 F[i].validity, .int .i64 F[i].nextUid, .int .i64 F[i].topMod, .slice a4 F[i].mails.length c4, .slice a5 F[i].gones.length c5] 38 (0, 0))) := by rw [hV]; exact heap_alloc_at _ _
        have BV := mkHid (hB.out.trans (bV.mono hB.out.size))
        have hSV := mkHid (hS.out.below bV)
        have hownV := mkHid (hown.out.below bV)
        have hnb : Hid (∀ k, u3.ownBlock = some k → W.heap.size + 1 ≤ k ∧ k < wr.heap.size) := fun k hk => World.ownsRow.lt hown.out k hk
        have inV := mkHid ((hInH.out.same (Same.of_below bV (Nat.le_refl _))).mono (Nat.le_refl _) bV.size)
        have r0 := (BV.out.cell (p := ⟨w.heap.size, 0, none⟩) hWs).trans q0
        have cA := mkHid (implFromTo F[i].validity 1 (nv - 1) V)
        have cB := mkHid (fun (w' : World) (hb' : Below V.heap.size V w') => implBox F[i] (.slice a4 F[i].mails.length c4) (.slice a5 F[i].gones.length c5) lo mx w' (((BV.out.trans (hb'.mono BV.out.size)).cell (p := ⟨0, 0, none⟩) hW0).trans qm) ((inV.out.same (Same.of_below hb' (Nat.le_refl _))).mono (Nat.le_refl _) hb'.size) fk)
        have hbe := mkHid (HbA.out.trans (BV.out.mono (Nat.le_of_lt hWs)))
        have hsm : Hid ((F.take i).any (fun x => x.validity == F[i].validity) = sameV (F.take i) F[i].validity) := rfl
        rw [hsm.out] at hz1 hp1
        have HV := mkHid hV
        rw [hV] at r0
        clear hAt hz hp hst hInH hV bV inV hsm fk hS hown hB
        unfold GMailboxV at cB
        generalize F[i] = bx at *
        generalize hrest : St.pBoxes nv (F.take (i + 1)) (F.drop (i + 1)) = rest at *
        replace hrest := mkHid hrest
        generalize hvl : bx.validity = vl at *
        generalize (St.boxName bx.name && St.okBox bx) = okb at *
        generalize hnmE : bx.name = nm at *
        replace hz1 := mkHid hz1
        replace hp1 := mkHid hp1
        have y0 : V.cell? ⟨wr.heap.size, 0, none⟩ = some (.string nm) := by simp [World.cell?, X0.out]
        have y1 : V.cell? ⟨wr.heap.size, 1, none⟩ = some (.int .i64 vl) := by simp [World.cell?, X0.out]
        have y2 : V.cell? ⟨wr.heap.size, 2, none⟩ = some (.int .i64 bx.nextUid) := by simp [World.cell?, X0.out]
        have y3 : V.cell? ⟨wr.heap.size, 3, none⟩ = some (.int .i64 bx.topMod) := by simp [World.cell?, X0.out]
        have y4 : V.cell? ⟨wr.heap.size, 4, none⟩ = some (.slice a4 bx.mails.length c4) := by simp [World.cell?, X0.out]
        have y5 : V.cell? ⟨wr.heap.size, 5, none⟩ = some (.slice a5 bx.gones.length c5) := by simp [World.cell?, X0.out]
        clear X0
        cases hwv : St.within vl 1 (nv - 1)
        · rw [hwv] at hz1 cA
          have hf0 : Hid (Z = false) := by rw [← hz1.out]; rfl
          clear hz1 hp1
          go_wp2_with (first | (go_at_call 24; go_must (rw [← HV.out]; refine cA.out.mono ?_; rintro e wx ⟨rfl, rfl⟩)) | fail)
          go_ret
          rw [hf0.out]
          exact ⟨rfl, hbe.out⟩
        rw [hwv] at hz1 hp1 cA
        have hvr : 1 ≤ vl ∧ vl ≤ 4294967295 := by
          unfold St.within at hwv
          simp at hwv
          omega
        have cH := mkHid (implHas W.heap.size i (sameV (F.take i)) vl V hSV.out (by omega) (by omega))
        go_wp2_with (first | (go_at_call 24; go_must (rw [← HV.out]; refine cA.out.mono ?_; rintro e wx ⟨rfl, rfl⟩)) | (go_at_call 25; fail))
        refine cH.out.mono ?_
        rintro e w8 ⟨rfl, hb8⟩
        have H8 := mkHid hb8
        have B8 := mkHid (BV.out.trans (hb8.mono BV.out.size))
        have s8 : V.heap.size ≤ w8.heap.size := hb8.size
        clear hb8 cA cH d0 d1 d2 d3 d4 d5 hbe
        cases hsu : sameV (F.take i) vl
        · rw [hsu] at hz1 hp1
          have p0 := (H8.out.cell (p := ⟨wr.heap.size, 0, none⟩) (by show wr.heap.size < _; omega)).trans y0
          have p1 := (H8.out.cell (p := ⟨wr.heap.size, 1, none⟩) (by show wr.heap.size < _; omega)).trans y1
          have p2 := (H8.out.cell (p := ⟨wr.heap.size, 2, none⟩) (by show wr.heap.size < _; omega)).trans y2
          have p3 := (H8.out.cell (p := ⟨wr.heap.size, 3, none⟩) (by show wr.heap.size < _; omega)).trans y3
          have p4 := (H8.out.cell (p := ⟨wr.heap.size, 4, none⟩) (by show wr.heap.size < _; omega)).trans y4
          have p5 := (H8.out.cell (p := ⟨wr.heap.size, 5, none⟩) (by show wr.heap.size < _; omega)).trans y5
          have cB8 := mkHid (cB.out w8 H8.out)
          clear cB
          go_wp2_with (go_at_call 26; fail)
          refine cB8.out.mono ?_
          rintro e w9 ⟨rfl, hb9⟩
          have b89 := H8.out.trans (hb9.mono H8.out.size)
          have B9 := mkHid (BV.out.trans (b89.mono BV.out.size))
          have s9 : V.heap.size ≤ w9.heap.size := b89.size
          have hbe9 := mkHid (HbA.out.trans (B9.out.mono (Nat.le_of_lt hWs)))
          cases okb
          · have hf0 : Hid (Z = false) := by rw [← hz1.out]; rfl
            clear hz1 hp1 cB8 b89 hb9
            go_wp2
            go_ret
            rw [hf0.out]
            exact ⟨rfl, hbe9.out⟩
          · have hz2 : Hid ((rest && R) = Z) := by rw [← hz1.out]; rfl
            have hp2 : Hid (rest = P0) := by rw [← hp1.out]; rfl
            have k0 := (b89.cell (p := ⟨wr.heap.size, 0, none⟩) (by show wr.heap.size < _; omega)).trans y0
            have k1 := mkHid ((b89.cell (p := ⟨wr.heap.size, 1, none⟩) (by show wr.heap.size < _; omega)).trans y1)
            have hS9 := mkHid (hSV.out.below b89)
            have hown9 := mkHid (hownV.out.below b89)
            clear hz1 hp1 cB8 b89 hb9 p0 p1 p2 p3 p4 p5 y0 y1 y2 y3 y4 y5 hSV hownV H8 B8 hbe9 HV r0 BV
            go_wp2_with (first | (at_builtin; go_must (refine wp_appX rfl _ _ rfl (W.heap.size + 1) u3 ((F.take i).map (·.name)) rfl hown9.out nm 1 rfl (by omega) (by omega) ?_; intro y10 w10 hown10 hg10; refine Hid.out ?_)) | fail)
            rw [hnm.out] at hown10
            have s10 : w9.heap.size + 1 ≤ w10.heap.size := by have := hg10.size; simpa using this
            have j1 : w10.cell? ⟨wr.heap.size, 1, none⟩ = some (.int .i64 vl) := by
              refine (World.cell?_of_block (hg10.block wr.heap.size (by simp; omega) (by intro h; have := (hnb.out _ h.symm).2; omega))).trans ?_
              refine (World.cell?_of_block (heap_alloc_old w9 _ _ (by show wr.heap.size < _; omega))).trans k1.out
            have hS10 := (hS9.out.below ((Below.refl _ _).alloc (Nat.le_refl _) (.cells #[.string nm] 9))).kept hg10 (by intro h; have := (hnb.out _ h.symm).1; omega)
            have B10 : Below W.heap.size W w10 := (B9.out.alloc (by omega) (.cells #[.string nm] 9)).grown hg10 (by simp; omega) (fun k hk => by have := (hnb.out k hk).1; omega)
            obtain ⟨X, hX⟩ : ∃ X, X = w10.alloc (.cells #[.int .i64 vl] 2) := ⟨_, rfl⟩
            have bX : Below w10.heap.size w10 X := by rw [hX]; exact (Below.refl _ _).alloc (Nat.le_refl _) _
            have hXs : X.heap.size = w10.heap.size + 1 := by rw [hX]; simp
            have hSX := hS10.below bX
            have hownX := mkHid (hown10.below bX)
            have hXL : InL 0 X.heap.size X (some ⟨w10.heap.size, 0, none⟩) [vl] := by
              intro j hj
              have : j = 0 := by simp at hj; omega
              subst this
              exact ⟨⟨w10.heap.size, 0, none⟩, rfl, Nat.zero_le _, by show w10.heap.size < _; omega, by rw [hX]; simp [Addr.add]⟩
            have cAd := mkHid (implAdd W.heap.size i (sameV (F.take i)) (some ⟨w10.heap.size, 0, none⟩) [vl] 1 0 X hSX hXL (by intro z hz; simp at hz; subst hz; omega) (by simp) (by omega))
            have BX := mkHid (B10.trans (bX.mono B10.size))
            have HX := mkHid hX
            clear hX bX hS10 hSX hXL hS9 hown9 k0 k1 hg10 B9 B10 hown10
            refine mkHid ?_
            go_wp2_with (go_at_call 27; fail)
            rw [← HX.out]
            refine cAd.out.mono ?_
            rintro e w11 ⟨rfl, hS11, hg11⟩
            have hS12 : Hid (SetI w11 W.heap.size (i + 1) (sameV (F.take (i + 1)))) := by
              obtain ⟨E, hE, hat⟩ := hS11.out.own
              exact ⟨E, hE, fun z => by rw [hat z, hsv.out z]⟩
            have hown12 : Hid (OwnX (W.heap.size + 1) y10 ((F.take (i + 1)).map (·.name)) w11) := hownX.out.keep hg11.out (by
              cases ho : y10.ownBlock with
              | none => exact .inl rfl
              | some k => exact .inr (by have := (World.ownsRow.lt hownX.out k ho).1; intro e; cases e; omega))
            have B11 := mkHid (BX.out.grown hg11.out BX.out.size (fun k hk => by cases hk; exact Nat.le_refl _))
            have s11 : W.heap.size + 1 ≤ w11.heap.size := by have := hg11.out.size; omega
            clear cAd hS11 hg11 hownX BX HX hnm hsv hnb j1
            go_wp2
            go_roundw
            case rel => exact ⟨i + 1, by omega, by go_num, by rw [hrest.out]; exact hz2, by rw [hrest.out]; exact hp2, hown12, hS12, B11, s11⟩
            case measure => simp [Lib.intOf]; omega
        · rw [hsu] at hz1
          have hf0 : Hid (Z = false) := by rw [← hz1.out]; rfl
          have hbe8 := mkHid (HbA.out.trans (B8.out.mono (Nat.le_of_lt hWs)))
          clear hz1 hp1 cB
          go_wp2
          go_ret
          rw [hf0.out]
          exact ⟨rfl, hbe8.out⟩
      · have hie : i = F.length := by omega
        have hp1 : Hid (P0 = true) := by
          have := hp.out
          rw [List.drop_eq_nil_of_le (by omega)] at this
          exact this.symm
        have hz1 : Hid (R = Z) := by
          have := hz.out
          rw [List.drop_eq_nil_of_le (by omega)] at this
          exact this
        have hshort := mkHid (St.pBoxes_short nv F [] (hP0.out.trans hp1.out))
        have hown1 := hown.out
        rw [hie, List.take_length] at hown1
        obtain ⟨o5, k5, rfl⟩ := hown1.shape
        have hown2 := mkHid hown1
        have cR := mkHid (implRise o5 (F.map (·.name)) k5 _ wr hown1.txL (by rw [List.length_map]; omega))
        have hbe := mkHid (HbA.out.trans (hB.out.mono (Nat.le_of_lt hWs)))
        clear hz hp hown hS hown1 hie hP0
        rw [← hR.out] at hz1
        have hnl2 : (F.map (·.name)).length ≤ 32 := by rw [List.length_map]; omega
        generalize hnl : (F.map (·.name)).length = nl at *
        cases hri : St.rise (F.map (·.name))
        · rw [hri] at cR hz1
          have hf0 : Hid (Z = false) := by rw [← hz1.out]; rfl
          go_wp2_with (go_at_call 28; fail)
          refine cR.out.mono ?_
          rintro e w2 ⟨rfl, hb2⟩
          have hbe2 := mkHid (hbe.out.trans (hb2.mono hbe.out.size))
          clear cR hb2
          go_wp2
          go_ret
          rw [hf0.out]
          exact ⟨rfl, hbe2.out⟩
        rw [hri] at cR hz1
        go_wp2_with (go_at_call 28; fail)
        refine cR.out.mono ?_
        rintro e w2 ⟨rfl, hb2⟩
        have B2 := mkHid (hB.out.trans (hb2.mono hB.out.size))
        have hbe2 := mkHid (hbe.out.trans (hb2.mono hbe.out.size))
        have cC := mkHid (implContainsS o5 (F.map (·.name)) k5 (W.heap.size + 1) St.inbox w2 (OwnX.txL (by rw [hnl]; exact hown2.out.below hb2)) (by omega))
        rw [hnl] at cC
        unfold St.inbox at cC
        have hzi : Hid ((true && (((F.map (·.name)).any fun x => x.toList == St.inbox.toList) && decide (St.boxBytes F ≤ 400000))) = Z) := hz1
        unfold St.inbox at hzi
        have r0 := (B2.out.cell (p := ⟨w.heap.size, 0, none⟩) hWs).trans q0
        have r1 := (B2.out.cell (p := ⟨w.heap.size, 1, none⟩) hWs).trans q1
        clear cR hb2 hz1 hR hown2 hB hbe
        cases hci : ((F.map (·.name)).any fun x => x.toList == (⟨#[73, 78, 66, 79, 88]⟩ : ByteArray).toList)
        · rw [hci] at cC hzi
          have hf0 : Hid (Z = false) := by rw [← hzi.out]; rfl
          clear hzi
          go_wp2_with (first | (go_at_call 29; go_must (refine cC.out.mono ?_; rintro e wx ⟨rfl, rfl⟩)) | fail)
          go_ret
          rw [hf0.out]
          exact ⟨rfl, hbe2.out⟩
        rw [hci] at cC hzi
        have cY := mkHid (cBy.out w2 B2.out hshort.out)
        go_wp2_with (first | (go_at_call 29; go_must (refine cC.out.mono ?_; rintro e wx ⟨rfl, rfl⟩)) | (go_at_call 30; fail))
        refine cY.out.mono ?_
        rintro e w3 ⟨rfl, hb3⟩
        have hbe3 := mkHid (hbe2.out.trans (hb3.mono hbe2.out.size))
        have hf0 : Hid (decide (((St.boxBytes F : Nat) : Int) ≤ 400000) = Z) := by
          rw [← hzi.out]
          show _ = (true && (true && _))
          rw [Bool.true_and, Bool.true_and, Bool.eq_iff_iff]
          simp
          omega
        clear hzi cC cY hb3 hbe2
        go_wp2
        go_ret
        rw [← hf0.out]
        exact ⟨rfl, hbe3.out⟩
  · have x1 : decide ((32 : Int) < (F.length : Int)) = true := decide_eq_true (by omega)
    rw [decide_eq_false hl] at hZ
    have hf0 : Hid (Z = false) := by rw [← hZ.out]; rfl
    clear hZ
    go_enter Tryd.func16, Tryd.ntmps16
    go_wp2_with (first | (go_at_call 24; go_must (rw [← HW.out]; refine cF.out.mono ?_; rintro e wx ⟨rfl, rfl⟩)) | fail)
    go_ret
    rw [hf0.out]
    exact ⟨rfl, HbA.out⟩
end Go.Proofs.YtbepjjnjdhkcbaaDoor
