
/- The program's WriteQuery. (By tools/gen/implwrite5.py.) -/

/- The law on WriteQuery; with its three tables. (By tools/gen/listlaw.py.) -/
import Derived.Test.YtfaeckaeaeadeaaGreatDoorImplWrite4
import Derived.Test.YtfaeckaeaeadeaaGreatDoorImplQueryFault
set_option linter.unusedVariables false
namespace Go.Proofs.YtfaeckaeaeadeaaGreatDoor
open Go.RowKit Go.Lib Go.Maps
/-- What the program's list of texts holds at a node. -/
def Qw.cellT (F : List GQueryNode) (j : Nat) : List UInt8 := if j + 1 = F.length then Qw.top Qw.dy F else Qw.W Qw.dy F F.length j
theorem Qw.cell_in (F : List GQueryNode) (hg : Qu.good F = true) (i : Nat) (hi : i < F.length) : Qw.cellT F i = if F[i].kind = 16 ∧ i + 1 ≠ F.length then 40 :: Qw.txt Qw.dy F[i] (F[i].kids.map fun k => Qw.W Qw.dy F F.length k.toNat) ++ [41] else Qw.txt Qw.dy F[i] (F[i].kids.map fun k => Qw.W Qw.dy F F.length k.toNat) := by
  unfold Qw.cellT
  by_cases h : i + 1 = F.length
  · rw [if_pos h, if_neg (fun e => e.2 h)]
    unfold Qw.top
    rw [show F.length - 1 = i by omega, List.getElem?_eq_getElem hi]
    dsimp only
    rw [Qw.W_kids F.length i (by omega) _ (Qw.good_kids hg i hi)]
  · rw [if_neg h, Qw.W_in F.length i hi hi (Qw.good_kids hg i hi), Qw.par]
    by_cases hk : F[i].kind = 16
    · rw [if_pos hk, if_pos ⟨hk, h⟩]
    · rw [if_neg hk, if_neg (fun e => hk e.1)]
theorem Qw.kids_cell (F : List GQueryNode) (hg : Qu.good F = true) (i : Nat) (hi : i < F.length) : ∀ k ∈ F[i].kids, Qw.cellT F k.toNat = Qw.W Qw.dy F F.length k.toNat := by
  intro k hk
  have := Qw.good_kids hg i hi k hk
  unfold Qw.cellT
  rw [if_neg (by omega)]
set_option maxHeartbeats 20000000 in
set_option maxRecDepth 20000 in
theorem implWriteQuery (o : Option Addr) (F : List GQueryNode) (cap lo : Nat) (w : World) (hQ : QTab w) (hM : MTab w) (hP : PTab w) (hF : GQueryNodesL lo w.heap.size w o F) (hl : F.length ≤ 1048576) (hf : ∀ f ∈ F, f.fits 1048576) :
    Calls Tryz.prog 7 #[.slice o F.length cap] w fun e w' => e = .returned (.string (plWriteQuery F)) ∧ Below w.heap.size w w' := by
  have cF := mkHid (implQueryFault o F cap lo w hF hl hf)
  unfold plWriteQuery plQueryFault at *
  cases hg : Qu.good F
  · rw [hg] at cF
    have hr : Qw.out Qw.dy F = [] := by rw [Qw.out, hg]; rfl
    rw [hr]
    clear hr hF hf
    go_enter Tryz.func7, Tryz.ntmps7
    go_wp2_with fail
    refine cF.out.mono ?_
    rintro e w1 ⟨rfl, hb1⟩
    simp only [St.code]
    go_wp2
    go_ret
    exact ⟨rfl, hb1⟩
  · rw [hg] at cF
    obtain ⟨h1, h100, -⟩ := Qw.good_all hg
    obtain ⟨R, hR⟩ : ∃ R, txB (Qw.out Qw.dy F) = R := ⟨_, rfl⟩
    rw [hR]
    rw [Qw.out, hg, if_pos rfl] at hR
    replace hR := mkHid hR
    have hmk := run_make_row' (P := Tryz.prog) 40 9 (.string ⟨#[]⟩) 16 Tryz.underlying40 Tryz.info9X rfl .i64 .i64 F.length (by omega) (by omega)
    have HF := mkHid hF
    have Hf := mkHid hf
    have Hg := mkHid hg
    have HQ := mkHid hQ
    have HM := mkHid hM
    have HP := mkHid hP
    obtain ⟨m, hm⟩ : ∃ m, F.length = m + 1 := ⟨F.length - 1, by omega⟩
    have hmI : (F.length : Int) - 1 = (m : Int) := by omega
    replace hm := mkHid hm
    clear hF hf hg hQ hM hP
    go_enter Tryz.func7, Tryz.ntmps7
    go_wp2_with fail
    refine cF.out.mono ?_
    rintro e w1 ⟨rfl, hbw⟩
    simp only [St.code]
    go_wp2
    clear hmk cF
    have hs1 := hbw.size
    have HbW := mkHid hbw
    clear hbw
    generalize hG : w1.heap.size = G at *
    go_loopw [18] (fun iv wr => ∃ (i : Nat) (d : Nat → ByteArray), i ≤ F.length ∧ iv = .int .i64 i ∧ wr.rowIs G 9 F.length (fun j => .string (d j)) ∧ Hid (∀ j, j < i → d j = txB (Qw.cellT F j)) ∧ Below G w1 wr) (fun iv _ => F.length - (Lib.intOf iv).toNat)
    case atStart => exact ⟨0, fun _ => ⟨#[]⟩, Nat.zero_le _, rfl, hG ▸ World.rowIs_made w1 (.string ⟨#[]⟩) F.length 9, fun j h => absurd h (Nat.not_lt_zero _), (Below.refl _ _).alloc (by omega) _⟩
    case round =>
      obtain ⟨i, d, hi', rfl, hrow, hd, hb⟩ := hrel
      have hsb := hb.size
      have hGl := hrow.lt
      have HbG := mkHid (HbW.out.trans (hb.mono hs1))
      by_cases hlt : i < F.length
      · obtain ⟨a, v4, v5, rfl, ha0, ha, hA, hI⟩ := (HF.out.below HbG.out (Nat.le_refl _)) i hlt
        obtain ⟨⟨a4, e4, rfl, t4⟩, ⟨a5, e5, rfl, t5⟩⟩ := hI
        have c0 := hA.c0
        have c1 := hA.c1
        have c2 := hA.c2
        have c3 := hA.c3
        have c4 := hA.c4
        have c5 := hA.c5
        clear hA
        have hright := Qw.good_right Hg.out i hlt
        have hkd := Qw.good_kids Hg.out i hlt
        have hin := Qw.cell_in F Hg.out i hlt
        have hkc := Qw.kids_cell F Hg.out i hlt
        have hone := Qw.good_one dy_len Hg.out i hlt
        have htl := (Qw.good_len dy_len Hg.out i hlt).2
        have hnf := Hf.out F[i] (List.getElem_mem hlt)
        have hkn : F[i].kids.length ≤ 100 := by
          obtain ⟨o1, ho1⟩ := Qw.run_some Hg.out (i + 1) (by omega)
          unfold Tr.run at ho1
          split at ho1
          · cases ho1
          · rename_i p hp
            split at ho1
            · rename_i hc
              have := Tr.run_len i p hp
              have hc1 := hc.1
              rw [Qw.kids_at i hlt] at hc1
              omega
            · cases ho1
        generalize F[i] = n at *
        -- the kids' texts
        have hKd : (n.kids.map fun k => d k.toNat) = (n.kids.map fun k => Qw.W Qw.dy F F.length k.toNat).map txB := by
          rw [List.map_map]
          apply List.map_congr_left
          intro k hk
          have := hkd k hk
          show d k.toNat = txB _
          rw [hd.out k.toNat (by omega), hkc k hk]
        have hKb : (n.kids.map fun k => d k.toNat).map (·.data.toList) = n.kids.map fun k => Qw.W Qw.dy F F.length k.toNat := by
          rw [hKd, List.map_map]
          conv => rhs; rw [← List.map_id (n.kids.map fun k => Qw.W Qw.dy F F.length k.toNat)]
          apply List.map_congr_left
          intro x _
          rfl
        obtain ⟨K, hK⟩ : ∃ K, (n.kids.map fun k => d k.toNat) = K := ⟨_, rfl⟩
        rw [hK] at hKb
        have hKl : K.length ≤ 100 := by rw [← hK, List.length_map]; exact hkn
        obtain ⟨V, hV⟩ : ∃ V, V = wr.alloc (.cells #[.int .i64 n.kind, .string n.name, .string n.text, .int .i64 n.num, .slice a4 n.uids.length e4, .slice a5 n.kids.length e5] 38) := ⟨_, rfl⟩
        have hbV : Below wr.heap.size wr V := by rw [hV]; exact (Below.refl _ _).alloc (Nat.le_refl _) _
        have q0 : V.cell? ⟨wr.heap.size, 0, none⟩ = some (.int .i64 n.kind) := by rw [hV]; simp
        have q1 : V.cell? ⟨wr.heap.size, 1, none⟩ = some (.string n.name) := by rw [hV]; simp
        have q2 : V.cell? ⟨wr.heap.size, 2, none⟩ = some (.string n.text) := by rw [hV]; simp
        have q3 : V.cell? ⟨wr.heap.size, 3, none⟩ = some (.int .i64 n.num) := by rw [hV]; simp
        have q4 : V.cell? ⟨wr.heap.size, 4, none⟩ = some (.slice a4 n.uids.length e4) := by rw [hV]; simp
        have q5 : V.cell? ⟨wr.heap.size, 5, none⟩ = some (.slice a5 n.kids.length e5) := by rw [hV]; simp
        have hgl : wr.heap.size < V.heap.size := by rw [hV]; simp
        have hbVw := mkHid (HbG.out.trans (hbV.mono (by omega)))
        have hbV1 := mkHid (hb.trans (hbV.mono (by omega)))
        have HbV := mkHid hbV
        have Hrow := mkHid (row_below hrow hbV)
        have T4 := mkHid t4
        have T5 := mkHid t5
        replace hV := mkHid hV
        have cK : Hid (∀ W' : World, Below V.heap.size V W' → Calls Tryz.prog 16 #[.slice (some ⟨G, 0, none⟩) F.length F.length, .agg #[.int .i64 n.kind, .string n.name, .string n.text, .int .i64 n.num, .slice a4 n.uids.length e4, .slice a5 n.kids.length e5]] W' fun e w'' => ∃ v B, e = .returned v ∧ OwnX B v K w'' ∧ Below V.heap.size V w'') := fun W' hW => by
          have hx := implKidsAmong G F.length d n (.slice a4 n.uids.length e4) a5 e5 lo W' (row_below Hrow.out hW) ((T5.out.below ((HbV.out.trans (hW.mono HbV.out.size)).mono (Nat.le_trans HbG.out.size (Nat.le_refl _))) (Nat.le_refl _)).mono (Nat.le_refl _) (by have := hW.size; have := HbV.out.size; have := HbG.out.size; omega)) hkn (fun k hk => by have := hkd k hk; omega) (by omega)
          unfold GQueryNodeV at hx
          rw [hK] at hx
          refine hx.mono ?_
          rintro e w'' ⟨v, h1, h2, h3⟩
          exact ⟨v, _, h1, h2, hW.trans (h3.mono hW.size)⟩
        obtain ⟨P, hPw⟩ : ∃ P, (Qw.words Qw.dy n (K.map (·.data.toList))).map txB = P := ⟨_, rfl⟩
        have cW : Hid (∀ (W' : World) (kv : Value) (B : Nat), OwnX B kv K W' → Below V.heap.size V W' → Calls Tryz.prog 15 #[.agg #[.int .i64 n.kind, .string n.name, .string n.text, .int .i64 n.num, .slice a4 n.uids.length e4, .slice a5 n.kids.length e5], kv] W' fun e w'' => ∃ v, e = .returned v ∧ OwnX 0 v P w'' ∧ Below V.heap.size V w'') := fun W' kv B hown hW => by
          have hbb : Below w.heap.size w W' := hbVw.out.trans (hW.mono (by have := hbVw.out.size; omega))
          have hx := implWords n a4 e4 lo (.slice a5 n.kids.length e5) kv B K W' (HQ.out.on hbb) (HM.out.on hbb) (ptab_on HP.out hbb) hown hKl ((T4.out.below ((HbV.out.trans (hW.mono HbV.out.size)).mono (by have := HbG.out.size; omega)) (Nat.le_refl _)).mono (Nat.le_refl _) (by have := hbb.size; omega)) hright hnf
          unfold GQueryNodeV at hx
          rw [hPw] at hx
          refine hx.mono ?_
          rintro e w'' ⟨v, h1, h2, h3⟩
          exact ⟨v, h1, h2, hW.trans (h3.mono hW.size)⟩
        have hPd : P.map (·.data.toList) = Qw.words Qw.dy n (K.map (·.data.toList)) := by
          rw [← hPw, List.map_map]
          conv => rhs; rw [← List.map_id (Qw.words Qw.dy n (K.map (·.data.toList)))]
          apply List.map_congr_left
          intro x _
          rfl
        have hjl : (join (P.map (·.data.toList)) [32]).length ≤ 300000 := by
          rw [hPd, hKb]
          exact htl
        have hjt : join (P.map (·.data.toList)) [32] = Qw.txt Qw.dy n (n.kids.map fun k => Qw.W Qw.dy F F.length k.toNat) := by rw [hPd, hKb]; rfl
        have hPl : P.length ≤ 1000000 := by
          have h5 := Qw.right_parts n hright
          rw [← hPw, List.length_map]
          unfold Qw.words
          split
          · rw [List.length_map]; omega
          · rw [List.length_append, List.length_append, List.length_map]
            have hx1 : (Qw.keys n.kind n.name.data.toList).length ≤ 2 := by unfold Qw.keys; split <;> simp
            have hx2 : (Qw.extra Qw.dy n).length ≤ 1 := by unfold Qw.extra; repeat (first | (split; simp) | simp)
            omega
        have cJ : Hid (∀ (W' : World) (v : Value), OwnX 0 v P W' → Below V.heap.size V W' → Calls Tryz.prog 14 #[v, .string ⟨#[32]⟩] W' fun e w'' => e = .returned (.string (txB (join (P.map (·.data.toList)) [32]))) ∧ Below V.heap.size V w'') := fun W' v hown hW => (libJoin v P W' hown hPl (by omega)).mono fun e w'' ⟨x1, x2⟩ => ⟨x1, hW.trans (x2.mono hW.size)⟩
        rw [hjt] at cJ hjl
        obtain ⟨X, hX⟩ : ∃ X, Qw.txt Qw.dy n (n.kids.map fun k => Qw.W Qw.dy F F.length k.toNat) = X := ⟨_, rfl⟩
        rw [hX] at cJ hjl hin
        have hts := txB_size X
        obtain ⟨t, ht⟩ : ∃ t, txB X = t := ⟨_, rfl⟩
        rw [ht] at cJ hts
        have htd : Hid (t.data.toList = X) := show _ = _ from by rw [← ht]; rfl
        have hcell : Hid (txB (Qw.cellT F i) = if n.kind = 16 ∧ i + 1 ≠ F.length then ⟨#[40]⟩ ++ t ++ ⟨#[41]⟩ else t) := show _ = _ from by
          rw [hin]
          split
          · refine (txB_eq _ _ ?_).symm
            rw [cat_list, cat_list, htd.out]
            rfl
          · exact ht
        have hbRef : Below V.heap.size V V := Below.refl _ _
        clear hKd hKb hK hPw hPd hjt hX ht hin hright hkd hkc hone htl hnf hrow hPl hb hbV t4 t5
        go_wp2
        rw [← hV.out]
        have hVs := hV.out
        clear c0 c1 c2 c3 c4 c5 hV hVs
        obtain ⟨g1, hg1⟩ : ∃ g1, wr.heap.size = g1 := ⟨_, rfl⟩
        rw [hg1]
        rw [hg1] at q0 q1 q2 q3 q4 q5 hgl
        have hGg : G < g1 := by omega
        refine wp_region_any (by kernel_rfl) ?_
        refine wpAny_take (i := 0) (v := .slice (some ⟨G, 0, none⟩) F.length F.length) rfl (by kernel_rfl) (by kernel_rfl) (by kernel_rfl) (fun _ _ _ h => h) (Or.inl ⟨by rfl, ?_⟩) ?_
        · intro w
          go_simp
          all_goals first | done | omega | (intro h; exfalso; omega)
        go_simp
        refine wpAny_take (i := 1) (v := .int .i64 i) rfl (by kernel_rfl) (by kernel_rfl) (by kernel_rfl) (fun _ _ _ h => h) (Or.inl ⟨by rfl, ?_⟩) ?_
        · intro w
          go_simp
          all_goals first | done | omega | (intro h; exfalso; omega)
        go_simp
        refine wpAny_take (i := 3) (v := .slice (some ⟨G, 0, none⟩) F.length F.length) rfl (by kernel_rfl) (by kernel_rfl) (by kernel_rfl) (fun _ _ _ h => h) (Or.inl ⟨by rfl, ?_⟩) ?_
        · intro w
          go_simp
          all_goals first | done | omega | (intro h; exfalso; omega)
        go_simp
        refine wpAny_ready (rs := [2, 4]) (by kernel_rfl) (by simp) ?_
        refine AllReady.cons rfl (fun K hK => ?_) (AllReady.cons rfl (fun K hK => ?_) AllReady.nil)
        · go_simp
          refine hK _ _ ?_
          clear hK K
          go_simp
          refine wpAny_ready (rs := [4]) (by kernel_rfl) (by simp) ?_
          refine AllReady.cons rfl (fun K hK => ?_) AllReady.nil
          go_simp
          refine hK _ _ ?_
          clear hK K
          go_simp
          refine wpAny_ready (rs := [5]) (by kernel_rfl) (by simp) ?_
          refine AllReady.cons rfl (fun K hK => ?_) AllReady.nil
          go_simp
          go_wp2_with fail
          refine (cK.out _ (by first | exact hbRef | exact hbRef.drew | exact hbRef.drew.drew)).mono ?_
          rintro e w2 ⟨kv, kb, rfl, hown, hb2⟩
          obtain ⟨ko, kc, rfl⟩ := hown.shape
          show K _ w2
          refine hK _ _ ?_
          clear hK K
          go_simp
          refine wpAny_ready (rs := [6]) (by kernel_rfl) (by simp) ?_
          refine AllReady.cons rfl (fun K hK => ?_) AllReady.nil
          go_simp
          go_wp2_with fail
          refine (cW.out _ _ kb (by first | exact hown | exact hown.below (Below.refl _ _).drew) (by first | exact hb2 | exact hb2.drew | exact hb2.drew.drew)).mono ?_
          rintro e w3 ⟨v3, rfl, hown3, hb3⟩
          obtain ⟨o3, c3, rfl⟩ := hown3.shape
          show K _ w3
          refine hK _ _ ?_
          clear hK K
          go_simp
          refine wpAny_ready (rs := [7]) (by kernel_rfl) (by simp) ?_
          refine AllReady.cons rfl (fun K hK => ?_) AllReady.nil
          go_simp
          go_wp2_with fail
          refine (cJ.out _ _ (by first | exact hown3 | exact hown3.below (Below.refl _ _).drew) (by first | exact hb3 | exact hb3.drew | exact hb3.drew.drew)).mono ?_
          rintro e w4 ⟨rfl, hb4⟩
          have hrow4 := row_below Hrow.out hb4
          have z4 := hrow4.frozen i
          have y4 := hrow4.cell (i := i) hlt
          have p0 := (hb4.cell (p := ⟨g1, 0, none⟩) hgl).trans q0
          have hrow5 := mkHid (hrow4.set i (.string t))
          have hb1 := hbV1.out.trans (hb4.mono (by omega))
          have hb5 := mkHid (hb1.setCell (p := ⟨G, i, none⟩) (Nat.le_refl _) (.string t))
          have p5 : (w4.setCell ⟨G, i, none⟩ (.string t)).cell? ⟨g1, 0, none⟩ = some (.int .i64 n.kind) := by rw [World.cell?_setCell_other _ _ _ _ (by intro e; have := congrArg Addr.block e; simp at this; omega)]; exact p0
          show K _ w4
          refine hK _ _ ?_
          clear hK K
          go_simp
          refine wpAny_take (i := 8) (v := .pointer (some ⟨G, i, none⟩)) rfl (by kernel_rfl) (by kernel_rfl) (by kernel_rfl) (fun _ _ _ h => h) (Or.inl ⟨by rfl, ?_⟩) ?_
          · intro w
            go_simp
            all_goals first | done | omega | (intro h; exfalso; omega)
          go_simp
          refine wpAny_ready (rs := [9]) (by kernel_rfl) (by simp) ?_
          refine AllReady.cons rfl (fun K hK => ?_) AllReady.nil
          go_simp
          refine hK _ _ ?_
          clear hK K
          go_simp
          refine wpAny_done (by kernel_rfl) ?_ _
          generalize w4.setCell ⟨G, i, none⟩ (.string t) = W5 at *
          have hrow6 : W5.rowIs G 9 F.length (fun j => .string (if j = i then t else d j)) := hrow5.out.congr (fun j _ => by show (if j = i then Value.string t else Value.string (d j)) = Value.string _; split <;> rfl)
          have y6 := hrow6.cell (i := i) hlt
          simp only [if_true] at y6
          have z6 := hrow6.frozen i
          have hrow7 := mkHid (fun u => hrow6.set i (.string u))
          have hb7 := mkHid (fun u => hb5.out.setCell (p := ⟨G, i, none⟩) (Nat.le_refl _) u)
          have hrow8 := mkHid hrow6
          clear hrow6 hrow5 hrow4 z4 y4 p0 hb1 hb4 hown hown3
          by_cases k16 : n.kind = 16
          · have b16 : (n.kind == 16) = true := by simpa using k16
            by_cases hlast : i + 1 = F.length
            · have bm : ((i : Int) == (m : Int)) = true := by have := hm.out; simp; omega
              have him : (i : Int) = (m : Int) := by have := hm.out; omega
              have hd2 : Hid (∀ j, j < i + 1 → (if j = i then t else d j) = txB (Qw.cellT F j)) := fun j hj => by
                by_cases hji : j = i
                · rw [if_pos hji, hji, hcell.out, if_neg (fun e => e.2 hlast)]
                · rw [if_neg hji]; exact hd.out j (by omega)
              replace him := mkHid him
              go_wp2
              go_roundw
              case rel => exact ⟨i + 1, _, by omega, by go_num, hrow8.out, hd2, hb5.out⟩
              case measure => simp [Lib.intOf]; omega
            · have bm : ((i : Int) == (m : Int)) = false := by have := hm.out; simp; omega
              have hd2 : Hid (∀ j, j < i + 1 → (if j = i then ⟨#[40]⟩ ++ t ++ ⟨#[41]⟩ else d j) = txB (Qw.cellT F j)) := fun j hj => by
                by_cases hji : j = i
                · rw [if_pos hji, hji, hcell.out, if_pos ⟨k16, hlast⟩]
                · rw [if_neg hji]; exact hd.out j (by omega)
              have htl2 : t.size ≤ 300000 := by omega
              go_wp2
              go_roundw
              case rel =>
                refine ⟨i + 1, fun j => if j = i then ⟨#[40]⟩ ++ t ++ ⟨#[41]⟩ else d j, by omega, by go_num, (hrow7.out _).congr (fun j _ => ?_), hd2, hb7.out _⟩
                show (if j = i then Value.string _ else Value.string (if j = i then t else d j)) = Value.string (if j = i then _ else d j)
                split <;> rfl
              case measure => simp [Lib.intOf]; omega
          · have b16 : (n.kind == 16) = false := by simpa using k16
            have hd2 : Hid (∀ j, j < i + 1 → (if j = i then t else d j) = txB (Qw.cellT F j)) := fun j hj => by
              by_cases hji : j = i
              · rw [if_pos hji, hji, hcell.out, if_neg (fun e => k16 e.1)]
              · rw [if_neg hji]; exact hd.out j (by omega)
            go_wp2
            go_roundw
            case rel => exact ⟨i + 1, _, by omega, by go_num, hrow8.out, hd2, hb5.out⟩
            case measure => simp [Lib.intOf]; omega
        · go_simp
          refine hK _ _ ?_
          clear hK K
          go_simp
          refine wpAny_ready (rs := [2, 5]) (by kernel_rfl) (by simp) ?_
          refine AllReady.cons rfl (fun K hK => ?_) (AllReady.cons rfl (fun K hK => ?_) AllReady.nil)
          · go_simp
            refine hK _ _ ?_
            clear hK K
            go_simp
            refine wpAny_ready (rs := [5]) (by kernel_rfl) (by simp) ?_
            refine AllReady.cons rfl (fun K hK => ?_) AllReady.nil
            go_simp
            go_wp2_with fail
            refine (cK.out _ (by first | exact hbRef | exact hbRef.drew | exact hbRef.drew.drew)).mono ?_
            rintro e w2 ⟨kv, kb, rfl, hown, hb2⟩
            obtain ⟨ko, kc, rfl⟩ := hown.shape
            show K _ w2
            refine hK _ _ ?_
            clear hK K
            go_simp
            refine wpAny_ready (rs := [6]) (by kernel_rfl) (by simp) ?_
            refine AllReady.cons rfl (fun K hK => ?_) AllReady.nil
            go_simp
            go_wp2_with fail
            refine (cW.out _ _ kb (by first | exact hown | exact hown.below (Below.refl _ _).drew) (by first | exact hb2 | exact hb2.drew | exact hb2.drew.drew)).mono ?_
            rintro e w3 ⟨v3, rfl, hown3, hb3⟩
            obtain ⟨o3, c3, rfl⟩ := hown3.shape
            show K _ w3
            refine hK _ _ ?_
            clear hK K
            go_simp
            refine wpAny_ready (rs := [7]) (by kernel_rfl) (by simp) ?_
            refine AllReady.cons rfl (fun K hK => ?_) AllReady.nil
            go_simp
            go_wp2_with fail
            refine (cJ.out _ _ (by first | exact hown3 | exact hown3.below (Below.refl _ _).drew) (by first | exact hb3 | exact hb3.drew | exact hb3.drew.drew)).mono ?_
            rintro e w4 ⟨rfl, hb4⟩
            have hrow4 := row_below Hrow.out hb4
            have z4 := hrow4.frozen i
            have y4 := hrow4.cell (i := i) hlt
            have p0 := (hb4.cell (p := ⟨g1, 0, none⟩) hgl).trans q0
            have hrow5 := mkHid (hrow4.set i (.string t))
            have hb1 := hbV1.out.trans (hb4.mono (by omega))
            have hb5 := mkHid (hb1.setCell (p := ⟨G, i, none⟩) (Nat.le_refl _) (.string t))
            have p5 : (w4.setCell ⟨G, i, none⟩ (.string t)).cell? ⟨g1, 0, none⟩ = some (.int .i64 n.kind) := by rw [World.cell?_setCell_other _ _ _ _ (by intro e; have := congrArg Addr.block e; simp at this; omega)]; exact p0
            show K _ w4
            refine hK _ _ ?_
            clear hK K
            go_simp
            refine wpAny_take (i := 8) (v := .pointer (some ⟨G, i, none⟩)) rfl (by kernel_rfl) (by kernel_rfl) (by kernel_rfl) (fun _ _ _ h => h) (Or.inl ⟨by rfl, ?_⟩) ?_
            · intro w
              go_simp
              all_goals first | done | omega | (intro h; exfalso; omega)
            go_simp
            refine wpAny_ready (rs := [9]) (by kernel_rfl) (by simp) ?_
            refine AllReady.cons rfl (fun K hK => ?_) AllReady.nil
            go_simp
            refine hK _ _ ?_
            clear hK K
            go_simp
            refine wpAny_done (by kernel_rfl) ?_ _
            generalize w4.setCell ⟨G, i, none⟩ (.string t) = W5 at *
            have hrow6 : W5.rowIs G 9 F.length (fun j => .string (if j = i then t else d j)) := hrow5.out.congr (fun j _ => by show (if j = i then Value.string t else Value.string (d j)) = Value.string _; split <;> rfl)
            have y6 := hrow6.cell (i := i) hlt
            simp only [if_true] at y6
            have z6 := hrow6.frozen i
            have hrow7 := mkHid (fun u => hrow6.set i (.string u))
            have hb7 := mkHid (fun u => hb5.out.setCell (p := ⟨G, i, none⟩) (Nat.le_refl _) u)
            have hrow8 := mkHid hrow6
            clear hrow6 hrow5 hrow4 z4 y4 p0 hb1 hb4 hown hown3
            by_cases k16 : n.kind = 16
            · have b16 : (n.kind == 16) = true := by simpa using k16
              by_cases hlast : i + 1 = F.length
              · have bm : ((i : Int) == (m : Int)) = true := by have := hm.out; simp; omega
                have him : (i : Int) = (m : Int) := by have := hm.out; omega
                have hd2 : Hid (∀ j, j < i + 1 → (if j = i then t else d j) = txB (Qw.cellT F j)) := fun j hj => by
                  by_cases hji : j = i
                  · rw [if_pos hji, hji, hcell.out, if_neg (fun e => e.2 hlast)]
                  · rw [if_neg hji]; exact hd.out j (by omega)
                replace him := mkHid him
                go_wp2
                go_roundw
                case rel => exact ⟨i + 1, _, by omega, by go_num, hrow8.out, hd2, hb5.out⟩
                case measure => simp [Lib.intOf]; omega
              · have bm : ((i : Int) == (m : Int)) = false := by have := hm.out; simp; omega
                have hd2 : Hid (∀ j, j < i + 1 → (if j = i then ⟨#[40]⟩ ++ t ++ ⟨#[41]⟩ else d j) = txB (Qw.cellT F j)) := fun j hj => by
                  by_cases hji : j = i
                  · rw [if_pos hji, hji, hcell.out, if_pos ⟨k16, hlast⟩]
                  · rw [if_neg hji]; exact hd.out j (by omega)
                have htl2 : t.size ≤ 300000 := by omega
                go_wp2
                go_roundw
                case rel =>
                  refine ⟨i + 1, fun j => if j = i then ⟨#[40]⟩ ++ t ++ ⟨#[41]⟩ else d j, by omega, by go_num, (hrow7.out _).congr (fun j _ => ?_), hd2, hb7.out _⟩
                  show (if j = i then Value.string _ else Value.string (if j = i then t else d j)) = Value.string (if j = i then _ else d j)
                  split <;> rfl
                case measure => simp [Lib.intOf]; omega
            · have b16 : (n.kind == 16) = false := by simpa using k16
              have hd2 : Hid (∀ j, j < i + 1 → (if j = i then t else d j) = txB (Qw.cellT F j)) := fun j hj => by
                by_cases hji : j = i
                · rw [if_pos hji, hji, hcell.out, if_neg (fun e => k16 e.1)]
                · rw [if_neg hji]; exact hd.out j (by omega)
              go_wp2
              go_roundw
              case rel => exact ⟨i + 1, _, by omega, by go_num, hrow8.out, hd2, hb5.out⟩
              case measure => simp [Lib.intOf]; omega
          · go_simp
            go_wp2_with fail
            refine (cK.out _ (by first | exact hbRef | exact hbRef.drew | exact hbRef.drew.drew)).mono ?_
            rintro e w2 ⟨kv, kb, rfl, hown, hb2⟩
            obtain ⟨ko, kc, rfl⟩ := hown.shape
            have s0 := (hb2.cell (p := ⟨g1, 0, none⟩) hgl).trans q0
            have s1 := (hb2.cell (p := ⟨g1, 1, none⟩) hgl).trans q1
            have s2 := (hb2.cell (p := ⟨g1, 2, none⟩) hgl).trans q2
            have s3 := (hb2.cell (p := ⟨g1, 3, none⟩) hgl).trans q3
            have s4 := (hb2.cell (p := ⟨g1, 4, none⟩) hgl).trans q4
            have s5 := (hb2.cell (p := ⟨g1, 5, none⟩) hgl).trans q5
            show K _ w2
            refine hK _ _ ?_
            clear hK K
            go_simp
            refine wpAny_ready (rs := [2]) (by kernel_rfl) (by simp) ?_
            refine AllReady.cons rfl (fun K hK => ?_) AllReady.nil
            go_simp
            refine hK _ _ ?_
            clear hK K
            go_simp
            refine wpAny_ready (rs := [6]) (by kernel_rfl) (by simp) ?_
            refine AllReady.cons rfl (fun K hK => ?_) AllReady.nil
            go_simp
            go_wp2_with fail
            refine (cW.out _ _ kb (by first | exact hown | exact hown.below (Below.refl _ _).drew) (by first | exact hb2 | exact hb2.drew | exact hb2.drew.drew)).mono ?_
            rintro e w3 ⟨v3, rfl, hown3, hb3⟩
            obtain ⟨o3, c3, rfl⟩ := hown3.shape
            show K _ w3
            refine hK _ _ ?_
            clear hK K
            go_simp
            refine wpAny_ready (rs := [7]) (by kernel_rfl) (by simp) ?_
            refine AllReady.cons rfl (fun K hK => ?_) AllReady.nil
            go_simp
            go_wp2_with fail
            refine (cJ.out _ _ (by first | exact hown3 | exact hown3.below (Below.refl _ _).drew) (by first | exact hb3 | exact hb3.drew | exact hb3.drew.drew)).mono ?_
            rintro e w4 ⟨rfl, hb4⟩
            have hrow4 := row_below Hrow.out hb4
            have z4 := hrow4.frozen i
            have y4 := hrow4.cell (i := i) hlt
            have p0 := (hb4.cell (p := ⟨g1, 0, none⟩) hgl).trans q0
            have hrow5 := mkHid (hrow4.set i (.string t))
            have hb1 := hbV1.out.trans (hb4.mono (by omega))
            have hb5 := mkHid (hb1.setCell (p := ⟨G, i, none⟩) (Nat.le_refl _) (.string t))
            have p5 : (w4.setCell ⟨G, i, none⟩ (.string t)).cell? ⟨g1, 0, none⟩ = some (.int .i64 n.kind) := by rw [World.cell?_setCell_other _ _ _ _ (by intro e; have := congrArg Addr.block e; simp at this; omega)]; exact p0
            show K _ w4
            refine hK _ _ ?_
            clear hK K
            go_simp
            refine wpAny_take (i := 8) (v := .pointer (some ⟨G, i, none⟩)) rfl (by kernel_rfl) (by kernel_rfl) (by kernel_rfl) (fun _ _ _ h => h) (Or.inl ⟨by rfl, ?_⟩) ?_
            · intro w
              go_simp
              all_goals first | done | omega | (intro h; exfalso; omega)
            go_simp
            refine wpAny_ready (rs := [9]) (by kernel_rfl) (by simp) ?_
            refine AllReady.cons rfl (fun K hK => ?_) AllReady.nil
            go_simp
            refine hK _ _ ?_
            clear hK K
            go_simp
            refine wpAny_done (by kernel_rfl) ?_ _
            generalize w4.setCell ⟨G, i, none⟩ (.string t) = W5 at *
            have hrow6 : W5.rowIs G 9 F.length (fun j => .string (if j = i then t else d j)) := hrow5.out.congr (fun j _ => by show (if j = i then Value.string t else Value.string (d j)) = Value.string _; split <;> rfl)
            have y6 := hrow6.cell (i := i) hlt
            simp only [if_true] at y6
            have z6 := hrow6.frozen i
            have hrow7 := mkHid (fun u => hrow6.set i (.string u))
            have hb7 := mkHid (fun u => hb5.out.setCell (p := ⟨G, i, none⟩) (Nat.le_refl _) u)
            have hrow8 := mkHid hrow6
            clear hrow6 hrow5 hrow4 z4 y4 p0 hb1 hb4 hown hown3
            by_cases k16 : n.kind = 16
            · have b16 : (n.kind == 16) = true := by simpa using k16
              by_cases hlast : i + 1 = F.length
              · have bm : ((i : Int) == (m : Int)) = true := by have := hm.out; simp; omega
                have him : (i : Int) = (m : Int) := by have := hm.out; omega
                have hd2 : Hid (∀ j, j < i + 1 → (if j = i then t else d j) = txB (Qw.cellT F j)) := fun j hj => by
                  by_cases hji : j = i
                  · rw [if_pos hji, hji, hcell.out, if_neg (fun e => e.2 hlast)]
                  · rw [if_neg hji]; exact hd.out j (by omega)
                replace him := mkHid him
                go_wp2
                go_roundw
                case rel => exact ⟨i + 1, _, by omega, by go_num, hrow8.out, hd2, hb5.out⟩
                case measure => simp [Lib.intOf]; omega
              · have bm : ((i : Int) == (m : Int)) = false := by have := hm.out; simp; omega
                have hd2 : Hid (∀ j, j < i + 1 → (if j = i then ⟨#[40]⟩ ++ t ++ ⟨#[41]⟩ else d j) = txB (Qw.cellT F j)) := fun j hj => by
                  by_cases hji : j = i
                  · rw [if_pos hji, hji, hcell.out, if_pos ⟨k16, hlast⟩]
                  · rw [if_neg hji]; exact hd.out j (by omega)
                have htl2 : t.size ≤ 300000 := by omega
                go_wp2
                go_roundw
                case rel =>
                  refine ⟨i + 1, fun j => if j = i then ⟨#[40]⟩ ++ t ++ ⟨#[41]⟩ else d j, by omega, by go_num, (hrow7.out _).congr (fun j _ => ?_), hd2, hb7.out _⟩
                  show (if j = i then Value.string _ else Value.string (if j = i then t else d j)) = Value.string (if j = i then _ else d j)
                  split <;> rfl
                case measure => simp [Lib.intOf]; omega
            · have b16 : (n.kind == 16) = false := by simpa using k16
              have hd2 : Hid (∀ j, j < i + 1 → (if j = i then t else d j) = txB (Qw.cellT F j)) := fun j hj => by
                by_cases hji : j = i
                · rw [if_pos hji, hji, hcell.out, if_neg (fun e => k16 e.1)]
                · rw [if_neg hji]; exact hd.out j (by omega)
              go_wp2
              go_roundw
              case rel => exact ⟨i + 1, _, by omega, by go_num, hrow8.out, hd2, hb5.out⟩
              case measure => simp [Lib.intOf]; omega
      · obtain rfl : i = F.length := by omega
        have hml : m < F.length := by have := hm.out; omega
        have r1 := hrow.cell (i := m) hml
        have hdm := hd.out m hml
        have htop : Qw.cellT F m = Qw.top Qw.dy F := by unfold Qw.cellT; rw [if_pos hm.out.symm]
        rw [htop] at hdm
        have hts := txB_size (Qw.top Qw.dy F)
        have hmlI : (m : Int) < (F.length : Int) := by omega
        simp only [hdm] at r1
        have HbE := mkHid HbG.out
        clear hrow hd hdm htop
        by_cases h2 : (Qw.top Qw.dy F).length ≤ 2000
        · have hr : Hid (R = txB (Qw.top Qw.dy F)) := show _ = _ from by rw [← hR.out, if_pos h2]
          generalize txB (Qw.top Qw.dy F) = t at *
          have b2 : decide ((2000 : Int) < (t.size : Int)) = false := by simp; omega
          go_wp2
          go_ret
          rw [hr.out]
          exact ⟨rfl, HbE.out⟩
        · have hr : Hid (R = ⟨#[]⟩) := show _ = _ from by rw [← hR.out, if_neg h2]; rfl
          generalize txB (Qw.top Qw.dy F) = t at *
          have b2 : decide ((2000 : Int) < (t.size : Int)) = true := by simp; omega
          go_wp2
          go_ret
          rw [hr.out]
          exact ⟨rfl, HbE.out⟩
end Go.Proofs.YtfaeckaeaeadeaaGreatDoor
namespace Go.Proofs.YtfaeckaeaeadeaaGreatDoor
open Go.RowKit Go.Lib Go.Maps
set_option maxHeartbeats 4000000 in
set_option maxRecDepth 20000 in
theorem walkWriteQuery (o : Option Addr) (F : List GQueryNode) (cap : Nat) (w : World) (hQ : QTab w) (hM : MTab w) (hP : PTab w) (hF : GQueryNodesL 0 w.heap.size w o F) (hlen : F.length ≤ maxLen) (hsz : ∀ f ∈ F, f.fits maxLen) :
    Calls Tryz.prog 3 #[.slice o F.length cap] w fun e w' => e = .returned (.bool true) ∧ Below w.heap.size w w' := by
  have HP := mkHid hP
  have HQ := mkHid hQ
  have HM := mkHid hM
  clear hP hQ hM
  have hS := mkHid (lawSzSQueryNode o F cap 1048576 0 w hF hlen hsz (Nat.le_refl _))
  have HF := mkHid hF
  clear hF hsz
  unfold maxLen at hlen
  go_enter Tryz.func3, Tryz.ntmps3
  go_wp2_with fail
  refine hS.out.mono ?_
  rintro e w1 ⟨r, rfl, hr, hb1⟩
  clear hS
  rcases hr.out with rfl | ⟨m, rfl, _hm, hl, hf⟩
  · go_wp2
    go_ret
    exact ⟨rfl, hb1⟩
  · clear hr
    have hfH := mkHid hf
    clear hf
    have cT := mkHid (lawToSQueryNode o F cap 0 w1 ((HF.out.below hb1 (Nat.le_refl _)).mono (Nat.le_refl _) hb1.size) hl hfH.out)
    go_wp2_with fail
    refine cT.out.mono ?_
    rintro e w2 ⟨rfl, n2, hb2⟩
    have hB2 := hb1.trans (hb2.mono hb1.size)
    have cS := mkHid (specWriteQuery (some ⟨w1.heap.size, 0, none⟩) F F.length _ w2 n2.out hl hfH.out)
    clear cT n2 hb1 hb2
    go_wp2_with fail
    refine cS.out.mono ?_
    rintro e w3 ⟨rfl, hb3⟩
    have hB3 := hB2.trans (hb3.mono hB2.size)
    clear cS hb3 hB2
    have cT := mkHid (lawToSQueryNode o F cap 0 w3 ((HF.out.below hB3 (Nat.le_refl _)).mono (Nat.le_refl _) hB3.size) hl hfH.out)
    go_wp2_with fail
    refine cT.out.mono ?_
    rintro e w4 ⟨rfl, n4, hb4⟩
    have hB4 := hB3.trans (hb4.mono hB3.size)
    have cI := mkHid (implWriteQuery (some ⟨w3.heap.size, 0, none⟩) F F.length _ w4 (HQ.out.on hB4) (HM.out.on hB4) (ptab_on HP.out hB4) n4.out hl hfH.out)
    clear cT hB3 hb4
    go_wp2_with fail
    refine cI.out.mono ?_
    rintro e w5 ⟨rfl, hb5⟩
    have hB5 := hB4.trans (hb5.mono hB4.size)
    have n5 := mkHid ((n4.out.below hb5 (Nat.le_refl _)).mono (Nat.le_refl _) hb5.size)
    clear cI n4 hb5 hB4
    have cT := mkHid (lawToSQueryNode o F cap 0 w5 ((HF.out.below hB5 (Nat.le_refl _)).mono (Nat.le_refl _) hB5.size) hl hfH.out)
    generalize plWriteQuery F = z at *
    have z1 : (z.toList != z.toList) = false := by simp
    go_wp2_with fail
    refine cT.out.mono ?_
    rintro e w6 ⟨rfl, n6, hb6⟩
    have hB6 := hB5.trans (hb6.mono hB5.size)
    have m6 := mkHid ((n5.out.below hb6 (Nat.le_refl _)).mono (Nat.le_refl _) hb6.size)
    have cE := mkHid (lawEqSQueryNode (some ⟨w3.heap.size, 0, none⟩) (some ⟨w5.heap.size, 0, none⟩) F F.length F.length _ _ w6 m6.out n6.out hl hfH.out)
    clear cT n5 n6 m6 hb6 hB5
    go_wp2_with fail
    refine cE.out.mono ?_
    rintro e w7 ⟨rfl, hb7⟩
    have hB7 := mkHid (hB6.trans (hb7.mono hB6.size))
    clear cE hb7 hB6
    go_wp2
    go_ret
    exact ⟨rfl, hB7.out⟩
end Go.Proofs.YtfaeckaeaeadeaaGreatDoor
