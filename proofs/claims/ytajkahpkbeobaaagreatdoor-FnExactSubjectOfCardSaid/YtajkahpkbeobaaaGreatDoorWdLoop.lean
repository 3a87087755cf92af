
/- A header's text as characters: the program's side. -/

/- ReadWords: the program's side. -/
import Derived.Test.YtajkahpkbeobaaaGreatDoorWdRead
import Derived.Test.YtajkahpkbeobaaaGreatDoorWdApp
namespace Go.Proofs.YtajkahpkbeobaaaGreatDoor
open Go.RowKit Go.Lib Go.Maps
set_option maxRecDepth 40000 in
set_option maxHeartbeats 4000000 in
/-- Where the text is no word by its signs or its size. -/
theorem implReadSigns (s : ByteArray) (w : World) (hs : s.size ≤ 1100000) (h : ¬ (hasPrefix s.data.toList [61, 63] = true ∧ hasSuffix (trimPrefix s.data.toList [61, 63]) [63, 61] = true ∧ s.size ≤ 75)) :
    Calls Tryz.prog 44 #[.string s] w fun e w' => RwOut w.heap.size none e w' ∧ Below w.heap.size w w' := by
  have c1 := mkHid (fun W => Tryz.strings_CutPrefix s ⟨#[61, 63]⟩ W)
  have eP : (⟨#[61, 63]⟩ : ByteArray).data.toList = [61, 63] := rfl
  have eS : (⟨#[63, 61]⟩ : ByteArray).data.toList = [63, 61] := rfl
  rw [eP] at c1
  have hlP : (trimPrefix s.data.toList [61, 63]).length ≤ s.data.toList.length := by
    unfold trimPrefix
    split <;> first | exact Nat.le_refl _ | (rw [List.length_drop]; omega)
  have hls : s.data.toList.length = s.size := by simp
  generalize trimPrefix s.data.toList [61, 63] = l1 at *
  generalize hasPrefix s.data.toList [61, 63] = b1 at *
  have z1 : (⟨l1.toArray⟩ : ByteArray).size ≤ 1100000 := by show l1.toArray.size ≤ _; simp; omega
  have c2 := mkHid (fun W => Tryz.strings_CutSuffix ⟨l1.toArray⟩ ⟨#[63, 61]⟩ W (by omega))
  rw [eS, show (⟨l1.toArray⟩ : ByteArray).data.toList = l1 from rfl] at c2
  generalize trimSuffix l1 [63, 61] = l2 at *
  generalize hasSuffix l1 [63, 61] = b2 at *
  clear eP eS hlP hls z1
  have h3 : b1 = false ∨ (b1 = true ∧ b2 = false) ∨ (b1 = true ∧ b2 = true ∧ (75 : Int) < (s.size : Int)) := by
    cases b1
    · exact .inl rfl
    · cases b2
      · exact .inr (.inl ⟨rfl, rfl⟩)
      · refine .inr (.inr ⟨rfl, rfl, ?_⟩)
        have : ¬ s.size ≤ 75 := fun h5 => h ⟨rfl, rfl, h5⟩
        omega
  clear h
  rcases h3 with rfl | ⟨rfl, rfl⟩ | ⟨rfl, rfl, h75⟩
  · cases b2
    all_goals
      go_enter Tryz.func44, Tryz.ntmps44
      go_wp2_with fail
      refine (c1.out _).mono ?_
      rintro e w2 ⟨rfl, rfl⟩
      clear c1
      go_wp2_with fail
      refine (c2.out _).mono ?_
      rintro e w2 ⟨rfl, rfl⟩
      clear c2
      go_wp2
      go_ret2
      exact ⟨rfl, Below.refl _ _⟩
  all_goals
    go_enter Tryz.func44, Tryz.ntmps44
    go_wp2_with fail
    refine (c1.out _).mono ?_
    rintro e w2 ⟨rfl, rfl⟩
    clear c1
    go_wp2_with fail
    refine (c2.out _).mono ?_
    rintro e w2 ⟨rfl, rfl⟩
    clear c2
    go_wp2
    go_ret2
    exact ⟨rfl, Below.refl _ _⟩
set_option maxRecDepth 40000 in
set_option maxHeartbeats 4000000 in
/-- Where there are not three parts. -/
theorem implReadParts (s : ByteArray) (w : World) (hs : s.size ≤ 75)
    (h1 : hasPrefix s.data.toList [61, 63] = true) (h2 : hasSuffix (trimPrefix s.data.toList [61, 63]) [63, 61] = true)
    (hne : countB ⟨(trimSuffix (trimPrefix s.data.toList [61, 63]) [63, 61]).toArray⟩ ⟨#[63]⟩ ≠ 2)
    (m : Int) (hm : w.cell? ⟨1, 0, none⟩ = some (.int .i64 m)) :
    Calls Tryz.prog 44 #[.string s] w fun e w' => RwOut w.heap.size none e w' ∧ Below w.heap.size w w' := by
  have c1 := mkHid (fun W => Tryz.strings_CutPrefix s ⟨#[61, 63]⟩ W)
  have eP : (⟨#[61, 63]⟩ : ByteArray).data.toList = [61, 63] := rfl
  have eS : (⟨#[63, 61]⟩ : ByteArray).data.toList = [63, 61] := rfl
  rw [eP, h1] at c1
  have hlP : (trimPrefix s.data.toList [61, 63]).length ≤ s.data.toList.length := by
    unfold trimPrefix
    split <;> first | exact Nat.le_refl _ | (rw [List.length_drop]; omega)
  have hls : s.data.toList.length = s.size := by simp
  generalize trimPrefix s.data.toList [61, 63] = l1 at *
  have z1 : (⟨l1.toArray⟩ : ByteArray).size ≤ 75 := by show l1.toArray.size ≤ 75; simp; omega
  have c2 := mkHid (fun W => Tryz.strings_CutSuffix ⟨l1.toArray⟩ ⟨#[63, 61]⟩ W (by omega))
  rw [eS, show (⟨l1.toArray⟩ : ByteArray).data.toList = l1 from rfl, h2] at c2
  have hlS : (trimSuffix l1 [63, 61]).length ≤ l1.length := by
    unfold trimSuffix
    split <;> first | exact Nat.le_refl _ | (rw [List.length_take]; omega)
  generalize trimSuffix l1 [63, 61] = l2 at *
  have z2 : (⟨l2.toArray⟩ : ByteArray).size ≤ 75 := by show l2.toArray.size ≤ 75; simp; omega
  have c3 := mkHid (Tryz.strings_Split ⟨l2.toArray⟩ ⟨#[63]⟩ m w (by omega) hm (by decide))
  generalize countB ⟨l2.toArray⟩ ⟨#[63]⟩ = n at *
  generalize (splitB ⟨#[63]⟩ 0 n ⟨l2.toArray⟩).map Value.string = P at *
  have q75 : ¬ (75 : Int) < (s.size : Int) := by omega
  have q3 : ¬ (n : Int) + 1 = 3 := by omega
  clear hm h1 h2 hlP hlS z1 z2 eP eS hls hne
  go_enter Tryz.func44, Tryz.ntmps44
  go_wp2_with fail
  refine (c1.out _).mono ?_
  rintro e w2 ⟨rfl, rfl⟩
  clear c1
  go_wp2_with fail
  refine (c2.out _).mono ?_
  rintro e w2 ⟨rfl, rfl⟩
  clear c2
  go_wp2_with fail
  refine c3.out.mono ?_
  rintro e X ⟨rfl, rfl⟩
  clear c3
  go_wp2
  go_ret2
  exact ⟨rfl, (Below.refl _ _).alloc (Nat.le_refl _) _⟩
set_option maxRecDepth 20000 in
theorem implReadWord (s : ByteArray) (w : World) (hs : s.size ≤ 1100000)
    (hT : Lib.Utf8Tabs 2 3 w) (hE : ErrCell w) (m : Int) (hm : w.cell? ⟨1, 0, none⟩ = some (.int .i64 m)) (ct : TypeId) (fr : Nat × Nat) (hC : w.heap[0]? = some (.cells arr ct fr)) :
    Calls Tryz.prog 44 #[.string s] w fun e w' => RwOut w.heap.size (Pw.word s.data.toList) e w' ∧ Below w.heap.size w w' := by
  have hls : s.data.toList.length = s.size := by simp
  by_cases h : hasPrefix s.data.toList [61, 63] = true ∧ hasSuffix (trimPrefix s.data.toList [61, 63]) [63, 61] = true ∧ s.size ≤ 75
  · obtain ⟨h1, h2, h3⟩ := h
    have hcut := parts_cut ⟨(trimSuffix (trimPrefix s.data.toList [61, 63]) [63, 61]).toArray⟩
    rw [show (⟨(trimSuffix (trimPrefix s.data.toList [61, 63]) [63, 61]).toArray⟩ : ByteArray).data.toList = trimSuffix (trimPrefix s.data.toList [61, 63]) [63, 61] from rfl] at hcut
    have hln := splitB_all ⟨#[63]⟩ (by decide) 0 _ ⟨(trimSuffix (trimPrefix s.data.toList [61, 63]) [63, 61]).toArray⟩ rfl
    have hw : Pw.word s.data.toList = (match Cu.cut 63 [] (trimSuffix (trimPrefix s.data.toList [61, 63]) [63, 61]) with | [a, b, c] => Pw.three a b c | _ => none) := by
      unfold Pw.word
      rw [if_pos ⟨h1, h2, by omega⟩]
      rfl
    rw [hw, ← hcut]
    by_cases hc : countB ⟨(trimSuffix (trimPrefix s.data.toList [61, 63]) [63, 61]).toArray⟩ ⟨#[63]⟩ = 2
    · have hsz := part_sizeW ⟨#[63]⟩ 0 (countB ⟨(trimSuffix (trimPrefix s.data.toList [61, 63]) [63, 61]).toArray⟩ ⟨#[63]⟩) ⟨(trimSuffix (trimPrefix s.data.toList [61, 63]) [63, 61]).toArray⟩
      have z0 : (⟨(trimSuffix (trimPrefix s.data.toList [61, 63]) [63, 61]).toArray⟩ : ByteArray).size ≤ 75 := by
        have e := Pw.word_shape s.data.toList h1 h2
        have e2 := congrArg List.length e
        simp only [List.length_cons, List.length_append, List.length_nil] at e2
        show (trimSuffix (trimPrefix s.data.toList [61, 63]) [63, 61]).toArray.size ≤ 75
        rw [List.size_toArray]
        omega
      rw [hc] at hln
      obtain ⟨A, B, C, hP⟩ : ∃ A B C, splitB ⟨#[63]⟩ 0 (countB ⟨(trimSuffix (trimPrefix s.data.toList [61, 63]) [63, 61]).toArray⟩ ⟨#[63]⟩) ⟨(trimSuffix (trimPrefix s.data.toList [61, 63]) [63, 61]).toArray⟩ = [A, B, C] := by
        rw [← hc] at hln
        generalize splitB ⟨#[63]⟩ 0 (countB ⟨(trimSuffix (trimPrefix s.data.toList [61, 63]) [63, 61]).toArray⟩ ⟨#[63]⟩) ⟨(trimSuffix (trimPrefix s.data.toList [61, 63]) [63, 61]).toArray⟩ = L at hln
        rw [hc] at hln
        match L, hln with
        | [A, B, C], _ => exact ⟨A, B, C, rfl⟩
      rw [hP] at hsz ⊢
      have zA := hsz A (by simp)
      have zB := hsz B (by simp)
      have zC := hsz C (by simp)
      exact implReadThree s w h3 _ A B C h1 h2 ⟨by omega, by omega, by omega⟩ rfl hP hT hE m hm ct fr hC
    · have hx : (match (splitB ⟨#[63]⟩ 0 (countB ⟨(trimSuffix (trimPrefix s.data.toList [61, 63]) [63, 61]).toArray⟩ ⟨#[63]⟩) ⟨(trimSuffix (trimPrefix s.data.toList [61, 63]) [63, 61]).toArray⟩).map (·.data.toList) with | [a, b, c] => Pw.three a b c | _ => none) = none := by
        generalize splitB ⟨#[63]⟩ 0 (countB ⟨(trimSuffix (trimPrefix s.data.toList [61, 63]) [63, 61]).toArray⟩ ⟨#[63]⟩) ⟨(trimSuffix (trimPrefix s.data.toList [61, 63]) [63, 61]).toArray⟩ = L at hln
        match L, hln with
        | [], _ => rfl
        | [_], _ => rfl
        | [_, _], _ => rfl
        | [_, _, _], h => simp at h; omega
        | _ :: _ :: _ :: _ :: _, _ => rfl
      rw [hx]
      exact implReadParts s w h3 h1 h2 hc m hm
  · have hx : Pw.word s.data.toList = none := by
      unfold Pw.word
      rw [if_neg (fun h4 => h ⟨h4.1, h4.2.1, by omega⟩)]
    rw [hx]
    exact implReadSigns s w hs h
end Go.Proofs.YtajkahpkbeobaaaGreatDoor
namespace Go.Proofs.YtajkahpkbeobaaaGreatDoor
open Go.RowKit Go.Lib Go.Maps
set_option maxRecDepth 20000 in
theorem ext_headW (s : ByteArray) (k : Nat) : (s.extract 0 k).data.toList = s.data.toList.take k := by
  simp [ByteArray.data_extract, Array.toList_extract]
set_option maxRecDepth 20000 in
theorem neq_empty (t : ByteArray) (h : 0 < t.size) : t.toList ≠ [] := by
  rw [ByteArray.toList_eq]
  intro e
  have h2 : t.data.toList.length = t.size := by simp
  rw [e, List.length_nil] at h2
  omega
set_option maxRecDepth 20000 in
theorem empty_of (t : ByteArray) (h : ¬ 0 < t.size) : t.data.toList = [] := by
  have h2 : t.data.toList.length = t.size := by simp
  exact List.length_eq_zero_iff.1 (by omega)
set_option maxRecDepth 20000 in
theorem OwnN.lower {B B' : Nat} {v : Value} {P : List Int} {w : World} (h : OwnN B v P w) (hB : B' ≤ B) : OwnN B' v P w := own_baseN h hB
set_option maxRecDepth 20000 in
theorem row_stayW {B : Nat} {v : Value} {P : List Int} {w w' : World} (h : OwnN B v P w) (hk : ∀ k, v.ownBlock = some k → w'.heap[k]? = w.heap[k]?) : OwnN B v P w' := by
  refine ⟨h.1, ?_⟩
  rcases h.2 with h2 | ⟨k, cap, cur, e1, e2, e3, e4⟩
  · exact .inl h2
  · refine .inr ⟨k, cap, cur, e1, e2, ?_, e4⟩
    rw [hk k (by rw [e1]; rfl)]
    exact e3
set_option maxRecDepth 40000 in
set_option maxHeartbeats 8000000 in
theorem implReadWords (s : ByteArray) (w : World) (hs : s.size ≤ 100000)
    (hT : Lib.Utf8Tabs 2 3 w) (hE : ErrCell w) (m : Int) (hm : w.cell? ⟨1, 0, none⟩ = some (.int .i64 m)) (ct : TypeId) (fr : Nat × Nat) (hC : w.heap[0]? = some (.cells arr ct fr)) :
    Calls Tryz.prog 19 #[.string s] w fun e w' => ∃ v, e = .returned v ∧ OwnN w.heap.size v (Pw.rd false s.data.toList) w' ∧ Below w.heap.size w w' := by
  have hTL := mkHid (implTooLongD s w hs)
  obtain ⟨R, hR⟩ : ∃ R, Pw.rd false s.data.toList = R := ⟨_, rfl⟩
  rw [hR]
  have HR : Hid ([] ++ Pw.rd false s.data.toList = R) := hR
  clear hR
  have hRW := mkHid (fun (t : ByteArray) (W : World) (ht : t.size ≤ 1100000) (hW : Below w.heap.size w W) => implReadWord t W ht (tabsD_below hT hW) (hE.below hW) m ((hW.cell (p := ⟨1, 0, none⟩) (World.block_lt_of_cell? _ _ hm)).trans hm) ct fr ((hW.block _ (heap_lt hC)).trans hC))
  clear hT hE hm hC
  go_enter Tryz.func19, Tryz.ntmps19
  go_wp2_with fail
  refine hTL.out.mono ?_
  rintro e w0 ⟨rfl, rfl⟩
  clear hTL
  go_wp2
  go_loopw [0, 3, 4] (fun tv v bv wr => ∃ (t : ByteArray) (b : Bool) (C : List Int), tv = .string t ∧ bv = .bool b ∧ C.length + t.size ≤ 100000 ∧ Hid (C ++ Pw.rd b t.data.toList = R) ∧ Hid (OwnN w.heap.size v C wr) ∧ Hid (Below w.heap.size w wr)) (fun tv _ _ _ => match tv with | .string t => t.size | _ => 0)
  case atStart => exact ⟨s, false, [], rfl, rfl, by simpa using hs, HR, mkHid (OwnN.nil _ _), mkHid (Below.refl _ _)⟩
  case round =>
    clear HR
    obtain ⟨t, b, C, rfl, rfl, hCl, HR, HO, Hb⟩ := hrel
    have hll : t.data.toList.length = t.size := by simp
    by_cases h0 : 0 < t.size
    · have hne := neq_empty t h0
      have hne2 : t.data.toList ≠ [] := by rw [← ByteArray.toList_eq]; exact neq_empty t h0
      have hne5 : (!t.toList.isEmpty) = true := by
        cases hq : t.toList with
        | nil => exact absurd hq (neq_empty t h0)
        | cons a r => rfl
      have hg := mkHid (fun W => implCutGap t W (by omega))
      have hgl := Pw.gap_le t.data.toList
      have htl := Pw.tx_le (t.data.toList.drop (Pw.gap t.data.toList))
      rw [List.length_drop] at htl
      have hx := mkHid (fun W => implCutText (t.extract (Pw.gap t.data.toList) t.size) W (by rw [ByteArray.size_extract]; omega))
      have e1 : (t.extract (Pw.gap t.data.toList) t.size).data.toList = t.data.toList.drop (Pw.gap t.data.toList) := ext_drop _ _
      rw [e1] at hx
      have z1 : (t.extract (Pw.gap t.data.toList) t.size).size = t.size - Pw.gap t.data.toList := by rw [ByteArray.size_extract]; omega
      rw [z1] at hx
      have hlen := Pw.rs_len t.data.toList
      have hlt := Pw.rs_lt t.data.toList hne2
      -- the three pieces
      obtain ⟨gt, hgt⟩ : ∃ gt, t.extract 0 (Pw.gap t.data.toList) = gt := ⟨_, rfl⟩
      obtain ⟨xt, hxt⟩ : ∃ xt, (t.extract (Pw.gap t.data.toList) t.size).extract 0 (Pw.tx (t.data.toList.drop (Pw.gap t.data.toList))) = xt := ⟨_, rfl⟩
      obtain ⟨rt, hrt⟩ : ∃ rt, (t.extract (Pw.gap t.data.toList) t.size).extract (Pw.tx (t.data.toList.drop (Pw.gap t.data.toList))) (t.size - Pw.gap t.data.toList) = rt := ⟨_, rfl⟩
      have dg : gt.data.toList = t.data.toList.take (Pw.gap t.data.toList) := by rw [← hgt, ext_headW]
      have dx : xt.data.toList = Pw.wd t.data.toList := by rw [← hxt, ext_headW, e1]; rfl
      have dr : rt.data.toList = Pw.rs t.data.toList := by
        rw [← hrt]
        conv => lhs; rw [← z1]
        rw [ext_drop, e1]
        rfl
      rw [hgt] at hg
      rw [hxt, hrt] at hx
      have hW := fun ps h => Pw.rd_word b t.data.toList ps hne2 h
      have hWl := Pw.word_len xt.data.toList
      rw [← dg, ← dx, ← dr] at hlen hW
      rw [← dr] at hlt
      have hN : Pw.word xt.data.toList = none → Pw.rd b t.data.toList = Pw.pts gt.data.toList ++ (Pw.pts xt.data.toList ++ Pw.rd false rt.data.toList) := by
        intro h
        rw [dx] at h
        rw [Pw.rd_text b t.data.toList hne2 h, ← dg, ← dx, ← dr]
      have lg : gt.data.toList.length = gt.size := by simp
      have lx : xt.data.toList.length = xt.size := by simp
      have lr : rt.data.toList.length = rt.size := by simp
      rw [lg, lx, lr, hll] at hlen
      rw [lr, hll] at hlt
      have hrw := mkHid (fun W hW => hRW.out xt W (by omega) hW)
      have HWd := mkHid hW
      have HNo := mkHid hN
      have HWl := mkHid hWl
      clear hgl htl e1 z1 hgt hxt hrt dg dx dr hW hN hWl hne2
      go_wp2_with fail
      refine (hg.out _).mono ?_
      rintro e w1 ⟨rfl, hb1⟩
      have Hb1 := mkHid (Hb.out.trans (hb1.mono Hb.out.size))
      have HO1 := mkHid (HO.out.below hb1)
      clear hg hb1 HO Hb
      go_wp2_with fail
      refine (hx.out _).mono ?_
      rintro e w2 ⟨rfl, hb2⟩
      have Hb2 := mkHid (Hb1.out.trans (hb2.mono Hb1.out.size))
      have HO2 := mkHid (HO1.out.below hb2)
      clear hx hb2 HO1 Hb1
      go_wp2_with fail
      refine (hrw.out _ Hb2.out).mono ?_
      rintro e w3 ⟨hRo, hb3⟩
      have Hb3 := mkHid (Hb2.out.trans (hb3.mono Hb2.out.size))
      have HO3 := mkHid (HO2.out.below hb3)
      have z3 : w.heap.size ≤ w3.heap.size := Hb3.out.size
      have z2 : w.heap.size ≤ w2.heap.size := Hb2.out.size
      cases hp : Pw.word xt.data.toList with
      | none =>
        rw [hp] at hRo
        unfold RwOut at hRo
        subst hRo
        have hrd := HNo.out hp
        have Hn : Hid ((C ++ Pw.pts gt.data.toList) ++ Pw.pts xt.data.toList ++ Pw.rd false rt.data.toList = R) := mkHid (by
          rw [← HR.out, hrd]
          simp)
        have hA1 := mkHid (implAppendBytes w.heap.size u3 C gt w3 HO3.out z3 (by omega))
        clear HWd HNo HWl hp hrd HR hrw hb3 HO2 Hb2
        have zc : (C ++ Pw.pts gt.data.toList).length = C.length + gt.size := by rw [List.length_append]; unfold Pw.pts; rw [List.length_map, lg]
        have zx : (Pw.pts xt.data.toList).length = xt.size := by unfold Pw.pts; rw [List.length_map, lx]
        generalize hG : C ++ Pw.pts gt.data.toList = CG at *
        clear hG
        cases b
        all_goals
          go_simp
          go_wp2_with fail
          refine hA1.out.mono ?_
          rintro e w4 ⟨v4, rfl, hO4, hb4, -⟩
          have z4 : w.heap.size ≤ w4.heap.size := Nat.le_trans z3 hb4.size
          have hA2 := mkHid (implAppendBytes w.heap.size v4 CG xt w4 hO4 z4 (by omega))
          have Hb4 := mkHid (Hb3.out.trans hb4)
          clear hA1 hO4 hb4 Hb3 HO3
          go_wp2_with fail
          refine hA2.out.mono ?_
          rintro e w5 ⟨v5, rfl, hO5, hb5, -⟩
          have HO5 := mkHid hO5
          have Hb5 := mkHid (Hb4.out.trans hb5)
          have zz : (CG ++ Pw.pts xt.data.toList).length + rt.size ≤ 100000 := by rw [List.length_append]; omega
          have Hn2 : Hid ((CG ++ Pw.pts xt.data.toList) ++ Pw.rd false rt.data.toList = R) := Hn
          clear hA2 hO5 hb5 Hb4
          generalize CG ++ Pw.pts xt.data.toList = CX at *
          go_wp2
          go_roundw
          case rel => exact ⟨rt, false, CX, rfl, rfl, zz, Hn2, HO5, Hb5⟩
          case measure => exact hlt
      | some ps =>
        have hpl := HWl.out ps hp
        rw [hp] at hRo
        obtain ⟨v, rfl, hOv⟩ := hRo
        have hrd := HWd.out ps hp
        rw [lx] at hpl
        cases b with
        | true =>
          have Hn : Hid ((C ++ ps) ++ Pw.rd true rt.data.toList = R) := mkHid (by
            rw [← HR.out, hrd]
            simp)
          have zz : (C ++ ps).length + rt.size ≤ 100000 := by rw [List.length_append]; omega
          obtain ⟨o', c', rfl⟩ := hOv.shape
          have hIn := hOv.inL
          clear HWd HNo HWl hp hrd HR hrw hb3 HO2 Hb2 hOv
          go_simp
          go_wp2_with (at_builtin; go_must (refine wp_appNs (w := w3) rfl _ _ rfl w.heap.size u3 C rfl HO3.out o' ps c' w2.heap.size rfl hIn (by omega) z3 ?_; intro v' w' hO' hG' hv'; refine Hid.out ?_))
          have bA := mkHid (Hb3.out.grown hG' z3 (fun k hk => (World.ownsRow.lt HO3.out k hk).1))
          have HO5 := mkHid hO'
          clear hO' hG' hv' hIn HO3 Hb3
          generalize C ++ ps = CX at *
          refine mkHid ?_
          go_wp2
          go_roundw
          case rel => exact ⟨rt, true, CX, rfl, rfl, zz, Hn, HO5, bA⟩
          case measure => exact hlt
        | false =>
          have Hn : Hid ((C ++ Pw.pts gt.data.toList) ++ ps ++ Pw.rd true rt.data.toList = R) := mkHid (by
            rw [← HR.out, hrd]
            simp)
          have hA1 := mkHid (implAppendBytes w.heap.size u3 C gt w3 HO3.out z3 (by omega))
          have zc : (C ++ Pw.pts gt.data.toList).length = C.length + gt.size := by rw [List.length_append]; unfold Pw.pts; rw [List.length_map, lg]
          have HOv := mkHid hOv
          clear HWd HNo HWl hp hrd HR hrw hb3 Hb2 hOv
          generalize hG : C ++ Pw.pts gt.data.toList = CG at *
          clear hG
          have zz : (CG ++ ps).length + rt.size ≤ 100000 := by rw [List.length_append]; omega
          go_simp
          go_wp2_with fail
          refine hA1.out.mono ?_
          rintro e w4 ⟨v4, rfl, hO4, hb4, hg4⟩
          have z4 : w.heap.size ≤ w4.heap.size := Nat.le_trans z3 hb4.size
          have hv4 : ∀ q, v.ownBlock = some q → some q ≠ u3.ownBlock := fun q hq e => by
            have h1 := (World.ownsRow.lt HOv.out q hq).1
            have h2 := (World.ownsRow.lt HO2.out q e.symm).2
            omega
          have hOv4 : OwnN w2.heap.size v ps w4 := row_stayW HOv.out (fun q hq => hg4.block q (World.ownsRow.lt HOv.out q hq).2 (hv4 q hq))
          have HO4 := mkHid hO4
          have Hb4 := mkHid (Hb3.out.trans hb4)
          obtain ⟨o', c', rfl⟩ := hOv4.shape
          have hIn := hOv4.inL
          clear hA1 hO4 hb4 hg4 hv4 hOv4 HOv HO2 HO3 Hb3
          go_simp
          go_wp2_with (at_builtin; go_must (refine wp_appNs (w := w4) rfl _ _ rfl w.heap.size v4 CG rfl HO4.out o' ps c' w2.heap.size rfl hIn (by omega) z4 ?_; intro v' w' hO' hG' hv'; refine Hid.out ?_))
          have bA := mkHid (Hb4.out.grown hG' z4 (fun k hk => (World.ownsRow.lt HO4.out k hk).1))
          have HO5 := mkHid hO'
          have Hn2 : Hid ((CG ++ ps) ++ Pw.rd true rt.data.toList = R) := Hn
          clear hO' hG' hv' hIn HO4 Hb4
          generalize CG ++ ps = CX at *
          refine mkHid ?_
          go_wp2
          go_roundw
          case rel => exact ⟨rt, true, CX, rfl, rfl, zz, Hn2, HO5, bA⟩
          case measure => exact hlt
    · have hn := empty_of t h0
      have hne4 : t.toList = [] := by rw [ByteArray.toList_eq, hn]
      have hne : t.toList.isEmpty = true := by rw [ByteArray.toList_eq, hn]; rfl
      have Hn : Hid (C = R) := mkHid (by rw [← HR.out, hn, Pw.rd_nil, List.append_nil])
      clear HR hRW
      go_wp2
      go_ret
      rw [← Hn.out]
      exact ⟨_, rfl, HO.out, Hb.out⟩
end Go.Proofs.YtajkahpkbeobaaaGreatDoor
