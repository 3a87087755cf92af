
/- An encoded word: the program's side. -/
import Derived.Test.YtajkahpkbeobaaaGreatDoorWdCut
import Derived.Test.YtajkahpkbeobaaaGreatDoorWdSpec1
import Derived.OrdersHeld
namespace Go.Proofs.YtajkahpkbeobaaaGreatDoor
open Go.RowKit Go.Lib Go.Maps
set_option maxRecDepth 20000 in
theorem wp_cutW {P : Program} {c : Go.Code} {a : Act} {w : World} {Q : Exit → Act → World → Prop} (R : Act → Act → World → Prop) (h1 : c.wp P (fun x a' w' => x = .normal ∧ R a a' w') a w) (h2 : ∀ a' w', R a a' w' → Q .normal a' w') : c.wp P Q a w :=
  Go.Code.wp_mono (fun _ a' w' h => by obtain ⟨rfl, h⟩ := h; exact h2 a' w' h) h1
set_option maxRecDepth 20000 in
theorem part_sizeW (sep : ByteArray) (sv : Nat) : ∀ (k : Nat) (s q : ByteArray), q ∈ splitB sep sv k s → q.size ≤ s.size
  | 0, s, q, h => by
    rw [splitB_zero, List.mem_singleton] at h
    rw [h]; exact Nat.le_refl _
  | k + 1, s, q, h => by
    unfold splitB at h
    split at h
    · rw [List.mem_singleton] at h
      rw [h]; exact Nat.le_refl _
    · rcases List.mem_cons.1 h with h | h
      · rw [h, ByteArray.size_extract]; omega
      · have := part_sizeW sep sv k _ q h
        rw [ByteArray.size_extract] at this
        omega
set_option maxRecDepth 20000 in
/-- The parts of a text between marks. -/
theorem parts_cut (s : ByteArray) : (splitB ⟨#[63]⟩ 0 (countB s ⟨#[63]⟩) s).map (·.data.toList) = Cu.cut 63 [] s.data.toList := by
  rw [← Pw.sp_cut, ← Pl.split_sp]
  exact splitB_data ⟨#[63]⟩ 0 (countB s ⟨#[63]⟩) s
/-- What readWord answers. -/
def RwOut (B : Nat) (x : Option (List Int)) (e : Ending) (w : World) : Prop := match x with
  | some ps => ∃ v, e = .returned (.tuple #[v, .bool true]) ∧ OwnN B v ps w
  | none => e = .returned (.tuple #[.slice none 0 0, .bool false])
def DecV (B : Nat) (x : Option (List Int)) (bg : Bool) (v : Value) (w : World) : Prop := match x with
  | some ps => bg = true ∧ OwnN B v ps w
  | none => bg = false ∧ v = .slice none 0 0
set_option maxRecDepth 20000 in
theorem dec_form {B : Nat} {x : Option (List Int)} {e : Ending} {w : World} (h : DecOut B x e w) : ∃ (bg : Bool) (i : Int) (o : Option Addr) (n c : Nat), e = .returned (.agg #[.bool bg, .int .i64 i, .slice o n c]) ∧ Hid (DecV B x bg (.slice o n c) w) := by
  cases x with
  | none =>
    obtain ⟨i, rfl⟩ := h
    exact ⟨false, i, none, 0, 0, rfl, rfl, rfl⟩
  | some ps =>
    obtain ⟨v, rfl, hO⟩ := h
    obtain ⟨o, c, rfl⟩ := hO.shape
    exact ⟨true, 0, o, ps.length, c, rfl, rfl, hO⟩
set_option maxRecDepth 20000 in
theorem DecV.below {B : Nat} {x : Option (List Int)} {bg : Bool} {v : Value} {w w' : World} (h : DecV B x bg v w) (hb : Below w.heap.size w w') : DecV B x bg v w' := by
  cases x with
  | none => exact h
  | some ps => exact ⟨h.1, h.2.below hb⟩
set_option maxRecDepth 20000 in
theorem DecV.base {B B' : Nat} {x : Option (List Int)} {bg : Bool} {v : Value} {w : World} (h : DecV B x bg v w) (hb : B' ≤ B) : DecV B' x bg v w := by
  cases x with
  | none => exact h
  | some ps => exact ⟨h.1, own_baseN h.2 hb⟩
set_option maxRecDepth 20000 in
/-- A row is stored beside it. -/
theorem DecV.set {B : Nat} {x : Option (List Int)} {bg : Bool} {v : Value} {w : World} (h : DecV B x bg v w) (b : Nat) (cs : Array Value) (hb : v.ownBlock ≠ some b) : DecV B x bg v (w.setRow b cs) := by
  cases x with
  | none => exact h
  | some ps => exact ⟨h.1, h.2.keep (grown_setRow w b cs) (.inr hb)⟩
set_option maxRecDepth 20000 in
theorem decV_lt {B : Nat} {x : Option (List Int)} {bg : Bool} {v : Value} {w : World} (h : DecV B x bg v w) : ∀ g, v.ownBlock = some g → B ≤ g ∧ g < w.heap.size := by
  intro g hg
  cases x with
  | none => rw [h.2] at hg; cases hg
  | some ps => exact World.ownsRow.lt h.2 g hg
set_option maxRecDepth 20000 in
theorem heap_allocW (w : World) (o : Obj) : (w.alloc o).heap[w.heap.size]? = some o := by
  show (w.heap.push o)[w.heap.size]? = some o
  simp
set_option maxRecDepth 40000 in
set_option maxHeartbeats 8000000 in
/-- Where the text has a word's three parts. -/
theorem implReadThree (s : ByteArray) (w : World) (hs : s.size ≤ 75) (x : Option (List Int)) (A B C : ByteArray)
    (h1 : hasPrefix s.data.toList [61, 63] = true) (h2 : hasSuffix (trimPrefix s.data.toList [61, 63]) [63, 61] = true)
    (hz : A.size ≤ 100000 ∧ B.size ≤ 100000 ∧ C.size ≤ 100000) (hx : Pw.three A.data.toList B.data.toList C.data.toList = x)
    (hsp : splitB ⟨#[63]⟩ 0 (countB ⟨(trimSuffix (trimPrefix s.data.toList [61, 63]) [63, 61]).toArray⟩ ⟨#[63]⟩) ⟨(trimSuffix (trimPrefix s.data.toList [61, 63]) [63, 61]).toArray⟩ = [A, B, C])
    (hT : Lib.Utf8Tabs 2 3 w) (hE : ErrCell w) (m : Int) (hm : w.cell? ⟨1, 0, none⟩ = some (.int .i64 m)) (ct : TypeId) (fr : Nat × Nat) (hC : w.heap[0]? = some (.cells arr ct fr)) :
    Calls Tryz.prog 44 #[.string s] w fun e w' => RwOut w.heap.size x e w' ∧ Below w.heap.size w w' := by
  have c1 := mkHid (fun W => Tryz.strings_CutPrefix s ⟨#[61, 63]⟩ W)
  have eP : (⟨#[61, 63]⟩ : ByteArray).data.toList = [61, 63] := rfl
  have eS : (⟨#[63, 61]⟩ : ByteArray).data.toList = [63, 61] := rfl
  rw [eP, h1] at c1
  have hlP : (trimPrefix s.data.toList [61, 63]).length ≤ s.data.toList.length := by
    unfold trimPrefix
    split <;> first | exact Nat.le_refl _ | (rw [List.length_drop]; omega)
  have hls : s.data.toList.length = s.size := by simp
  generalize trimPrefix s.data.toList [61, 63] = l1 at *
  have z1 : (⟨l1.toArray⟩ : ByteArray).size ≤ 75 := by show l1.toArray.size ≤ 75; simp; omega
  have c2 := mkHid (fun W => Tryz.strings_CutSuffix ⟨l1.toArray⟩ ⟨#[63, 61]⟩ W (by omega))
  rw [eS, show (⟨l1.toArray⟩ : ByteArray).data.toList = l1 from rfl, h2] at c2
  have hlS : (trimSuffix l1 [63, 61]).length ≤ l1.length := by
    unfold trimSuffix
    split <;> first | exact Nat.le_refl _ | (rw [List.length_take]; omega)
  generalize trimSuffix l1 [63, 61] = l2 at *
  have z2 : (⟨l2.toArray⟩ : ByteArray).size ≤ 75 := by show l2.toArray.size ≤ 75; simp; omega
  have hln := splitB_all ⟨#[63]⟩ (by decide) 0 _ ⟨l2.toArray⟩ rfl
  rw [hsp] at hln
  have hl3 : countB ⟨l2.toArray⟩ ⟨#[63]⟩ = 2 := by simp at hln; omega
  have c3 := mkHid (Tryz.strings_Split ⟨l2.toArray⟩ ⟨#[63]⟩ m w (by omega) hm (by decide))
  rw [hl3] at hsp
  rw [hl3, hsp] at c3
  obtain ⟨X, hX⟩ : ∃ X, w.alloc (.cells (([A, B, C] : List ByteArray).map Value.string).toArray 9) = X := ⟨_, rfl⟩
  rw [hX] at c3
  have hbX : Below w.heap.size w X := by rw [← hX]; exact (Below.refl _ _).alloc (Nat.le_refl _) _
  obtain ⟨g, hg⟩ : ∃ g, w.heap.size = g := ⟨_, rfl⟩
  have hgX : X.heap.size = g + 1 := by rw [← hX]; simp [hg]
  have hrow : X.heap[g]? = some (.cells #[.string A, .string B, .string C] 9 (0, 0)) := by rw [← hX, ← hg]; exact heap_allocW _ _
  have HT := mkHid (tabsD_below hT hbX)
  have HE := mkHid (hE.below hbX)
  have HM := mkHid ((hbX.cell (p := ⟨1, 0, none⟩) (World.block_lt_of_cell? _ _ hm)).trans hm)
  have HC := mkHid ((hbX.block _ (heap_lt hC)).trans hC)
  have HbX := mkHid hbX
  have HS := mkHid (show ∀ W, Below X.heap.size X W → W.cell? ⟨g, 1, none⟩ = some (.string B) ∧ W.cell? ⟨g, 2, none⟩ = some (.string C) from fun W hW => by
    have h := (hW.block g (by omega)).trans hrow
    exact ⟨by simp [World.cell?, h], by simp [World.cell?, h]⟩)
  have HS0 := mkHid (show ∀ W, Below X.heap.size X W → W.cell? ⟨g, 0, none⟩ = some (.string A) from fun W hW => by
    have h := (hW.block g (by omega)).trans hrow
    simp [World.cell?, h])
  have HX := mkHid hx
  have q75 : ¬ (75 : Int) < (s.size : Int) := by omega
  clear hX hbX hrow hT hE hm hC hx h1 h2 hlP hlS hln hl3 hsp z1 z2 eP eS hls
  rw [hg] at c3 HbX ⊢
  go_enter Tryz.func44, Tryz.ntmps44
  go_wp2_with fail
  refine (c1.out _).mono ?_
  rintro e w2 ⟨rfl, rfl⟩
  clear c1
  go_wp2_with fail
  refine (c2.out _).mono ?_
  rintro e w2 ⟨rfl, rfl⟩
  clear c2
  go_wp2_with fail
  refine c3.out.mono ?_
  rintro e X ⟨rfl, rfl⟩
  clear c3
  go_wp2
  have cD := mkHid (fun W (hW : Below X.heap.size X W) => implWordData B C W hz.2.2 (HE.out.below hW) m ((hW.cell (p := ⟨1, 0, none⟩) (World.block_lt_of_cell? _ _ HM.out)).trans HM.out))
  have hDL := Pw.data_len B.data.toList C.data.toList
  obtain ⟨y, hy⟩ : ∃ y, Pw.data B.data.toList C.data.toList = y := ⟨_, rfl⟩
  rw [hy] at cD hDL
  have Hy := mkHid hy
  have HDL := mkHid hDL
  obtain ⟨bt, dt, hbv⟩ : ∃ bt dt, bytesV y = .agg #[.bool bt, .string dt] := by
    cases y with
    | none => exact ⟨_, _, rfl⟩
    | some l => exact ⟨_, _, rfl⟩
  rw [hbv] at cD
  have Hbv := mkHid hbv
  clear hy hbv hDL
  obtain ⟨RR, hRR⟩ : ∃ RR : Act → Act → World → Prop, RR = (fun a a' w' => ∃ b : Nat, a' = ((((((((a.put (some 36) (.slice (some ⟨g, 0, none⟩) 3 3)).put (some 37) (.pointer (some ⟨g, 1, none⟩))).put (some 38) (.string B)).put (some 39) (.slice (some ⟨g, 0, none⟩) 3 3)).put (some 40) (.pointer (some ⟨g, 2, none⟩))).put (some 41) (.string C)).put (some 42) (.agg #[.bool bt, .string dt])).put (some 8) (.pointer (some ⟨b, 0, none⟩))) ∧ Hid (w'.heap[b]? = some (.cells #[.bool bt, .string dt] 31 (0, 0))) ∧ Hid (g < b) ∧ Hid (Below X.heap.size X w')) := ⟨_, rfl⟩
  have HRR := mkHid hRR
  clear hRR
  have HSp := mkHid (show ∀ W, Below X.heap.size X W → Below X.heap.size X W.drew from fun W h => h.drew)
  refine wp_cutW RR ?_ ?_
  · refine wp_region_held (S := fun w2 => w2.cell? ⟨g, 1, none⟩ = some (.string B) ∧ w2.cell? ⟨g, 2, none⟩ = some (.string C)) (by kernel_rfl) ?_
    obtain ⟨Y, hY⟩ : ∃ Y, X.drew = Y := ⟨_, rfl⟩
    have hbY : Below X.heap.size X Y := by rw [← hY]; exact (Below.refl _ _).drew
    rw [show ({ X with drawn := X.drawn + 1 } : World) = Y from hY]
    clear hY
    refine wpAnyH_take (i := 0) (v := .slice (some ⟨g, 0, none⟩) 3 3) rfl (by kernel_rfl) (by kernel_rfl) (by kernel_rfl) (fun _ _ _ h => nomatch h.1) (Or.inl ⟨by rfl, ?_⟩) (HS.out _ hbY) ?_
    · rintro w ⟨s0, s1⟩
      go_simp
      all_goals first | done | (intro h; exfalso; omega) | omega
    go_simp
    refine wpAnyH_take (i := 1) (v := .pointer (some ⟨g, 1, none⟩)) rfl (by kernel_rfl) (by kernel_rfl) (by kernel_rfl) (fun _ _ _ h => nomatch h.1) (Or.inl ⟨by rfl, ?_⟩) (HS.out _ hbY) ?_
    · rintro w ⟨s0, s1⟩
      go_simp
      all_goals first | done | (intro h; exfalso; omega) | omega
    go_simp
    refine wpAnyH_take (i := 2) (v := .string B) rfl (by kernel_rfl) (by kernel_rfl) (by kernel_rfl) (fun _ _ _ h => nomatch h.1) (Or.inl ⟨by rfl, ?_⟩) (HS.out _ hbY) ?_
    · rintro w ⟨s0, s1⟩
      go_simp
      all_goals first | done | (intro h; exfalso; omega) | omega
    go_simp
    refine wpAnyH_take (i := 3) (v := .slice (some ⟨g, 0, none⟩) 3 3) rfl (by kernel_rfl) (by kernel_rfl) (by kernel_rfl) (fun _ _ _ h => nomatch h.1) (Or.inl ⟨by rfl, ?_⟩) (HS.out _ hbY) ?_
    · rintro w ⟨s0, s1⟩
      go_simp
      all_goals first | done | (intro h; exfalso; omega) | omega
    go_simp
    refine wpAnyH_take (i := 4) (v := .pointer (some ⟨g, 2, none⟩)) rfl (by kernel_rfl) (by kernel_rfl) (by kernel_rfl) (fun _ _ _ h => nomatch h.1) (Or.inl ⟨by rfl, ?_⟩) (HS.out _ hbY) ?_
    · rintro w ⟨s0, s1⟩
      go_simp
      all_goals first | done | (intro h; exfalso; omega) | omega
    go_simp
    refine wpAnyH_take (i := 5) (v := .string C) rfl (by kernel_rfl) (by kernel_rfl) (by kernel_rfl) (fun _ _ _ h => nomatch h.1) (Or.inl ⟨by rfl, ?_⟩) (HS.out _ hbY) ?_
    · rintro w ⟨s0, s1⟩
      go_simp
      all_goals first | done | (intro h; exfalso; omega) | omega
    go_simp
    refine wpAnyH_all (rs := [6, 7]) (by kernel_rfl) (by simp) ?_
    intro j hj
    simp only [List.mem_cons, List.not_mem_nil, or_false] at hj
    rcases hj with rfl | rfl
    · skip
      refine wpOp_step rfl (fun K hK => ?_)
      go_simp
      refine (cD.out Y hbY).mono ?_
      rintro e w1 ⟨rfl, hcw1⟩
      have hbw1 := hbY.trans (hcw1.mono hbY.size)
      refine hK _ _ ⟨HS.out _ hbw1, ?_⟩
      clear hK K
      go_simp
      refine wpAnyH_all (rs := [7]) (by kernel_rfl) (by simp) ?_
      intro j hj
      simp only [List.mem_cons, List.not_mem_nil, or_false] at hj
      subst hj
      refine wpOp_step rfl (fun K hK => ?_)
      go_simp
      have hA : (w1.alloc (.cells #[.bool false, .string ⟨#[]⟩] 31)).heap[w1.heap.size]? = some (.cells #[.bool false, .string ⟨#[]⟩] 31 (0, 0)) := heap_allocW _ _
      have hbA : Below X.heap.size X (w1.alloc (.cells #[.bool false, .string ⟨#[]⟩] 31)) := hbw1.alloc hbw1.size _
      refine hK _ _ ⟨HS.out _ hbA, ?_⟩
      clear hK K
      go_simp
      refine wpAnyH_all (rs := [8]) (by kernel_rfl) (by simp) ?_
      intro j hj
      simp only [List.mem_cons, List.not_mem_nil, or_false] at hj
      subst hj
      refine wpOp_step rfl (fun K hK => ?_)
      refine wp_store_row 31 _ _ rfl w1.heap.size #[.bool bt, .string dt] rfl rfl 31 _ hA (by kernel_rfl) rfl (by simp [Value.oneCell']) ?_
      have hbZ := hbA.grown (grown_setRow (w1.alloc (.cells #[.bool false, .string ⟨#[]⟩] 31)) w1.heap.size #[.bool bt, .string dt]) hbA.size (fun j hj => by cases hj; exact hbw1.size)
      refine hK _ _ ⟨HS.out _ hbZ, ?_⟩
      clear hK K
      go_simp
      have hV := setRow_heap (w1.alloc (.cells #[.bool false, .string ⟨#[]⟩] 31)) w1.heap.size _ #[.bool bt, .string dt] 31 (0, 0) hA
      generalize (w1.alloc (.cells #[.bool false, .string ⟨#[]⟩] 31)).setRow w1.heap.size #[.bool bt, .string dt] = Z at hV hbZ ⊢
      refine wpAnyH_done (by kernel_rfl) ?_ _
      refine ⟨rfl, ?_⟩
      rw [HRR.out]
      exact ⟨w1.heap.size, by kernel_rfl, hV, mkHid (by have := hbw1.size; omega), hbZ⟩
    · skip
      refine wpOp_step rfl (fun K hK => ?_)
      go_simp
      have hA : (Y.alloc (.cells #[.bool false, .string ⟨#[]⟩] 31)).heap[Y.heap.size]? = some (.cells #[.bool false, .string ⟨#[]⟩] 31 (0, 0)) := heap_allocW _ _
      have hbA : Below X.heap.size X (Y.alloc (.cells #[.bool false, .string ⟨#[]⟩] 31)) := hbY.alloc hbY.size _
      refine hK _ _ ⟨HS.out _ hbA, ?_⟩
      clear hK K
      go_simp
      refine wpAnyH_all (rs := [6]) (by kernel_rfl) (by simp) ?_
      intro j hj
      simp only [List.mem_cons, List.not_mem_nil, or_false] at hj
      subst hj
      refine wpOp_step rfl (fun K hK => ?_)
      go_simp
      refine (cD.out _ hbA).mono ?_
      rintro e w1 ⟨rfl, hcw1⟩
      have hbw1 := hbA.trans (hcw1.mono hbA.size)
      refine hK _ _ ⟨HS.out _ hbw1, ?_⟩
      clear hK K
      go_simp
      have hA1 := (hcw1.block _ (heap_lt hA)).trans hA
      refine wpAnyH_all (rs := [8]) (by kernel_rfl) (by simp) ?_
      intro j hj
      simp only [List.mem_cons, List.not_mem_nil, or_false] at hj
      subst hj
      refine wpOp_step rfl (fun K hK => ?_)
      refine wp_store_row 31 _ _ rfl Y.heap.size #[.bool bt, .string dt] rfl rfl 31 _ hA1 (by kernel_rfl) rfl (by simp [Value.oneCell']) ?_
      have hbZ := hbw1.grown (grown_setRow (w1) Y.heap.size #[.bool bt, .string dt]) hbw1.size (fun j hj => by cases hj; exact hbY.size)
      refine hK _ _ ⟨HS.out _ hbZ, ?_⟩
      clear hK K
      go_simp
      have hV := setRow_heap (w1) Y.heap.size _ #[.bool bt, .string dt] 31 (0, 0) hA1
      generalize (w1).setRow Y.heap.size #[.bool bt, .string dt] = Z at hV hbZ ⊢
      refine wpAnyH_done (by kernel_rfl) ?_ _
      refine ⟨rfl, ?_⟩
      rw [HRR.out]
      exact ⟨Y.heap.size, by kernel_rfl, hV, mkHid (by have := hbY.size; omega), hbZ⟩
  · intro a' Z hR
    rw [HRR.out] at hR
    obtain ⟨b, rfl, Hb, Hgb, HbZ⟩ := hR
    clear HRR HSp cD
    cases y with
    | none =>
      have e0 : bt = false ∧ dt = ⟨#[]⟩ := by have h := Hbv.out; unfold bytesV at h; simp only [Value.agg.injEq] at h; simp at h; exact ⟨h.1, h.2.symm⟩
      obtain ⟨rfl, rfl⟩ := e0
      have hl := Hb.out
      have k0 : Z.cell? ⟨b, 0, none⟩ = some (.bool false) := by simp [World.cell?, hl]
      have hx : x = none := by rw [← HX.out]; unfold Pw.three; rw [Hy.out]; rfl
      subst hx
      clear hl Hb HS HS0 HT HE HM HC
      go_wp2
      go_ret2
      exact ⟨rfl, HbX.out.trans (HbZ.out.mono (by omega))⟩
    | some l =>
      have e0 : bt = true ∧ dt = ⟨l.toArray⟩ := by have h := Hbv.out; unfold bytesV at h; simp only [Value.agg.injEq] at h; simp at h; exact ⟨h.1, h.2.symm⟩
      obtain ⟨rfl, rfl⟩ := e0
      have hl := Hb.out
      have k0 : Z.cell? ⟨b, 0, none⟩ = some (.bool true) := by simp [World.cell?, hl]
      have hx : decA (setFrom 0 (lower A.data.toList)) l = x := by rw [← HX.out]; unfold Pw.three; rw [Hy.out]; rfl
      have HX2 := mkHid hx
      have hgZ : g + 1 ≤ Z.heap.size := by have := HbZ.out.size; omega
      have HgZ := mkHid hgZ
      have hbl : b < Z.heap.size := heap_lt Hb.out
      have Hbl := mkHid hbl
      have zl : (⟨l.toArray⟩ : ByteArray).size ≤ 100000 := by have h := HDL.out l rfl; have h2 : C.data.toList.length = C.size := by simp
                                                              show l.toArray.size ≤ 100000; simp; have := hz.2.2; omega
      have HS1 := mkHid (show ∀ W, Below Z.heap.size Z W → W.cell? ⟨g, 0, none⟩ = some (.string A) ∧ W.cell? ⟨b, 1, none⟩ = some (.string ⟨l.toArray⟩) from fun W hW => ⟨HS0.out W (HbZ.out.trans (hW.mono HbZ.out.size)), by have h := (hW.block b Hbl.out).trans Hb.out; simp [World.cell?, h]⟩)
      have cF := mkHid (fun W (hW : Below Z.heap.size Z W) => implOf A W (by omega) ct fr ((((HbZ.out.trans (hW.mono HbZ.out.size)).block _ (heap_lt HC.out))).trans HC.out) (by have := hW.size; omega))
      have cG := mkHid (fun W (hW : Below Z.heap.size Z W) => implDecode (setFrom 0 (lower A.data.toList)) ⟨l.toArray⟩ W zl (tabsD_below HT.out (HbZ.out.trans (hW.mono HbZ.out.size))))
      rw [show (⟨l.toArray⟩ : ByteArray).data.toList = l from rfl] at cG
      generalize setFrom 0 (lower A.data.toList) = st at *
      rw [hx] at cG
      clear hl hx Hb HS HS0 HT HE HM HC HX Hy HDL Hbv hgZ hbl zl
      go_wp2
      obtain ⟨RR, hRR⟩ : ∃ RR : Act → Act → World → Prop, RR = (fun a a' w' => ∃ (b9 : Nat) (bg : Bool) (i : Int) (o : Option Addr) (n c : Nat), a' = ((((((((a.put (some 46) (.slice (some ⟨g, 0, none⟩) 3 3)).put (some 47) (.pointer (some ⟨g, 0, none⟩))).put (some 48) (.string A)).put (some 49) (.int .i64 st)).put (some 50) (.pointer (some ⟨b, 1, none⟩))).put (some 51) (.string ⟨l.toArray⟩)).put (some 52) (.agg #[.bool bg, .int .i64 i, .slice o n c])).put (some 9) (.pointer (some ⟨b9, 0, none⟩))) ∧ Hid (w'.heap[b9]? = some (.cells #[.bool bg, .int .i64 i, .slice o n c] 52 (0, 0))) ∧ Hid (DecV g x bg (.slice o n c) w') ∧ Hid (Below Z.heap.size Z w')) := ⟨_, rfl⟩
      have HRR := mkHid hRR
      clear hRR
      refine wp_cutW RR ?_ ?_
      · refine wp_region_held (S := fun w2 => w2.cell? ⟨g, 0, none⟩ = some (.string A) ∧ w2.cell? ⟨b, 1, none⟩ = some (.string ⟨l.toArray⟩)) (by kernel_rfl) ?_
        obtain ⟨Y, hY⟩ : ∃ Y, Z.drew = Y := ⟨_, rfl⟩
        have hbY : Below Z.heap.size Z Y := by rw [← hY]; exact (Below.refl _ _).drew
        rw [show ({ Z with drawn := Z.drawn + 1 } : World) = Y from hY]
        clear hY
        refine wpAnyH_take (i := 0) (v := .slice (some ⟨g, 0, none⟩) 3 3) rfl (by kernel_rfl) (by kernel_rfl) (by kernel_rfl) (fun _ _ _ h => nomatch h.1) (Or.inl ⟨by rfl, ?_⟩) (HS1.out _ hbY) ?_
        · rintro w ⟨s0, s1⟩
          go_simp
          all_goals first | done | (intro h; exfalso; omega) | omega
        go_simp
        refine wpAnyH_take (i := 1) (v := .pointer (some ⟨g, 0, none⟩)) rfl (by kernel_rfl) (by kernel_rfl) (by kernel_rfl) (fun _ _ _ h => nomatch h.1) (Or.inl ⟨by rfl, ?_⟩) (HS1.out _ hbY) ?_
        · rintro w ⟨s0, s1⟩
          go_simp
          all_goals first | done | (intro h; exfalso; omega) | omega
        go_simp
        refine wpAnyH_take (i := 2) (v := .string A) rfl (by kernel_rfl) (by kernel_rfl) (by kernel_rfl) (fun _ _ _ h => nomatch h.1) (Or.inl ⟨by rfl, ?_⟩) (HS1.out _ hbY) ?_
        · rintro w ⟨s0, s1⟩
          go_simp
          all_goals first | done | (intro h; exfalso; omega) | omega
        go_simp
        refine wpAnyH_take (i := 4) (v := .pointer (some ⟨b, 1, none⟩)) rfl (by kernel_rfl) (by kernel_rfl) (by kernel_rfl) (fun _ _ _ h => nomatch h.1) (Or.inl ⟨by rfl, ?_⟩) (HS1.out _ hbY) ?_
        · rintro w ⟨s0, s1⟩
          go_simp
          all_goals first | done | (intro h; exfalso; omega) | omega
        go_simp
        refine wpAnyH_take (i := 5) (v := .string ⟨l.toArray⟩) rfl (by kernel_rfl) (by kernel_rfl) (by kernel_rfl) (fun _ _ _ h => nomatch h.1) (Or.inl ⟨by rfl, ?_⟩) (HS1.out _ hbY) ?_
        · rintro w ⟨s0, s1⟩
          go_simp
          all_goals first | done | (intro h; exfalso; omega) | omega
        go_simp
        refine wpAnyH_all (rs := [3, 7]) (by kernel_rfl) (by simp) ?_
        intro j hj
        simp only [List.mem_cons, List.not_mem_nil, or_false] at hj
        rcases hj with rfl | rfl
        · skip
          refine wpOp_step rfl (fun K hK => ?_)
          go_simp
          refine (cF.out Y hbY).mono ?_
          rintro e w1 ⟨rfl, hcw1⟩
          have hbw1 := hbY.trans (hcw1.mono hbY.size)
          refine hK _ _ ⟨HS1.out _ hbw1, ?_⟩
          clear hK K
          go_simp
          refine wpAnyH_all (rs := [6, 7]) (by kernel_rfl) (by simp) ?_
          intro j hj
          simp only [List.mem_cons, List.not_mem_nil, or_false] at hj
          rcases hj with rfl | rfl
          · skip
            refine wpOp_step rfl (fun K hK => ?_)
            go_simp
            refine (cG.out w1 hbw1).mono ?_
            rintro e w2 ⟨hD, hcw2⟩
            obtain ⟨bg, i, o, n, c, rfl, HD⟩ := dec_form hD
            have HDo := HD
            replace HD := mkHid (DecV.base HD.out (B' := g) (by have := hbw1.size; have := HgZ.out; omega))
            clear hD
            have hbw2 := hbw1.trans (hcw2.mono hbw1.size)
            refine hK _ _ ⟨HS1.out _ hbw2, ?_⟩
            clear hK K
            go_simp
            refine wpAnyH_all (rs := [7]) (by kernel_rfl) (by simp) ?_
            intro j hj
            simp only [List.mem_cons, List.not_mem_nil, or_false] at hj
            subst hj
            refine wpOp_step rfl (fun K hK => ?_)
            go_simp
            have hA : (w2.alloc (.cells #[.bool false, .int .i64 0, .slice none 0 0] 52)).heap[w2.heap.size]? = some (.cells #[.bool false, .int .i64 0, .slice none 0 0] 52 (0, 0)) := heap_allocW _ _
            have hbA : Below Z.heap.size Z (w2.alloc (.cells #[.bool false, .int .i64 0, .slice none 0 0] 52)) := hbw2.alloc hbw2.size _
            refine hK _ _ ⟨HS1.out _ hbA, ?_⟩
            clear hK K
            go_simp
            have HDA := DecV.below HD.out ((Below.refl w2.heap.size w2).alloc (Nat.le_refl _) (.cells #[.bool false, .int .i64 0, .slice none 0 0] 52))
            refine wpAnyH_all (rs := [8]) (by kernel_rfl) (by simp) ?_
            intro j hj
            simp only [List.mem_cons, List.not_mem_nil, or_false] at hj
            subst hj
            refine wpOp_step rfl (fun K hK => ?_)
            refine wp_store_row 52 _ _ rfl w2.heap.size #[.bool bg, .int .i64 i, .slice o n c] rfl rfl 52 _ hA (by kernel_rfl) rfl (by simp [Value.oneCell']) ?_
            have hbZ2 := hbA.grown (grown_setRow (w2.alloc (.cells #[.bool false, .int .i64 0, .slice none 0 0] 52)) w2.heap.size #[.bool bg, .int .i64 i, .slice o n c]) hbA.size (fun j hj => by cases hj; exact hbw2.size)
            have hDZ := mkHid (DecV.set HDA w2.heap.size #[.bool bg, .int .i64 i, .slice o n c] (fun e => by have := (decV_lt HD.out _ e).2; omega))
            refine hK _ _ ⟨HS1.out _ hbZ2, ?_⟩
            clear hK K
            go_simp
            have hV := setRow_heap (w2.alloc (.cells #[.bool false, .int .i64 0, .slice none 0 0] 52)) w2.heap.size _ #[.bool bg, .int .i64 i, .slice o n c] 52 (0, 0) hA
            generalize (w2.alloc (.cells #[.bool false, .int .i64 0, .slice none 0 0] 52)).setRow w2.heap.size #[.bool bg, .int .i64 i, .slice o n c] = U at hV hbZ2 hDZ ⊢
            refine wpAnyH_done (by kernel_rfl) ?_ _
            refine ⟨rfl, ?_⟩
            rw [HRR.out]
            exact ⟨w2.heap.size, bg, i, o, n, c, by kernel_rfl, hV, hDZ, hbZ2⟩
          · skip
            refine wpOp_step rfl (fun K hK => ?_)
            go_simp
            have hA : (w1.alloc (.cells #[.bool false, .int .i64 0, .slice none 0 0] 52)).heap[w1.heap.size]? = some (.cells #[.bool false, .int .i64 0, .slice none 0 0] 52 (0, 0)) := heap_allocW _ _
            have hbA : Below Z.heap.size Z (w1.alloc (.cells #[.bool false, .int .i64 0, .slice none 0 0] 52)) := hbw1.alloc hbw1.size _
            refine hK _ _ ⟨HS1.out _ hbA, ?_⟩
            clear hK K
            go_simp
            refine wpAnyH_all (rs := [6]) (by kernel_rfl) (by simp) ?_
            intro j hj
            simp only [List.mem_cons, List.not_mem_nil, or_false] at hj
            subst hj
            refine wpOp_step rfl (fun K hK => ?_)
            go_simp
            refine (cG.out _ hbA).mono ?_
            rintro e w2 ⟨hD, hcw2⟩
            obtain ⟨bg, i, o, n, c, rfl, HD⟩ := dec_form hD
            have HDo := HD
            replace HD := mkHid (DecV.base HD.out (B' := g) (by have := hbA.size; have := HgZ.out; omega))
            clear hD
            have hbw2 := hbA.trans (hcw2.mono hbA.size)
            refine hK _ _ ⟨HS1.out _ hbw2, ?_⟩
            clear hK K
            go_simp
            have hA1 := (hcw2.block _ (heap_lt hA)).trans hA
            skip
            refine wpAnyH_all (rs := [8]) (by kernel_rfl) (by simp) ?_
            intro j hj
            simp only [List.mem_cons, List.not_mem_nil, or_false] at hj
            subst hj
            refine wpOp_step rfl (fun K hK => ?_)
            refine wp_store_row 52 _ _ rfl w1.heap.size #[.bool bg, .int .i64 i, .slice o n c] rfl rfl 52 _ hA1 (by kernel_rfl) rfl (by simp [Value.oneCell']) ?_
            have hbZ2 := hbw2.grown (grown_setRow (w2) w1.heap.size #[.bool bg, .int .i64 i, .slice o n c]) hbw2.size (fun j hj => by cases hj; exact hbw1.size)
            have hDZ := mkHid (DecV.set HD.out w1.heap.size #[.bool bg, .int .i64 i, .slice o n c] (fun e => by have := decV_lt HDo.out _ e; have := heap_lt hA; omega))
            refine hK _ _ ⟨HS1.out _ hbZ2, ?_⟩
            clear hK K
            go_simp
            have hV := setRow_heap (w2) w1.heap.size _ #[.bool bg, .int .i64 i, .slice o n c] 52 (0, 0) hA1
            generalize (w2).setRow w1.heap.size #[.bool bg, .int .i64 i, .slice o n c] = U at hV hbZ2 hDZ ⊢
            refine wpAnyH_done (by kernel_rfl) ?_ _
            refine ⟨rfl, ?_⟩
            rw [HRR.out]
            exact ⟨w1.heap.size, bg, i, o, n, c, by kernel_rfl, hV, hDZ, hbZ2⟩
        · skip
          refine wpOp_step rfl (fun K hK => ?_)
          go_simp
          have hA : (Y.alloc (.cells #[.bool false, .int .i64 0, .slice none 0 0] 52)).heap[Y.heap.size]? = some (.cells #[.bool false, .int .i64 0, .slice none 0 0] 52 (0, 0)) := heap_allocW _ _
          have hbA : Below Z.heap.size Z (Y.alloc (.cells #[.bool false, .int .i64 0, .slice none 0 0] 52)) := hbY.alloc hbY.size _
          refine hK _ _ ⟨HS1.out _ hbA, ?_⟩
          clear hK K
          go_simp
          refine wpAnyH_all (rs := [3]) (by kernel_rfl) (by simp) ?_
          intro j hj
          simp only [List.mem_cons, List.not_mem_nil, or_false] at hj
          subst hj
          refine wpOp_step rfl (fun K hK => ?_)
          go_simp
          refine (cF.out _ hbA).mono ?_
          rintro e w1 ⟨rfl, hcw1⟩
          have hbw1 := hbA.trans (hcw1.mono hbA.size)
          refine hK _ _ ⟨HS1.out _ hbw1, ?_⟩
          clear hK K
          go_simp
          refine wpAnyH_all (rs := [6]) (by kernel_rfl) (by simp) ?_
          intro j hj
          simp only [List.mem_cons, List.not_mem_nil, or_false] at hj
          subst hj
          refine wpOp_step rfl (fun K hK => ?_)
          go_simp
          refine (cG.out w1 hbw1).mono ?_
          rintro e w2 ⟨hD, hcw2⟩
          obtain ⟨bg, i, o, n, c, rfl, HD⟩ := dec_form hD
          have HDo := HD
          replace HD := mkHid (DecV.base HD.out (B' := g) (by have := hbw1.size; have := HgZ.out; omega))
          clear hD
          have hbw2 := hbw1.trans (hcw2.mono hbw1.size)
          refine hK _ _ ⟨HS1.out _ hbw2, ?_⟩
          clear hK K
          go_simp
          have hA1 := (hcw2.block _ (Nat.lt_of_lt_of_le (heap_lt hA) hcw1.size)).trans ((hcw1.block _ (heap_lt hA)).trans hA)
          refine wpAnyH_all (rs := [8]) (by kernel_rfl) (by simp) ?_
          intro j hj
          simp only [List.mem_cons, List.not_mem_nil, or_false] at hj
          subst hj
          refine wpOp_step rfl (fun K hK => ?_)
          refine wp_store_row 52 _ _ rfl Y.heap.size #[.bool bg, .int .i64 i, .slice o n c] rfl rfl 52 _ hA1 (by kernel_rfl) rfl (by simp [Value.oneCell']) ?_
          have hbZ2 := hbw2.grown (grown_setRow (w2) Y.heap.size #[.bool bg, .int .i64 i, .slice o n c]) hbw2.size (fun j hj => by cases hj; exact hbY.size)
          have hDZ := mkHid (DecV.set HD.out Y.heap.size #[.bool bg, .int .i64 i, .slice o n c] (fun e => by have := decV_lt HDo.out _ e; have := heap_lt hA; have := hcw1.size; omega))
          refine hK _ _ ⟨HS1.out _ hbZ2, ?_⟩
          clear hK K
          go_simp
          have hV := setRow_heap (w2) Y.heap.size _ #[.bool bg, .int .i64 i, .slice o n c] 52 (0, 0) hA1
          generalize (w2).setRow Y.heap.size #[.bool bg, .int .i64 i, .slice o n c] = U at hV hbZ2 hDZ ⊢
          refine wpAnyH_done (by kernel_rfl) ?_ _
          refine ⟨rfl, ?_⟩
          rw [HRR.out]
          exact ⟨Y.heap.size, bg, i, o, n, c, by kernel_rfl, hV, hDZ, hbZ2⟩
      · intro a' U hR
        rw [HRR.out] at hR
        obtain ⟨b9, bg, i, o, n, c, rfl, Hb9, HD9, HbU⟩ := hR
        clear HRR cF cG HS1
        have hl := Hb9.out
        have k0 : U.cell? ⟨b9, 0, none⟩ = some (.bool bg) := by simp [World.cell?, hl]
        have k2 : U.cell? ⟨b9, 2, none⟩ = some (.slice o n c) := by simp [World.cell?, hl]
        clear hl
        go_wp2
        go_quiet (fail)
        have HbN := mkHid (show Below U.heap.size U (U.drewN nq) from Go.below_drewN (Below.refl _ _) nq)
        go_wp2
        go_ret2
        refine ⟨?_, HbX.out.trans ((HbZ.out.trans ((HbU.out.trans (HbN.out.mono HbU.out.size)).mono HbZ.out.size)).mono (by omega))⟩
        cases x with
        | none => obtain ⟨rfl, h2⟩ := HD9.out; rw [h2]; rfl
        | some ps => obtain ⟨rfl, h2⟩ := HD9.out; exact ⟨_, rfl, h2.below HbN.out⟩
end Go.Proofs.YtajkahpkbeobaaaGreatDoor
