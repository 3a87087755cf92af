
/- A header's text as characters: the specification's small tests. -/

/- FnChars: the law's walk. -/
import Derived.Test.YtbppdfjigcelkaaGreatDoorAnyPhase
import Derived.Test.YtbppdfjigcelkaaGreatDoorCodeArg
import Derived.Deep.Cut
import Derived.OrdersHeld
import Derived.Deep.CutBlock
import Derived.Deep.DeepCutAuto
namespace Go.Proofs.YtbppdfjigcelkaaGreatDoor
open Go.RowKit Go.Lib
set_option maxRecDepth 20000 in
theorem pre_two (s : ByteArray) (a b : UInt8) (h : 2 ≤ s.size) : ((s.extract 0 2).toList == [a, b]) = hasPrefix s.data.toList [a, b] := by
  obtain ⟨⟨l⟩⟩ := s
  match l, h with
  | x :: y :: r, _ =>
    rw [ByteArray.toList_eq]
    have e : ((⟨⟨x :: y :: r⟩⟩ : ByteArray).extract 0 2).data.toList = [x, y] := by simp [ByteArray.data_extract]
    rw [e]
    show ([x, y] == [a, b]) = List.isPrefixOf [a, b] (x :: y :: r)
    simp only [List.isPrefixOf, Bool.and_true]
    rw [Bool.eq_iff_iff]
    simp only [beq_iff_eq, List.cons.injEq, Bool.and_eq_true, and_true]
    constructor
    · rintro ⟨rfl, rfl⟩; exact ⟨rfl, rfl⟩
    · rintro ⟨rfl, rfl⟩; exact ⟨rfl, rfl⟩
set_option maxRecDepth 20000 in
theorem pre_short (s : ByteArray) (a b : UInt8) (h : ¬ 2 ≤ s.size) : hasPrefix s.data.toList [a, b] = false := by
  obtain ⟨⟨l⟩⟩ := s
  match l, h with
  | [], _ => rfl
  | [x], _ => simp [hasPrefix, List.isPrefixOf]
  | x :: y :: r, h => exact absurd (show 2 ≤ (x :: y :: r).length by simp) h
set_option maxRecDepth 20000 in
theorem suf_two (s : ByteArray) (a b : UInt8) (h : 2 ≤ s.size) : ((s.extract (s.size - 2) s.size).toList == [a, b]) = hasSuffix s.data.toList [a, b] := by
  have hl : s.data.toList.length = s.size := by simp
  rw [ByteArray.toList_eq]
  have e : (s.extract (s.size - 2) s.size).data.toList = s.data.toList.drop (s.size - 2) := by simp [ByteArray.data_extract, Array.toList_extract, List.take_of_length_le]
  rw [e, Bool.eq_iff_iff, beq_iff_eq]
  show _ ↔ List.isSuffixOf [a, b] s.data.toList = true
  rw [List.isSuffixOf_iff_suffix]
  constructor
  · intro h1
    exact ⟨s.data.toList.take (s.size - 2), by rw [← h1]; exact List.take_append_drop _ _⟩
  · rintro ⟨t, ht⟩
    have hlt : t.length = s.size - 2 := by have := congrArg List.length ht; simp at this; omega
    rw [← ht, ← hlt, List.drop_left]
set_option maxRecDepth 20000 in
theorem suf_short (s : ByteArray) (a b : UInt8) (h : ¬ 2 ≤ s.size) : hasSuffix s.data.toList [a, b] = false := by
  have hl : s.data.toList.length = s.size := by simp
  rw [Bool.eq_false_iff]
  intro h1
  have h2 : [a, b] <:+ s.data.toList := List.isSuffixOf_iff_suffix.1 h1
  have := h2.length_le
  simp at this
  omega
end Go.Proofs.YtbppdfjigcelkaaGreatDoor
namespace Go.Proofs.YtbppdfjigcelkaaGreatDoor
open Go.RowKit Go.Lib Go.Maps
set_option maxRecDepth 20000 in
theorem heap_allocC (w : World) (o : Obj) : (w.alloc o).heap[w.heap.size]? = some o := by
  show (w.heap.push o)[w.heap.size]? = some o
  simp
set_option maxRecDepth 20000 in
theorem enc_shape (x : Option (List UInt8)) : ∃ (b : Bool) (t : ByteArray), encV x = .agg #[.bool b, .string t] := by
  cases x with
  | none => exact ⟨false, _, rfl⟩
  | some l => exact ⟨true, _, rfl⟩
set_option maxRecDepth 20000 in
theorem enc_some_is {b : Bool} {t : ByteArray} {x : Option (List UInt8)} (h : encV x = .agg #[.bool b, .string t]) : (b = true ∧ x = some t.data.toList) ∨ (b = false ∧ x = none) := by
  cases x with
  | none =>
    right
    unfold encV at h
    simp only [Value.agg.injEq] at h
    simp at h
    exact ⟨by rw [← h.1], rfl⟩
  | some l =>
    left
    unfold encV at h
    simp only [Value.agg.injEq] at h
    simp at h
    exact ⟨by rw [← h.1], by rw [← h.2]⟩
set_option maxRecDepth 20000 in
theorem two_at {w : World} {b : Nat} {x y : Value} {t : TypeId} {z : Nat × Nat} (h : w.heap[b]? = some (.cells #[x, y] t z)) : w.cell? ⟨b, 0, none⟩ = some x ∧ w.cell? ⟨b, 1, none⟩ = some y := by
  constructor <;> simp [World.cell?, h]
set_option maxRecDepth 40000 in
set_option maxHeartbeats 16000000 in
theorem walkChars (o : Option Addr) (c : List UInt8) (cp : Nat) (w : World) (hc : Code w.heap.size w o c) (hl : c.length ≤ maxLen) (hW : ChW w) :
    Calls Tryz.prog 3 #[.slice o c.length cp] w fun e w' => e = .returned (.bool true) ∧ Below w.heap.size w w' := by
  unfold maxLen at hl
  by_cases hbig : 1048576 < c.length
  · have hb : (1048576 : Int) < (c.length : Int) := by omega
    clear hc hW
    go_enter Tryz.func3, Tryz.ntmps3
    go_wp2
    go_ret
    exact ⟨rfl, Below.refl _ _⟩
  · have hb : ¬ (1048576 : Int) < (c.length : Int) := by omega
    have hl2 : c.length ≤ 1048576 := by omega
    have HC := mkHid hc
    have HW := mkHid hW
    have hD := mkHid (drawEncode o c cp w hc hl2)
    clear hc hW hbig
    go_enter Tryz.func3, Tryz.ntmps3
    go_wp2_with fail
    refine hD.out.mono ?_
    rintro e w1 ⟨set, v, P, rfl, hP, hO, hb1⟩
    obtain ⟨op, cpp, rfl⟩ := hO.shape
    have hPt := ptsOf hO
    have HO := mkHid hO
    have HPt := mkHid hPt
    have Hb1 := mkHid hb1
    have cS := mkHid (specEncode set op P cpp w1 hPt (by omega))
    obtain ⟨eb, et, hsh⟩ := enc_shape (encA set P)
    have hso := enc_some_is hsh
    have hel := enc_len set P
    rw [hsh] at cS
    clear hD hO hPt hb1
    go_wp2_with fail
    refine cS.out.mono ?_
    rintro e w2 ⟨rfl, hb2⟩
    obtain ⟨V2, hV2⟩ : ∃ V, w2.alloc (.cells #[.bool eb, .string et] 27) = V := ⟨_, rfl⟩
    have r2 : V2.heap[w2.heap.size]? = some (.cells #[.bool eb, .string et] 27 (0, 0)) := by rw [← hV2]; exact heap_allocC _ _
    have bV2 : Below w2.heap.size w2 V2 := by rw [← hV2]; exact (Below.refl _ _).alloc (Nat.le_refl _) _
    have z2 : w1.heap.size ≤ w2.heap.size := hb2.size
    have b12 := hb2.trans (bV2.mono z2)
    have hPtV := HPt.out.below b12
    have zV2 : w2.heap.size + 1 = V2.heap.size := by rw [← hV2]; simp
    have cI := mkHid (implEncode set op P cpp V2 (hPtV.mono (by omega)) (by omega))
    rw [hsh] at cI
    have HV2 := mkHid hV2
    have ZV2 := mkHid zV2
    have B12 := mkHid b12
    clear cS hV2 hb2 bV2 b12 hPtV zV2
    go_wp2_with fail
    rw [HV2.out]
    refine cI.out.mono ?_
    rintro e w3 ⟨rfl, hb3⟩
    obtain ⟨V3, hV3⟩ : ∃ V, w3.alloc (.cells #[.bool eb, .string et] 27) = V := ⟨_, rfl⟩
    have r3 : V3.heap[w3.heap.size]? = some (.cells #[.bool eb, .string et] 27 (0, 0)) := by rw [← hV3]; exact heap_allocC _ _
    have bV3 : Below w3.heap.size w3 V3 := by rw [← hV3]; exact (Below.refl _ _).alloc (Nat.le_refl _) _
    have z3 : V2.heap.size ≤ w3.heap.size := hb3.size
    have b23 := hb3.trans (bV3.mono z3)
    have r23 := (b23.block w2.heap.size (by have := ZV2.out; omega)).trans r2
    obtain ⟨k0, k1⟩ := two_at r23
    obtain ⟨l0, l1⟩ := two_at r3
    have HbV3 := mkHid (Hb1.out.trans ((B12.out.trans (b23.mono (by have := ZV2.out; omega))).mono Hb1.out.size))
    have hee : (et.toList == et.toList) = true := by simp
    have HV3 := mkHid hV3
    have B13 := mkHid (B12.out.trans (b23.mono (by have := ZV2.out; omega)))
    clear cI hb3 hV3 bV3 b23 r2 r3 r23
    go_upto_if 33 with (rw [HV3.out])
    go_cut [] from 15 (fun wx => Hid (Below w.heap.size w wx))
    case first =>
      rcases hso with ⟨rfl, hx⟩ | ⟨rfl, hx⟩
      · have hdec := enc_taken set P et.data.toList hx
        have hle := hel _ hx
        have hes : et.size ≤ 100000 := by have h1 : et.data.toList.length = et.size := by simp
                                          omega
        have cD := mkHid (implDecode set et V3 hes (HW.out.below HbV3.out).tabs)
        rw [hdec] at cD
        clear hdec hle hx hel
        go_wp2_with fail
        refine cD.out.mono ?_
        rintro e w4 ⟨hDo, hb4⟩
        obtain ⟨v4, rfl, hO4⟩ := hDo
        obtain ⟨o4, c4, rfl⟩ := hO4.shape
        obtain ⟨V4, hV4⟩ : ∃ V, w4.alloc (.cells #[.bool true, .int .i64 0, .slice o4 P.length c4] 30) = V := ⟨_, rfl⟩
        have r4 : V4.heap[w4.heap.size]? = some (.cells #[.bool true, .int .i64 0, .slice o4 P.length c4] 30 (0, 0)) := by rw [← hV4]; exact heap_allocC _ _
        have bV4 : Below w4.heap.size w4 V4 := by rw [← hV4]; exact (Below.refl _ _).alloc (Nat.le_refl _) _
        have z4 : V3.heap.size ≤ w4.heap.size := hb4.size
        have b34 := hb4.trans (bV4.mono z4)
        have q0 : V4.cell? ⟨w4.heap.size, 0, none⟩ = some (.bool true) := by simp [World.cell?, r4]
        have q2 : V4.cell? ⟨w4.heap.size, 2, none⟩ = some (.slice o4 P.length c4) := by simp [World.cell?, r4]
        have b14 := B13.out.trans (b34.mono B13.out.size)
        have cL := mkHid (lawIntsC o4 op P c4 cpp V4 (ptsOf (hO4.below bV4)) ((HPt.out.below b14).mono b14.size) (by omega))
        have Hb14 := mkHid (HbV3.out.trans (b34.mono HbV3.out.size))
        have HV4 := mkHid hV4
        clear cD hV4 hb4 bV4 b34 r4 b14 hO4
        go_wp2_with fail
        rw [HV4.out]
        refine cL.out.mono ?_
        rintro e w5 ⟨rfl, hb5⟩
        have Hb5 := mkHid (Hb14.out.trans (hb5.mono Hb14.out.size))
        clear cL hb5
        go_wp2
        go_meet
        case rel => exact Hb5
      · clear hx hel
        go_wp2
        go_meet
        case rel => exact HbV3
    case rest =>
      have HbX := hcut
      clear hcut k0 k1 l0 l1 HbV3 HV3 B13 HV2 ZV2 B12 Hb1 HPt HO hso hel hee
      obtain ⟨X, hX⟩ : ∃ V, V = wc := ⟨_, rfl⟩
      subst hX
      have HCX := mkHid ((HC.out.below HbX.out).mono HbX.out.size)
      have HWX := mkHid (HW.out.below HbX.out)
      have hD := mkHid (drawWords o c cp X HCX.out hl2)
      go_wp2_with fail
      refine hD.out.mono ?_
      rintro e w1 ⟨v, Q, rfl, hQ, hO, hb1⟩
      obtain ⟨op2, cpp2, rfl⟩ := hO.shape
      have HO := mkHid hO
      have Hb1 := mkHid hb1
      have HW1 := mkHid (HWX.out.below hb1)
      have hMax : MaxL w1 := HW1.out.most
      have cI := mkHid (implWords op2 Q cpp2 w1 (ptsOf hO) (by omega) HW1.out.digits hMax HW1.out.lt)
      clear hD hO hb1 hMax
      go_wp2_with fail
      refine cI.out.mono ?_
      rintro e w2 ⟨rfl, hb2⟩
      have HO2 := mkHid (HO.out.below hb2)
      have Hb2 := mkHid hb2
      have cS := mkHid (specWords op2 Q cpp2 w2 (ptsOf HO2.out) (by omega))
      clear cI hb2
      obtain ⟨T, hT⟩ : ∃ T : ByteArray, (⟨(Pl.words Q).toArray⟩ : ByteArray) = T := ⟨_, rfl⟩
      have hTl : T.data.toList = Pl.words Q := by rw [← hT]
      have HTl := mkHid hTl
      rw [hT] at cS ⊢
      have hTs : T.size ≤ 20000 := by
        have h1 : T.data.toList.length = T.size := by simp
        have h2 := words_len Q
        rw [hTl] at h1
        omega
      clear hT hTl
      have htt : (T.toList == T.toList) = true := by simp
      go_wp2_with fail
      refine cS.out.mono ?_
      rintro e w3 ⟨rfl, hb3⟩
      have HO3 := mkHid (HO2.out.below hb3)
      have z1 := Hb1.out.size
      have z2 := Hb2.out.size
      have Hb3 := mkHid (HbX.out.trans ((Hb1.out.trans ((Hb2.out.trans (hb3.mono z2)).mono z1)).mono HbX.out.size))
      have HW3 := mkHid (HW.out.below Hb3.out)
      clear cS hb3 HO2 Hb2 HW1 Hb1 HWX HCX HbX HO
      by_cases h0 : Pl.words Q = []
      · have hTe : T.data.toList = [] := HTl.out.trans h0
        have ht0 : T.size = 0 := by have h1 : T.data.toList.length = T.size := by simp
                                    rw [hTe] at h1; simpa using h1.symm
        have htl0 : T.toList = [] := by rw [ByteArray.toList_eq, hTe]
        have hti : T.toList.isEmpty = true := by rw [htl0]; rfl
        have hti2 : (!T.toList.isEmpty) = false := by rw [hti]; rfl
        go_simp
        go_wp2
        go_loopw [10, 11] (fun _ iv wr => iv = .int .i64 0 ∧ wr = w3) (fun _ _ _ => 0)
        case atStart => exact ⟨rfl, rfl⟩
        case round =>
          obtain ⟨rfl, rfl⟩ := hrel
          have hn0 : ¬ (0 : Int) < (T.size : Int) := by omega
          clear hti hti2 htl0 hTe
          have HCY := mkHid ((HC.out.below Hb3.out).mono Hb3.out.size)
          have hDd := mkHid (drawDecode o c cp wr HCY.out hl2)
          go_wp2_with fail
          refine hDd.out.mono ?_
          rintro e w7 ⟨st, t, rfl, ht, hb7⟩
          have Hb7 := mkHid (Hb3.out.trans (hb7.mono Hb3.out.size))
          have hW7 := HW.out.below Hb7.out
          have cDi := mkHid (implDecode st t w7 (by omega) hW7.tabs)
          have cSp := mkHid (fun V => specDecode st t V (by omega))
          have htk := taken_enc st t.data.toList
          have htl : t.data.toList.length = t.size := by simp
          obtain ⟨x, hx⟩ : ∃ x, decA st t.data.toList = x := ⟨_, rfl⟩
          rw [hx] at cDi cSp htk
          have Htk := mkHid htk
          have Hx := mkHid hx
          clear hDd hb7 hW7 htk hx HCY
          go_wp2_with fail
          refine cDi.out.mono ?_
          rintro e w8 ⟨hDo, hb8⟩
          have z7 : w.heap.size ≤ w7.heap.size := Hb7.out.size
          have z8 : w7.heap.size ≤ w8.heap.size := hb8.size
          cases x with
          | none =>
            obtain ⟨i8, rfl⟩ := hDo
            obtain ⟨V8, hV8⟩ : ∃ V, w8.alloc (.cells #[.bool false, .int .i64 i8, .slice none 0 0] 30) = V := ⟨_, rfl⟩
            have r8 : V8.heap[w8.heap.size]? = some (.cells #[.bool false, .int .i64 i8, .slice none 0 0] 30 (0, 0)) := by rw [← hV8]; exact heap_allocC _ _
            have bV8 : Below w8.heap.size w8 V8 := by rw [← hV8]; exact (Below.refl _ _).alloc (Nat.le_refl _) _
            have HbV8 := mkHid (Hb7.out.trans ((hb8.trans (bV8.mono z8)).mono z7))
            have HV8 := mkHid hV8
            have zV8 := bV8.size
            clear hV8 bV8 hb8 cDi
            have HSq := mkHid (show ∀ W, Below V8.heap.size V8 W → W.cell? ⟨w8.heap.size, 0, none⟩ = some (.bool false) from fun W hW => by have h := (hW.block w8.heap.size (heap_lt r8)).trans r8; simp [World.cell?, h])
            obtain ⟨Z, hZ⟩ : ∃ Z, V8.drew = Z := ⟨_, rfl⟩
            have hbZ : Below V8.heap.size V8 Z := by rw [← hZ]; exact (Below.refl _ _).drew
            go_wp2_with fail
            rw [HV8.out]
            refine wp_region_held (S := fun w2 => w2.cell? ⟨w8.heap.size, 0, none⟩ = some (.bool false)) (by kernel_rfl) ?_
            rw [show ({ V8 with drawn := V8.drawn + 1 } : World) = Z from hZ]
            have HS0 := HSq.out Z hbZ
            clear hZ
            refine wpAnyH_take (i := 0) (v := .pointer (some ⟨w8.heap.size, 0, none⟩)) rfl (by kernel_rfl) (by kernel_rfl) (by kernel_rfl) (fun _ _ _ h => h) (Or.inl ⟨by rfl, ?_⟩) HS0 ?_
            · intro w s0
              go_simp
              all_goals first | done | (intro h; exfalso; omega) | omega
            go_simp
            refine wpAnyH_take (i := 1) (v := .bool false) rfl (by kernel_rfl) (by kernel_rfl) (by kernel_rfl) (fun _ _ _ h => h) (Or.inl ⟨by rfl, ?_⟩) HS0 ?_
            · intro w s0
              go_simp
              all_goals first | done | (intro h; exfalso; omega) | omega
            go_simp
            refine wpAnyH_take (i := 2) (v := .int .i64 st) rfl (by kernel_rfl) (by kernel_rfl) (by kernel_rfl) (fun _ _ _ h => h) (Or.inl ⟨by rfl, ?_⟩) HS0 ?_
            · intro w s0
              go_simp
              all_goals first | done | (intro h; exfalso; omega) | omega
            go_simp
            refine wpAnyH_take (i := 3) (v := .string t) rfl (by kernel_rfl) (by kernel_rfl) (by kernel_rfl) (fun _ _ _ h => h) (Or.inl ⟨by rfl, ?_⟩) HS0 ?_
            · intro w s0
              go_simp
              all_goals first | done | (intro h; exfalso; omega) | omega
            go_simp
            refine wpAnyH_all (rs := [4]) (by kernel_rfl) (by simp) ?_
            intro j hj
            simp only [List.mem_cons, List.not_mem_nil, or_false] at hj
            subst hj
            refine wpOp_step rfl (fun K hK => ?_)
            go_simp
            refine (cSp.out Z).mono ?_
            rintro e w9 ⟨hDs, hb9⟩
            obtain ⟨i9, rfl⟩ := hDs
            have hf9 := fieldP0 false i9 none 0 0
            have hbU := hbZ.trans (hb9.mono hbZ.size)
            refine hK _ _ ⟨HSq.out _ hbU, ?_⟩
            clear hK K
            have HS1 := HSq.out _ hbU
            go_simp
            refine wpAnyH_take (i := 5) (v := .bool false) rfl (by kernel_rfl) (by kernel_rfl) (by kernel_rfl) (fun _ _ _ h => h) (Or.inl ⟨by rfl, ?_⟩) HS1 ?_
            · intro w s0
              go_simp
              all_goals first | done | (intro h; exfalso; omega) | omega
            go_simp
            refine wpAnyH_take (i := 6) (v := .bool false) rfl (by kernel_rfl) (by kernel_rfl) (by kernel_rfl) (fun _ _ _ h => h) (Or.inl ⟨by rfl, ?_⟩) HS1 ?_
            · intro w s0
              go_simp
              all_goals first | done | (intro h; exfalso; omega) | omega
            go_simp
            refine wpAnyH_done (by kernel_rfl) ?_ _
            have HbU := mkHid (HbV8.out.trans (hbU.mono HbV8.out.size))
            have k9 := HS1
            clear HSq hbZ HS0 cSp hb9 hbU r8
            go_wp2
            go_ret
            exact ⟨rfl, HbU.out⟩
          | some ps =>
            obtain ⟨v8, rfl, hO8⟩ := hDo
            obtain ⟨o8, c8, rfl⟩ := hO8.shape
            obtain ⟨V8, hV8⟩ : ∃ V, w8.alloc (.cells #[.bool true, .int .i64 0, .slice o8 ps.length c8] 30) = V := ⟨_, rfl⟩
            have r8 : V8.heap[w8.heap.size]? = some (.cells #[.bool true, .int .i64 0, .slice o8 ps.length c8] 30 (0, 0)) := by rw [← hV8]; exact heap_allocC _ _
            have bV8 : Below w8.heap.size w8 V8 := by rw [← hV8]; exact (Below.refl _ _).alloc (Nat.le_refl _) _
            have HbV8 := mkHid (Hb7.out.trans ((hb8.trans (bV8.mono z8)).mono z7))
            have HV8 := mkHid hV8
            have zV8 := bV8.size
            have HO8 := mkHid (hO8.below bV8)
            clear hV8 bV8 hb8 cDi hO8
            have HSq := mkHid (show ∀ W, Below V8.heap.size V8 W → W.cell? ⟨w8.heap.size, 0, none⟩ = some (.bool true) from fun W hW => by have h := (hW.block w8.heap.size (heap_lt r8)).trans r8; simp [World.cell?, h])
            obtain ⟨Z, hZ⟩ : ∃ Z, V8.drew = Z := ⟨_, rfl⟩
            have hbZ : Below V8.heap.size V8 Z := by rw [← hZ]; exact (Below.refl _ _).drew
            go_wp2_with fail
            rw [HV8.out]
            refine wp_region_held (S := fun w2 => w2.cell? ⟨w8.heap.size, 0, none⟩ = some (.bool true)) (by kernel_rfl) ?_
            rw [show ({ V8 with drawn := V8.drawn + 1 } : World) = Z from hZ]
            have HS0 := HSq.out Z hbZ
            clear hZ
            refine wpAnyH_take (i := 0) (v := .pointer (some ⟨w8.heap.size, 0, none⟩)) rfl (by kernel_rfl) (by kernel_rfl) (by kernel_rfl) (fun _ _ _ h => h) (Or.inl ⟨by rfl, ?_⟩) HS0 ?_
            · intro w s0
              go_simp
              all_goals first | done | (intro h; exfalso; omega) | omega
            go_simp
            refine wpAnyH_take (i := 1) (v := .bool true) rfl (by kernel_rfl) (by kernel_rfl) (by kernel_rfl) (fun _ _ _ h => h) (Or.inl ⟨by rfl, ?_⟩) HS0 ?_
            · intro w s0
              go_simp
              all_goals first | done | (intro h; exfalso; omega) | omega
            go_simp
            refine wpAnyH_take (i := 2) (v := .int .i64 st) rfl (by kernel_rfl) (by kernel_rfl) (by kernel_rfl) (fun _ _ _ h => h) (Or.inl ⟨by rfl, ?_⟩) HS0 ?_
            · intro w s0
              go_simp
              all_goals first | done | (intro h; exfalso; omega) | omega
            go_simp
            refine wpAnyH_take (i := 3) (v := .string t) rfl (by kernel_rfl) (by kernel_rfl) (by kernel_rfl) (fun _ _ _ h => h) (Or.inl ⟨by rfl, ?_⟩) HS0 ?_
            · intro w s0
              go_simp
              all_goals first | done | (intro h; exfalso; omega) | omega
            go_simp
            refine wpAnyH_all (rs := [4]) (by kernel_rfl) (by simp) ?_
            intro j hj
            simp only [List.mem_cons, List.not_mem_nil, or_false] at hj
            subst hj
            refine wpOp_step rfl (fun K hK => ?_)
            go_simp
            refine (cSp.out Z).mono ?_
            rintro e w9 ⟨hDs, hb9⟩
            obtain ⟨v9, rfl, hO9⟩ := hDs
            obtain ⟨o9, c9, rfl⟩ := hO9.shape
            have hf9 := fieldP0 true 0 o9 ps.length c9
            have hbU := hbZ.trans (hb9.mono hbZ.size)
            have HrU := mkHid ((hbU.block w8.heap.size (heap_lt r8)).trans r8)
            have HOU := mkHid (HO8.out.below hbU)
            refine hK _ _ ⟨HSq.out _ hbU, ?_⟩
            clear hK K
            have HS1 := HSq.out _ hbU
            go_simp
            refine wpAnyH_take (i := 5) (v := .bool true) rfl (by kernel_rfl) (by kernel_rfl) (by kernel_rfl) (fun _ _ _ h => h) (Or.inl ⟨by rfl, ?_⟩) HS1 ?_
            · intro w s0
              go_simp
              all_goals first | done | (intro h; exfalso; omega) | omega
            go_simp
            refine wpAnyH_take (i := 6) (v := .bool false) rfl (by kernel_rfl) (by kernel_rfl) (by kernel_rfl) (fun _ _ _ h => h) (Or.inl ⟨by rfl, ?_⟩) HS1 ?_
            · intro w s0
              go_simp
              all_goals first | done | (intro h; exfalso; omega) | omega
            go_simp
            refine wpAnyH_done (by kernel_rfl) ?_ _
            have HbU := mkHid (HbV8.out.trans (hbU.mono HbV8.out.size))
            have k9 := HS1
            have k92 : w9.cell? ⟨w8.heap.size, 2, none⟩ = some (.slice o8 ps.length c8) := by simp [World.cell?, HrU.out]
            have hpl : ps.length ≤ 1000 := by
              have h1 := Hx.out
              unfold decA at h1
              split at h1
              · cases h1
              · have := Pw.dec_len st t.data.toList.length [] t.data.toList ps (Nat.le_refl _) h1
                simp only [List.length_nil, Nat.zero_add] at this
                omega
            have cEn := implEncode st o8 ps c8 w9 (ptsOf HOU.out) (by omega)
            rw [Htk.out ps (by omega) rfl] at cEn
            have hbk : (⟨t.data.toList.toArray⟩ : ByteArray) = t := by
              apply ByteArray.ext
              simp
            unfold encV at cEn
            dsimp only at cEn
            rw [hbk] at cEn
            have HcEn := mkHid cEn
            have hfB := fieldB true t
            have hte : (t.toList == t.toList) = true := by simp
            clear HSq hbZ HS0 cSp hb9 hbU r8 cEn hbk HO8 HOU HrU hO9 Htk Hx
            go_wp2_with fail
            refine HcEn.out.mono ?_
            rintro e w10 ⟨rfl, hb10⟩
            have HbE := mkHid (HbU.out.trans (hb10.mono HbU.out.size))
            clear HcEn hb10
            go_wp2
            go_ret
            exact ⟨rfl, HbE.out⟩
      · have hall := words_pts Q h0
        have hback := Pc.words_back Q hall
        have hgood := Pc.words_good Q
        have hsign := Pc.words_sign Q
        rw [← HTl.out] at hback hgood hsign
        obtain ⟨m, hm⟩ := HW3.out.most
        obtain ⟨ct, fr, hC3⟩ := HW3.out.names
        have cR := implReadWords T w3 (by omega) HW3.out.tabs HW3.out.err m hm ct fr hC3
        rw [hback] at cR
        have HcR := mkHid cR
        have hti2 : (!T.toList.isEmpty) = true := by
          have h1 : T.toList ≠ [] := by rw [ByteArray.toList_eq, HTl.out]; exact h0
          cases hq : T.toList with
          | nil => exact absurd hq h1
          | cons a r => rfl
        have Hgood := mkHid hgood
        have Hsign := mkHid hsign
        clear hall hback cR hm hC3 hgood hsign h0
        go_simp
        go_wp2_with fail
        refine HcR.out.mono ?_
        rintro e w4 ⟨v4, rfl, hO4, hb4⟩
        obtain ⟨o4, c4, rfl⟩ := hO4.shape
        have HO34 := mkHid (HO3.out.below hb4)
        have cL := mkHid (lawIntsC o4 op2 Q c4 cpp2 w4 (ptsOf hO4) (ptsOf HO34.out) (by omega))
        have Hb4 := mkHid (Hb3.out.trans (hb4.mono Hb3.out.size))
        clear HcR hO4 hb4
        go_wp2_with fail
        refine cL.out.mono ?_
        rintro e w5 ⟨rfl, hb5⟩
        have Hb5 := mkHid (Hb4.out.trans (hb5.mono Hb4.out.size))
        clear cL hb5 HO34 Hb4 HW3 HO3
        go_wp2
        go_loopw [10, 11] (fun nv iv wr => ∃ n k : Nat, k ≤ T.size ∧ n ≤ k ∧ nv = .int .i64 n ∧ iv = .int .i64 k ∧ Hid (Pc.good n (T.data.toList.drop k) = true ∨ hasPrefix T.data.toList [61, 63] = false) ∧ wr = w5) (fun _ iv _ => T.size - (Lib.intOf iv).toNat)
        case atStart => exact ⟨0, 0, Nat.zero_le _, Nat.le_refl _, rfl, rfl, Hgood, rfl⟩
        case round =>
          obtain ⟨n, k, hk, hnk, rfl, rfl, Hg, rfl⟩ := hrel
          clear Hgood
          by_cases hlt : k < T.size
          · have hlt2 : k < T.data.toList.length := by rw [Pl.len_list]; exact hlt
            have hat : T.data.toList[k]'hlt2 = T[k] := Pl.at_list T k hlt
            have hpr := Hsign.out T[k] (by rw [← hat]; exact List.getElem_mem _)
            have hpr2 : 32 ≤ T[k].toNat ∧ T[k].toNat ≤ 126 := by
              unfold Pl.prt at hpr
              simpa using hpr
            have hpre : ∀ (h : hasPrefix T.data.toList [61, 63] = false) (h75 : 75 < n + 1), (T[0]'(by omega)) ≠ 61 ∨ ((T[0]'(by omega)) = 61 ∧ (T[1]'(by omega)) ≠ 63) := fun h h75 => by
              have h2 := pre_two T 61 63 (by omega)
              by_cases e0 : (T[0]'(by omega)) = 61
              · by_cases e1 : (T[1]'(by omega)) = 63
                · exfalso
                  have h3 : hasPrefix T.data.toList [61, 63] = true := by
                    unfold hasPrefix
                    rw [List.isPrefixOf_iff_prefix]
                    refine ⟨T.data.toList.drop 2, ?_⟩
                    have hl0 : 0 < T.data.toList.length := by omega
                    have hl1 : 1 < T.data.toList.length := by rw [Pl.len_list]; omega
                    have a0 : T.data.toList[0]'hl0 = 61 := (Pl.at_list T 0 (by omega)).trans e0
                    have a1 : T.data.toList[1]'hl1 = 63 := (Pl.at_list T 1 (by omega)).trans e1
                    conv => rhs; rw [← List.take_append_drop 2 T.data.toList]
                    congr 1
                    rw [List.take_succ_eq_append_getElem hl1, List.take_succ_eq_append_getElem hl0, a0, a1]
                    rfl
                  rw [h] at h3
                  cases h3
                · exact .inr ⟨e0, e1⟩
              · exact .inl e0
            have hstep : ∀ q, (if T[k] = 32 then 0 else n + 1) = q → Pc.good n (T.data.toList.drop k) = true → q ≤ 75 ∧ Pc.good q (T.data.toList.drop (k + 1)) = true := fun q hq h => by
              rw [List.drop_eq_getElem_cons hlt2, Pc.good, hat, hq, Bool.and_eq_true, decide_eq_true_eq] at h
              exact h
            have hc1 : ¬ (T[k].toNat : Int) < 32 := by omega
            have hc2 : ¬ (126 : Int) < (T[k].toNat : Int) := by omega
            have hlI : (k : Int) < (T.size : Int) := by omega
            by_cases h32 : T[k] = 32
            · have b32 : ((T[k].toNat : Int) == 32) = true := by rw [h32]; rfl
              have Hn : Hid (Pc.good 0 (T.data.toList.drop (k + 1)) = true ∨ hasPrefix T.data.toList [61, 63] = false) := by
                rcases Hg.out with h | h
                · exact .inl (hstep 0 (by rw [if_pos h32]) h).2
                · exact .inr h
              clear hat hpr hpr2 hpre hstep h32 Hg
              go_wp2
              go_roundw
              case rel => exact ⟨0, k + 1, by omega, by omega, rfl, by go_num, Hn, trivial⟩
              case measure => simp [Lib.intOf]; omega
            · have b32 : ((T[k].toNat : Int) == 32) = false := by
                rw [beq_eq_false_iff_ne]
                intro e
                exact h32 (UInt8.toNat_inj.1 (by simpa using (by omega : T[k].toNat = 32)))
              have Hn : Hid (Pc.good (n + 1) (T.data.toList.drop (k + 1)) = true ∨ hasPrefix T.data.toList [61, 63] = false) := by
                rcases Hg.out with h | h
                · exact .inl (hstep (n + 1) (by rw [if_neg h32]) h).2
                · exact .inr h
              by_cases h75 : n + 1 ≤ 75
              · have hi75 : ¬ (75 : Int) < (n : Int) + 1 := by omega
                clear hat hpr hpr2 hpre hstep h32 Hg
                go_wp2
                go_roundw
                case rel => exact ⟨n + 1, k + 1, by omega, by omega, by go_num, by go_num, Hn, trivial⟩
                case measure => simp [Lib.intOf]; omega
              · have hi75 : (75 : Int) < (n : Int) + 1 := by omega
                have hnp : hasPrefix T.data.toList [61, 63] = false := by
                  rcases Hg.out with h | h
                  · exact absurd (hstep (n + 1) (by rw [if_neg h32]) h).1 h75
                  · exact h
                have hT2 : (1 : Int) < (T.size : Int) := by omega
                rcases hpre hnp (by omega) with e0 | ⟨e0, e1⟩
                · have b0 : ((T[0].toNat : Int) == 61) = false := by
                    rw [beq_eq_false_iff_ne]
                    intro e
                    exact e0 (UInt8.toNat_inj.1 (by simpa using (by omega : T[0].toNat = 61)))
                  clear hat hpr hpr2 hpre hstep h32 Hg e0 hnp
                  go_wp2
                  go_roundw
                  case rel => exact ⟨n + 1, k + 1, by omega, by omega, by go_num, by go_num, Hn, trivial⟩
                  case measure => simp [Lib.intOf]; omega
                · have b0 : ((T[0].toNat : Int) == 61) = true := by rw [e0]; rfl
                  have b1 : ((T[1].toNat : Int) == 63) = false := by
                    rw [beq_eq_false_iff_ne]
                    intro e
                    exact e1 (UInt8.toNat_inj.1 (by simpa using (by omega : T[1].toNat = 63)))
                  clear hat hpr hpr2 hpre hstep h32 Hg e0 e1 hnp
                  go_wp2
                  go_roundw
                  case rel => exact ⟨n + 1, k + 1, by omega, by omega, by go_num, by go_num, Hn, trivial⟩
                  case measure => simp [Lib.intOf]; omega
          · have hlI : ¬ (k : Int) < (T.size : Int) := by omega
            clear Hg Hsign
            have HCY := mkHid ((HC.out.below Hb5.out).mono Hb5.out.size)
            have hDd := mkHid (drawDecode o c cp wr HCY.out hl2)
            go_wp2_with fail
            refine hDd.out.mono ?_
            rintro e w7 ⟨st, t, rfl, ht, hb7⟩
            have Hb7 := mkHid (Hb5.out.trans (hb7.mono Hb5.out.size))
            have hW7 := HW.out.below Hb7.out
            have cDi := mkHid (implDecode st t w7 (by omega) hW7.tabs)
            have cSp := mkHid (fun V => specDecode st t V (by omega))
            have htk := taken_enc st t.data.toList
            have htl : t.data.toList.length = t.size := by simp
            obtain ⟨x, hx⟩ : ∃ x, decA st t.data.toList = x := ⟨_, rfl⟩
            rw [hx] at cDi cSp htk
            have Htk := mkHid htk
            have Hx := mkHid hx
            clear hDd hb7 hW7 htk hx HCY
            go_wp2_with fail
            refine cDi.out.mono ?_
            rintro e w8 ⟨hDo, hb8⟩
            have z7 : w.heap.size ≤ w7.heap.size := Hb7.out.size
            have z8 : w7.heap.size ≤ w8.heap.size := hb8.size
            cases x with
            | none =>
              obtain ⟨i8, rfl⟩ := hDo
              obtain ⟨V8, hV8⟩ : ∃ V, w8.alloc (.cells #[.bool false, .int .i64 i8, .slice none 0 0] 30) = V := ⟨_, rfl⟩
              have r8 : V8.heap[w8.heap.size]? = some (.cells #[.bool false, .int .i64 i8, .slice none 0 0] 30 (0, 0)) := by rw [← hV8]; exact heap_allocC _ _
              have bV8 : Below w8.heap.size w8 V8 := by rw [← hV8]; exact (Below.refl _ _).alloc (Nat.le_refl _) _
              have HbV8 := mkHid (Hb7.out.trans ((hb8.trans (bV8.mono z8)).mono z7))
              have HV8 := mkHid hV8
              have zV8 := bV8.size
              clear hV8 bV8 hb8 cDi
              have HSq := mkHid (show ∀ W, Below V8.heap.size V8 W → W.cell? ⟨w8.heap.size, 0, none⟩ = some (.bool false) from fun W hW => by have h := (hW.block w8.heap.size (heap_lt r8)).trans r8; simp [World.cell?, h])
              obtain ⟨Z, hZ⟩ : ∃ Z, V8.drew = Z := ⟨_, rfl⟩
              have hbZ : Below V8.heap.size V8 Z := by rw [← hZ]; exact (Below.refl _ _).drew
              go_wp2_with fail
              rw [HV8.out]
              refine wp_region_held (S := fun w2 => w2.cell? ⟨w8.heap.size, 0, none⟩ = some (.bool false)) (by kernel_rfl) ?_
              rw [show ({ V8 with drawn := V8.drawn + 1 } : World) = Z from hZ]
              have HS0 := HSq.out Z hbZ
              clear hZ
              refine wpAnyH_take (i := 0) (v := .pointer (some ⟨w8.heap.size, 0, none⟩)) rfl (by kernel_rfl) (by kernel_rfl) (by kernel_rfl) (fun _ _ _ h => h) (Or.inl ⟨by rfl, ?_⟩) HS0 ?_
              · intro w s0
                go_simp
                all_goals first | done | (intro h; exfalso; omega) | omega
              go_simp
              refine wpAnyH_take (i := 1) (v := .bool false) rfl (by kernel_rfl) (by kernel_rfl) (by kernel_rfl) (fun _ _ _ h => h) (Or.inl ⟨by rfl, ?_⟩) HS0 ?_
              · intro w s0
                go_simp
                all_goals first | done | (intro h; exfalso; omega) | omega
              go_simp
              refine wpAnyH_take (i := 2) (v := .int .i64 st) rfl (by kernel_rfl) (by kernel_rfl) (by kernel_rfl) (fun _ _ _ h => h) (Or.inl ⟨by rfl, ?_⟩) HS0 ?_
              · intro w s0
                go_simp
                all_goals first | done | (intro h; exfalso; omega) | omega
              go_simp
              refine wpAnyH_take (i := 3) (v := .string t) rfl (by kernel_rfl) (by kernel_rfl) (by kernel_rfl) (fun _ _ _ h => h) (Or.inl ⟨by rfl, ?_⟩) HS0 ?_
              · intro w s0
                go_simp
                all_goals first | done | (intro h; exfalso; omega) | omega
              go_simp
              refine wpAnyH_all (rs := [4]) (by kernel_rfl) (by simp) ?_
              intro j hj
              simp only [List.mem_cons, List.not_mem_nil, or_false] at hj
              subst hj
              refine wpOp_step rfl (fun K hK => ?_)
              go_simp
              refine (cSp.out Z).mono ?_
              rintro e w9 ⟨hDs, hb9⟩
              obtain ⟨i9, rfl⟩ := hDs
              have hf9 := fieldP0 false i9 none 0 0
              have hbU := hbZ.trans (hb9.mono hbZ.size)
              refine hK _ _ ⟨HSq.out _ hbU, ?_⟩
              clear hK K
              have HS1 := HSq.out _ hbU
              go_simp
              refine wpAnyH_take (i := 5) (v := .bool false) rfl (by kernel_rfl) (by kernel_rfl) (by kernel_rfl) (fun _ _ _ h => h) (Or.inl ⟨by rfl, ?_⟩) HS1 ?_
              · intro w s0
                go_simp
                all_goals first | done | (intro h; exfalso; omega) | omega
              go_simp
              refine wpAnyH_take (i := 6) (v := .bool false) rfl (by kernel_rfl) (by kernel_rfl) (by kernel_rfl) (fun _ _ _ h => h) (Or.inl ⟨by rfl, ?_⟩) HS1 ?_
              · intro w s0
                go_simp
                all_goals first | done | (intro h; exfalso; omega) | omega
              go_simp
              refine wpAnyH_done (by kernel_rfl) ?_ _
              have HbU := mkHid (HbV8.out.trans (hbU.mono HbV8.out.size))
              have k9 := HS1
              clear HSq hbZ HS0 cSp hb9 hbU r8
              go_wp2
              go_ret
              exact ⟨rfl, HbU.out⟩
            | some ps =>
              obtain ⟨v8, rfl, hO8⟩ := hDo
              obtain ⟨o8, c8, rfl⟩ := hO8.shape
              obtain ⟨V8, hV8⟩ : ∃ V, w8.alloc (.cells #[.bool true, .int .i64 0, .slice o8 ps.length c8] 30) = V := ⟨_, rfl⟩
              have r8 : V8.heap[w8.heap.size]? = some (.cells #[.bool true, .int .i64 0, .slice o8 ps.length c8] 30 (0, 0)) := by rw [← hV8]; exact heap_allocC _ _
              have bV8 : Below w8.heap.size w8 V8 := by rw [← hV8]; exact (Below.refl _ _).alloc (Nat.le_refl _) _
              have HbV8 := mkHid (Hb7.out.trans ((hb8.trans (bV8.mono z8)).mono z7))
              have HV8 := mkHid hV8
              have zV8 := bV8.size
              have HO8 := mkHid (hO8.below bV8)
              clear hV8 bV8 hb8 cDi hO8
              have HSq := mkHid (show ∀ W, Below V8.heap.size V8 W → W.cell? ⟨w8.heap.size, 0, none⟩ = some (.bool true) from fun W hW => by have h := (hW.block w8.heap.size (heap_lt r8)).trans r8; simp [World.cell?, h])
              obtain ⟨Z, hZ⟩ : ∃ Z, V8.drew = Z := ⟨_, rfl⟩
              have hbZ : Below V8.heap.size V8 Z := by rw [← hZ]; exact (Below.refl _ _).drew
              go_wp2_with fail
              rw [HV8.out]
              refine wp_region_held (S := fun w2 => w2.cell? ⟨w8.heap.size, 0, none⟩ = some (.bool true)) (by kernel_rfl) ?_
              rw [show ({ V8 with drawn := V8.drawn + 1 } : World) = Z from hZ]
              have HS0 := HSq.out Z hbZ
              clear hZ
              refine wpAnyH_take (i := 0) (v := .pointer (some ⟨w8.heap.size, 0, none⟩)) rfl (by kernel_rfl) (by kernel_rfl) (by kernel_rfl) (fun _ _ _ h => h) (Or.inl ⟨by rfl, ?_⟩) HS0 ?_
              · intro w s0
                go_simp
                all_goals first | done | (intro h; exfalso; omega) | omega
              go_simp
              refine wpAnyH_take (i := 1) (v := .bool true) rfl (by kernel_rfl) (by kernel_rfl) (by kernel_rfl) (fun _ _ _ h => h) (Or.inl ⟨by rfl, ?_⟩) HS0 ?_
              · intro w s0
                go_simp
                all_goals first | done | (intro h; exfalso; omega) | omega
              go_simp
              refine wpAnyH_take (i := 2) (v := .int .i64 st) rfl (by kernel_rfl) (by kernel_rfl) (by kernel_rfl) (fun _ _ _ h => h) (Or.inl ⟨by rfl, ?_⟩) HS0 ?_
              · intro w s0
                go_simp
                all_goals first | done | (intro h; exfalso; omega) | omega
              go_simp
              refine wpAnyH_take (i := 3) (v := .string t) rfl (by kernel_rfl) (by kernel_rfl) (by kernel_rfl) (fun _ _ _ h => h) (Or.inl ⟨by rfl, ?_⟩) HS0 ?_
              · intro w s0
                go_simp
                all_goals first | done | (intro h; exfalso; omega) | omega
              go_simp
              refine wpAnyH_all (rs := [4]) (by kernel_rfl) (by simp) ?_
              intro j hj
              simp only [List.mem_cons, List.not_mem_nil, or_false] at hj
              subst hj
              refine wpOp_step rfl (fun K hK => ?_)
              go_simp
              refine (cSp.out Z).mono ?_
              rintro e w9 ⟨hDs, hb9⟩
              obtain ⟨v9, rfl, hO9⟩ := hDs
              obtain ⟨o9, c9, rfl⟩ := hO9.shape
              have hf9 := fieldP0 true 0 o9 ps.length c9
              have hbU := hbZ.trans (hb9.mono hbZ.size)
              have HrU := mkHid ((hbU.block w8.heap.size (heap_lt r8)).trans r8)
              have HOU := mkHid (HO8.out.below hbU)
              refine hK _ _ ⟨HSq.out _ hbU, ?_⟩
              clear hK K
              have HS1 := HSq.out _ hbU
              go_simp
              refine wpAnyH_take (i := 5) (v := .bool true) rfl (by kernel_rfl) (by kernel_rfl) (by kernel_rfl) (fun _ _ _ h => h) (Or.inl ⟨by rfl, ?_⟩) HS1 ?_
              · intro w s0
                go_simp
                all_goals first | done | (intro h; exfalso; omega) | omega
              go_simp
              refine wpAnyH_take (i := 6) (v := .bool false) rfl (by kernel_rfl) (by kernel_rfl) (by kernel_rfl) (fun _ _ _ h => h) (Or.inl ⟨by rfl, ?_⟩) HS1 ?_
              · intro w s0
                go_simp
                all_goals first | done | (intro h; exfalso; omega) | omega
              go_simp
              refine wpAnyH_done (by kernel_rfl) ?_ _
              have HbU := mkHid (HbV8.out.trans (hbU.mono HbV8.out.size))
              have k9 := HS1
              have k92 : w9.cell? ⟨w8.heap.size, 2, none⟩ = some (.slice o8 ps.length c8) := by simp [World.cell?, HrU.out]
              have hpl : ps.length ≤ 1000 := by
                have h1 := Hx.out
                unfold decA at h1
                split at h1
                · cases h1
                · have := Pw.dec_len st t.data.toList.length [] t.data.toList ps (Nat.le_refl _) h1
                  simp only [List.length_nil, Nat.zero_add] at this
                  omega
              have cEn := implEncode st o8 ps c8 w9 (ptsOf HOU.out) (by omega)
              rw [Htk.out ps (by omega) rfl] at cEn
              have hbk : (⟨t.data.toList.toArray⟩ : ByteArray) = t := by
                apply ByteArray.ext
                simp
              unfold encV at cEn
              dsimp only at cEn
              rw [hbk] at cEn
              have HcEn := mkHid cEn
              have hfB := fieldB true t
              have hte : (t.toList == t.toList) = true := by simp
              clear HSq hbZ HS0 cSp hb9 hbU r8 cEn hbk HO8 HOU HrU hO9 Htk Hx
              go_wp2_with fail
              refine HcEn.out.mono ?_
              rintro e w10 ⟨rfl, hb10⟩
              have HbE := mkHid (HbU.out.trans (hb10.mono HbU.out.size))
              clear HcEn hb10
              go_wp2
              go_ret
              exact ⟨rfl, HbE.out⟩
end Go.Proofs.YtbppdfjigcelkaaGreatDoor
