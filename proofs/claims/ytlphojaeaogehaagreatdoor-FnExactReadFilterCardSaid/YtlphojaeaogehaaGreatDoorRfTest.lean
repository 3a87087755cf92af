
/- The specification's reader of a script: its small calls, their good and bad roads in one. -/

/- The specification's reader of a script: a test. (By tools/gen/rftest.py.) -/
import Derived.Test.YtlphojaeaogehaaGreatDoorRfBranch
namespace Go.Proofs.YtlphojaeaogehaaGreatDoor
open Go.RowKit Go.Lib Go.Maps
section
variable {g : Nat} {tv : Value} {l : List UInt8} {T : List Rf.Tk} {TE : List TkE} {i : Nat} {bad many : Bool} {v : Value} {E : List NdE} {w : World}
set_option maxRecDepth 20000 in
theorem jWant (hK : Tks l T TE) (h : Rs g tv TE i bad many v E w) (hi : i < T.length) (k : Nat) (t : List UInt8) (h1 : k ≠ 101 := by decide) (h2 : k ≠ 120 := by decide) :
    Calls Tryz.prog 31 #[.pointer (some ⟨g, 0, none⟩), .int .u8 (k : Int), .string ⟨t.toArray⟩] w fun e w' => e = .returned (.tuple #[]) ∧ ∃ (j : Nat) (bd : Bool), Rs g tv TE j bd many v E w' ∧ Ef g none w w' ∧ j < T.length ∧ i ≤ j ∧ j ≤ i + 1 ∧ Hid (bd = (bad || !Rf.is T i k t)) ∧ Hid (j = if bd = true then i else i + 1) := by
  have hll := hK.length
  have hl := hK.len
  by_cases hA : (!bad && Rf.is T i k t) = true
  · obtain ⟨hb0, hA1⟩ : bad = false ∧ Rf.is T i k t = true := by cases bad <;> simp_all
    subst hb0
    refine (specWantY g tv TE i many v E w k ⟨t.toArray⟩ h (by omega) (by omega) (by rw [hK.is i hi]; exact hA1)).mono ?_
    rintro e w1 ⟨rfl, h1', e1⟩
    exact ⟨rfl, i + 1, false, h1', e1, hK.is_nxt i hi k t hA1 h1 h2, by omega, by omega, by show _ = _; rw [hA1]; rfl, by show _ = _; rfl⟩
  · refine (specWantN g tv TE i bad many v E w k ⟨t.toArray⟩ h (by omega) (by rw [hK.is i hi]; simpa using hA)).mono ?_
    rintro e w1 ⟨rfl, h1', e1⟩
    refine ⟨rfl, i, true, h1', e1, hi, Nat.le_refl _, by omega, ?_, by show _ = _; rfl⟩
    show true = _
    cases bad
    · simp at hA; simp [hA]
    · rfl
set_option maxRecDepth 20000 in
theorem jMay (hK : Tks l T TE) (h : Rs g tv TE i bad many v E w) (hi : i < T.length) (k : Nat) (t : List UInt8) (h1 : k ≠ 101 := by decide) (h2 : k ≠ 120 := by decide) :
    Calls Tryz.prog 25 #[.pointer (some ⟨g, 0, none⟩), .int .u8 (k : Int), .string ⟨t.toArray⟩] w fun e w' => ∃ (j : Nat) (y : Bool), e = .returned (.bool y) ∧ Rs g tv TE j bad many v E w' ∧ Ef g none w w' ∧ j < T.length ∧ i ≤ j ∧ j ≤ i + 1 ∧ Hid (y = (!bad && Rf.is T i k t)) ∧ Hid (j = if y = true then i + 1 else i) := by
  have hll := hK.length
  have hl := hK.len
  by_cases hA : (!bad && Rf.is T i k t) = true
  · obtain ⟨hb0, hA1⟩ : bad = false ∧ Rf.is T i k t = true := by cases bad <;> simp_all
    subst hb0
    refine (specMayY g tv TE i many v E w k ⟨t.toArray⟩ h (by omega) (by omega) (by rw [hK.is i hi]; exact hA1)).mono ?_
    rintro e w1 ⟨rfl, h1', e1⟩
    exact ⟨i + 1, true, rfl, h1', e1, hK.is_nxt i hi k t hA1 h1 h2, by omega, by omega, by show _ = _; rw [hA1]; rfl, by show _ = _; rfl⟩
  · refine (specMayN g tv TE i bad many v E w k ⟨t.toArray⟩ h (by omega) (by rw [hK.is i hi]; simpa using hA)).mono ?_
    rintro e w1 ⟨rfl, hb1⟩
    exact ⟨i, false, rfl, h.below hb1, Ef.of_below hb1, hi, Nat.le_refl _, by omega, by show _ = _; exact (Bool.eq_false_iff.2 hA).symm, by show _ = _; rfl⟩
set_option maxRecDepth 20000 in
theorem jTake (hK : Tks l T TE) (h : Rs g tv TE i bad many v E w) (hi : i < T.length) (k : Nat) (h1 : k ≠ 101 := by decide) (h2 : k ≠ 120 := by decide) :
    Calls Tryz.prog 30 #[.pointer (some ⟨g, 0, none⟩), .int .u8 (k : Int)] w fun e w' => ∃ (j : Nat) (y : Bool) (x : ByteArray), e = .returned (.string x) ∧ Rs g tv TE j (!y) many v E w' ∧ Ef g none w w' ∧ j < T.length ∧ i ≤ j ∧ j ≤ i + 1 ∧ Hid (y = (!bad && Rf.kind T i == k)) ∧ Hid (j = if y = true then i + 1 else i) ∧ Hid (x = if y = true then Rf.ba (Rf.text T i) else ⟨#[]⟩) := by
  have hll := hK.length
  have hl := hK.len
  have hi2 : i < TE.length := by omega
  by_cases hA : (!bad && Rf.kind T i == k) = true
  · obtain ⟨hb0, hA1⟩ : bad = false ∧ Rf.kind T i = k := by cases bad <;> simp_all
    subst hb0
    refine (specTakeY g tv TE i many v E w k h (by omega) (by omega) (by rw [hK.kind i hi2]; exact hA1)).mono ?_
    rintro e w1 ⟨rfl, h1', e1⟩
    exact ⟨i + 1, true, TE[i].2.1, rfl, h1', e1, hK.nxt i hi (by rw [hA1]; exact h1) (by rw [hA1]; exact h2), by omega, by omega, by show _ = _; rw [hA], by show _ = _; rfl, by show _ = _; rw [hK.text i hi2]; rfl⟩
  · refine (specTakeN g tv TE i bad many v E w k h (by omega) (by
      rw [hK.kind i hi2]
      cases bad
      · right; simpa using hA
      · exact .inl rfl)).mono ?_
    rintro e w1 ⟨rfl, h1', e1⟩
    exact ⟨i, false, ⟨#[]⟩, rfl, h1', e1, hi, Nat.le_refl _, by omega, by show _ = _; exact (Bool.eq_false_iff.2 hA).symm, by show _ = _; rfl, by show _ = _; rfl⟩
set_option maxRecDepth 20000 in
theorem jNumber (hK : Tks l T TE) (h : Rs g tv TE i bad many v E w) (hi : i < T.length) (m : Nat) :
    Calls Tryz.prog 27 #[.pointer (some ⟨g, 0, none⟩), .int .i64 (m : Int)] w fun e w' => ∃ (j : Nat) (y : Bool) (x : Nat), e = .returned (.int .i64 (x : Int)) ∧ Rs g tv TE j (!y) many v E w' ∧ Ef g none w w' ∧ j < T.length ∧ i ≤ j ∧ j ≤ i + 1 ∧ Hid (y = (!bad && (Rf.kind T i == 110 && decide (Rf.num (Rf.text T i) ≤ m)))) ∧ Hid (j = if y = true then i + 1 else i) ∧ Hid (x = if y = true then Rf.num (Rf.text T i) else 0) := by
  have hll := hK.length
  have hl := hK.len
  have hi2 : i < TE.length := by omega
  have ht : TE[i].2.1.toList = Rf.text T i := by rw [hK.text i hi2, Rf.ba_list]
  by_cases hA : (!bad && (Rf.kind T i == 110 && decide (Rf.num (Rf.text T i) ≤ m))) = true
  · obtain ⟨hb0, hA1, hA2⟩ : bad = false ∧ Rf.kind T i = 110 ∧ Rf.num (Rf.text T i) ≤ m := by cases bad <;> simp_all
    subst hb0
    refine (specNumberY g tv TE i many v E w m h (by omega) (by omega) hK.num (by rw [hK.kind i hi2]; exact hA1) (by rw [ht]; exact hA2)).mono ?_
    rintro e w1 ⟨rfl, h1', e1⟩
    exact ⟨i + 1, true, _, rfl, h1', e1, hK.nxt i hi (by rw [hA1]; decide) (by rw [hA1]; decide), by omega, by omega, by show _ = _; rw [hA], by show _ = _; rfl, by show _ = _; rw [ht]; rfl⟩
  · refine (specNumberN g tv TE i bad many v E w m h (by omega) hK.num (by
      rw [hK.kind i hi2, ht]
      cases bad
      · right
        by_cases hk : Rf.kind T i = 110
        · right
          simp [hk] at hA
          omega
        · exact .inl hk
      · exact .inl rfl)).mono ?_
    rintro e w1 ⟨rfl, h1', e1⟩
    exact ⟨i, false, 0, rfl, h1', e1, hi, Nat.le_refl _, by omega, by show _ = _; exact (Bool.eq_false_iff.2 hA).symm, by show _ = _; rfl, by show _ = _; rfl⟩
set_option maxRecDepth 20000 in
theorem jMatch (hK : Tks l T TE) (h : Rs g tv TE i bad many v E w) (hi : i < T.length) :
    Calls Tryz.prog 68 #[.pointer (some ⟨g, 0, none⟩)] w fun e w' => ∃ (j : Nat) (y : Bool) (x : Int), e = .returned (.int .i64 x) ∧ Rs g tv TE j (!y) many v E w' ∧ Ef g none w w' ∧ j < T.length ∧ i ≤ j ∧ j ≤ i + 1 ∧ Hid (y = (!bad && (Rf.matchOf T i).isSome)) ∧ Hid (j = if y = true then i + 1 else i) ∧ Hid (x = if y = true then (Rf.matchOf T i).getD 0 else 0) := by
  have hll := hK.length
  have hl := hK.len
  have hi2 : i < TE.length := by omega
  have i0 := hK.is i hi 58 Rf.wIs
  have i1 := hK.is i hi 58 Rf.wContains
  have i2 := hK.is i hi 58 Rf.wMatches
  cases bad
  · cases h0 : Rf.is T i 58 Rf.wIs
    · cases h1 : Rf.is T i 58 Rf.wContains
      · cases h2 : Rf.is T i 58 Rf.wMatches
        · refine (specMatchN g tv TE i false many v E w h hi2 (by rw [i0, h0]; rfl) (by rw [i1, h1]; rfl) (by rw [i2, h2]; rfl)).mono ?_
          rintro e w1 ⟨rfl, h1', e1⟩
          exact ⟨i, false, 0, rfl, h1', e1, hi, Nat.le_refl _, by omega, by show _ = _; simp [Rf.matchOf, h0, h1, h2], by show _ = _; rfl, by show _ = _; rfl⟩
        · refine (specMatch2 g tv TE i many v E w h hi2 (by omega) (by rw [i0, h0]) (by rw [i1, h1]) (by rw [i2, h2])).mono ?_
          rintro e w1 ⟨rfl, h1', e1⟩
          exact ⟨i + 1, true, 2, rfl, h1', e1, hK.is_nxt i hi 58 _ h2, by omega, by omega, by show _ = _; simp [Rf.matchOf, h0, h1, h2], by show _ = _; rfl, by show _ = _; simp [Rf.matchOf, h0, h1, h2]⟩
      · refine (specMatch1 g tv TE i many v E w h hi2 (by omega) (by rw [i0, h0]) (by rw [i1, h1])).mono ?_
        rintro e w1 ⟨rfl, h1', e1⟩
        exact ⟨i + 1, true, 1, rfl, h1', e1, hK.is_nxt i hi 58 _ h1, by omega, by omega, by show _ = _; simp [Rf.matchOf, h0, h1], by show _ = _; rfl, by show _ = _; simp [Rf.matchOf, h0, h1]⟩
    · refine (specMatch0 g tv TE i many v E w h hi2 (by omega) (by rw [i0, h0])).mono ?_
      rintro e w1 ⟨rfl, h1', e1⟩
      exact ⟨i + 1, true, 0, rfl, h1', e1, hK.is_nxt i hi 58 _ h0, by omega, by omega, by show _ = _; simp [Rf.matchOf, h0], by show _ = _; rfl, by show _ = _; simp [Rf.matchOf, h0]⟩
  · refine (specMatchN g tv TE i true many v E w h hi2 rfl rfl rfl).mono ?_
    rintro e w1 ⟨rfl, h1', e1⟩
    exact ⟨i, false, 0, rfl, h1', e1, hi, Nat.le_refl _, by omega, by show _ = _; rfl, by show _ = _; rfl, by show _ = _; rfl⟩
end
set_option maxRecDepth 20000 in
/-- Texts: where a reading ends. -/
theorem Rf.tail_le (T : List Rf.Tk) : ∀ (f i : Nat) (L : List ByteArray), (∀ j M, Rf.txtsTail T f i L = .ok j M → i < j) ∧ (∀ j, Rf.txtsTail T f i L = .bad j → i ≤ j)
  | 0, i, L => ⟨fun j M h => by simp [Rf.txtsTail] at h, fun j h => by simp [Rf.txtsTail] at h; omega⟩
  | f + 1, i, L => by
    rw [Rf.txtsTail]
    have ih := Rf.tail_le T f (i + 2) (L ++ [Rf.ba (Rf.text T (i + 1))])
    refine ⟨fun j M h => ?_, fun j h => ?_⟩
    · split at h
      · split at h
        · have := ih.1 j M h; omega
        · cases h
      · split at h
        · cases h; omega
        · cases h
    · split at h
      · split at h
        · have := ih.2 j h; omega
        · cases h; omega
      · split at h
        · cases h
        · cases h; omega
set_option maxRecDepth 20000 in
theorem Rf.txts_le (T : List Rf.Tk) (i : Nat) : (∀ j M, Rf.txts T i = .ok j M → i < j) ∧ (∀ j, Rf.txts T i = .bad j → i ≤ j) := by
  unfold Rf.txts
  have ih := Rf.tail_le T T.length (i + 2) [Rf.ba (Rf.text T (i + 1))]
  refine ⟨fun j M h => ?_, fun j h => ?_⟩
  · split at h
    · split at h
      · have := ih.1 j M h; omega
      · cases h
    · split at h
      · cases h; omega
      · cases h
  · split at h
    · split at h
      · have := ih.2 j h; omega
      · cases h; omega
    · split at h
      · cases h
      · cases h; omega
section
variable {g : Nat} {tv : Value} {l : List UInt8} {T : List Rf.Tk} {TE : List TkE} {i : Nat} {bad many : Bool} {v : Value} {E : List NdE} {w : World}
set_option maxRecDepth 20000 in
theorem jTexts (hK : Tks l T TE) (h : Rs g tv TE i bad many v E w) (hi : i < T.length) :
    Calls Tryz.prog 67 #[.pointer (some ⟨g, 0, none⟩)] w fun e w' => ∃ (o : Option Addr) (c : Nat) (M : List ByteArray) (j : Nat) (bd mn : Bool), e = .returned (.slice o M.length c) ∧ OwnX w.heap.size (.slice o M.length c) M w' ∧ Ef g none w w' ∧ Rs g tv TE j bd mn v E w' ∧ j < T.length ∧ i ≤ j ∧ Hid (bd = true → bad = true ∧ j = i ∨ bad = false ∧ Rf.txts T i = .bad j) ∧ Hid (bd = false → bad = false ∧ Rf.txts T i = .ok j M ∧ mn = (many || decide (100 < M.length))) := by
  refine (specTexts g tv l T TE i bad many v E w hK h hi).mono ?_
  rintro e w' ⟨out, M, j, bd, mn, rfl, hO, he, hr, ht, hj⟩
  obtain ⟨o, c, rfl⟩ := hO.shape
  unfold TxR at ht
  cases bad
  · rw [if_neg (by decide)] at ht
    cases hx : Rf.txts T i with
    | ok j' M' =>
      rw [hx] at ht
      obtain ⟨rfl, rfl, rfl, rfl⟩ := ht
      have := (Rf.txts_le T i).1 _ _ hx
      exact ⟨o, c, M, j, false, _, rfl, hO, he, hr, hj, by omega, fun e => (by cases e), fun _ => ⟨rfl, rfl, rfl⟩⟩
    | bad j' =>
      rw [hx] at ht
      obtain ⟨rfl, rfl⟩ := ht
      have := (Rf.txts_le T i).2 _ hx
      exact ⟨o, c, M, j, true, _, rfl, hO, he, hr, hj, by omega, fun _ => .inr ⟨rfl, rfl⟩, fun e => (by cases e)⟩
  · rw [if_pos rfl] at ht
    obtain ⟨rfl, rfl⟩ := ht
    exact ⟨o, c, M, j, true, _, rfl, hO, he, hr, hj, Nat.le_refl _, fun _ => .inl ⟨rfl, rfl⟩, fun e => (by cases e)⟩
end
end Go.Proofs.YtlphojaeaogehaaGreatDoor
namespace Go.Proofs.YtlphojaeaogehaaGreatDoor
open Go.RowKit Go.Lib Go.Maps
section
variable {g : Nat} {tv : Value} {T : List Rf.Tk} {TE : List TkE} {v v' : Value} {E A : List NdE} {w wr : World} {b : Nat} {n : Nd} {vn vk vd : Value} {i : Nat} {bad many : Bool}
set_option maxRecDepth 20000 in
/-- Texts that were read become a node's names, its keys. -/
theorem Fm.setNames {j : Nat} {bd mn : Bool} {w1 : World} {x : Value} {M : List ByteArray} (h : Fm g tv TE v E w b n vn vk vd i bad many v' A wr) (h1 : Rs g tv TE j bd mn v' (E ++ A) w1) (e1 : Ef g none wr w1) (hO : OwnX wr.heap.size x M w1) :
    Fm g tv TE v E w b { n with names := M } x vk vd j bd mn v' A (w1.setCell ⟨b, 4, none⟩ x) := by
  have h' := h.small h1 e1
  have far : ∀ k, x.ownBlock = some k → wr.heap.size ≤ k := fun k hk => (World.ownsRow.lt hO k hk).1
  refine h'.poke 4 x { n with names := M } x vk vd rfl (own_base hO h.ef.size) h'.ok h'.od ?_ ?_ h'.fk h'.fd
  · cases hx : x.ownBlock with
    | none => exact .inl rfl
    | some k => exact .inr (fun e => by have := (World.ownsRow.lt h.ok k e.symm).2; have := far k hx; omega)
  · intro s hs
    by_cases hn : s.2 = []
    · exact .inl hn
    · right
      cases ho : s.1.ownBlock with
      | none => exact .inl rfl
      | some k => exact .inr (fun e => by have := slot_lt h.rs.nt s hs hn k ho; have := far k e.symm; omega)
set_option maxRecDepth 20000 in
theorem Fm.setKeys {j : Nat} {bd mn : Bool} {w1 : World} {x : Value} {M : List ByteArray} (h : Fm g tv TE v E w b n vn vk vd i bad many v' A wr) (h1 : Rs g tv TE j bd mn v' (E ++ A) w1) (e1 : Ef g none wr w1) (hO : OwnX wr.heap.size x M w1) :
    Fm g tv TE v E w b { n with keys := M } vn x vd j bd mn v' A (w1.setCell ⟨b, 5, none⟩ x) := by
  have h' := h.small h1 e1
  have far : ∀ k, x.ownBlock = some k → wr.heap.size ≤ k := fun k hk => (World.ownsRow.lt hO k hk).1
  refine h'.poke 5 x { n with keys := M } vn x vd rfl h'.on (own_base hO h.ef.size) h'.od ?_ h'.fn ?_ h'.fd
  · cases hx : vn.ownBlock with
    | none => exact .inl rfl
    | some k => exact .inr (fun e => by have := (World.ownsRow.lt h.on k hx).2; have := far k e.symm; omega)
  · intro s hs
    by_cases hn : s.2 = []
    · exact .inl hn
    · right
      cases ho : s.1.ownBlock with
      | none => exact .inl rfl
      | some k => exact .inr (fun e => by have := slot_lt h.rs.nt s hs hn k ho; have := far k e.symm; omega)
set_option maxRecDepth 20000 in
theorem Fm.frz (h : Fm g tv TE v E w b n vn vk vd i bad many v' A wr) (j : Nat) : wr.frozen? ⟨b, j, none⟩ = false := by simp [World.frozen?, h.blk]
end

set_option maxRecDepth 20000 in
theorem Rf.tst_20 (T : List Rf.Tk) (t : Nat → List Nd → Rf.Out) (i : Nat) (N : List Nd) (hk : Rf.kind T i = 119) (hw : Rf.tstK (Rf.text T i) = 20) : Rf.tst T t i N = .ok (i + 1) (N ++ [Rf.zn 20]) := by
  unfold Rf.tst
  rw [hk, hw]
  rfl

set_option maxRecDepth 20000 in
theorem Rf.tst_21 (T : List Rf.Tk) (t : Nat → List Nd → Rf.Out) (i : Nat) (N : List Nd) (hk : Rf.kind T i = 119) (hw : Rf.tstK (Rf.text T i) = 21) : Rf.tst T t i N = .ok (i + 1) (N ++ [Rf.zn 21]) := by
  unfold Rf.tst
  rw [hk, hw]
  rfl

set_option maxRecDepth 20000 in
set_option maxHeartbeats 8000000 in
theorem specTest20 (g : Nat) (tv : Value) (l : List UInt8) (T : List Rf.Tk) (TE : List TkE) (f : Nat) (t : Nat → List Nd → Rf.Out) (hK : Tks l T TE) (hT : T.length ≤ 30000) (i : Nat) (many : Bool) (v : Value) (E : List NdE) (w : World) (h : Rs g tv TE i false many v E w) (hi : i < T.length) (_hf : T.length ≤ i + (f + 1)) (hE : E.length ≤ 3 * i + 5) (hk : Rf.kind T i = 119) (hw : Rf.tstK (Rf.text T i) = 20) :
    Calls Tryz.prog 47 #[.pointer (some ⟨g, 0, none⟩)] w fun e w' => ∃ z A i' bad' many' v', e = .returned (.int .i64 z) ∧ RdP g tv T TE 0 (Rf.tst T t) i false many v E w z A i' bad' many' v' w' := by
  obtain ⟨R, hR⟩ : ∃ R, R = Rf.given false i (Rf.tst T t i (E.map (·.1))) := ⟨_, rfl⟩
  have HR := mkHid hR
  have H0 := mkHid (Rf.tst_20 T t i (E.map (·.1)) hk hw)
  have hgl := heap_ltM h.blk
  have hll := hK.length
  have hl := hK.len
  have hi2 : i < TE.length := by omega
  have hnx : i + 1 < T.length := hK.nxt i hi (by rw [hk]; decide) (by rw [hk]; decide)
  have hC : ∀ W : World, Calls Tryz.prog 66 #[.string TE[i].2.1] W fun e w' => e = .returned (.int .i64 20) ∧ w' = W := fun W => (specTstW TE[i].2.1 W).mono fun _ _ h => ⟨by rw [h.1, hK.text i hi2, Rf.ba_list, hw], h.2.symm⟩
  have cT : ∀ W : World, Below w.heap.size w W → _ := fun W hb => specTakeY g tv TE i many v E W 119 (h.below hb) hi2 (by omega) (by rw [hK.kind i hi2]; exact hk)
  have hk1 : ((TE[i].1 : Int) != 119) = false := by rw [bne_eq_false_iff_eq, hK.kind i hi2, hk]; rfl
  obtain ⟨c0, c1, c2, c3, c4⟩ := five h.blk
  obtain ⟨o, cap, htv⟩ := h.tks.shape
  have htk := h.tks
  rw [htv] at htk c0
  obtain ⟨q, ho, -, -, e0, e1, e2⟩ := htk.at i hi2
  subst ho
  clear htk htv
  have hii : (i : Int) < (TE.length : Int) := by omega
  generalize TE[i].1 = k1 at *
  generalize TE[i].2.1 = t1 at *
  replace hC := mkHid hC
  replace cT := mkHid cT
  have HK := mkHid hK
  have HE := mkHid hE
  clear h hk hw hR hK hE
  go_enter Tryz.func47, Tryz.ntmps47
  go_wp2
  go_quiet (exact Calls.quiet_of_same (hC.out _))
  go_wp2_with (go_at_call 30; fail)
  refine (cT.out _ (below_drewN (Below.refl _ _) _)).mono ?_
  rintro e w1 ⟨rfl, h1, e1⟩
  replace h1 := mkHid h1
  replace e1 := mkHid (Ef.ahead (below_drewN (Below.refl _ _) _) e1)
  go_wp2_with (go_at_call 66; fail)
  refine (hC.out _).mono ?_
  rintro e w2 ⟨rfl, rfl⟩
  obtain ⟨B, hB⟩ : ∃ B, w2.heap.size = B := ⟨_, rfl⟩
  have S0 := mkHid (Fm.start hgl h1.out e1.out 20)
  rw [hB] at S0
  obtain ⟨W0, hW0⟩ : ∃ W0, w2.alloc (.cells #[.int .i64 20, .int .i64 0, .int .i64 0, .string ⟨#[]⟩, .slice none 0 0, .slice none 0 0, .slice none 0 0] 37) = W0 := ⟨_, rfl⟩
  rw [show w2.alloc (.cells (sevC (Rf.zn 20) (.slice none 0 0) (.slice none 0 0) (.slice none 0 0)) 37) = W0 from hW0] at S0
  have HW0 := mkHid hW0
  have HB := mkHid hB
  clear h1 hC cT e0 e1 e2 c0 c1 c2 c3 c4 hii hk1 hW0 hB
  have hbk := S0.out.blk
  have d0 : W0.cell? ⟨B, 0, none⟩ = some (.int .i64 20) := by simp [World.cell?, hbk]; try rfl
  have d1 : W0.cell? ⟨B, 1, none⟩ = some (.int .i64 0) := by simp [World.cell?, hbk]; try rfl
  have d2 : W0.cell? ⟨B, 2, none⟩ = some (.int .i64 0) := by simp [World.cell?, hbk]; try rfl
  have d3 : W0.cell? ⟨B, 3, none⟩ = some (.string ⟨#[]⟩) := by simp [World.cell?, hbk]; try rfl
  have d4 : W0.cell? ⟨B, 4, none⟩ = some (.slice none 0 0) := by simp [World.cell?, hbk]; try rfl
  have d5 : W0.cell? ⟨B, 5, none⟩ = some (.slice none 0 0) := by simp [World.cell?, hbk]; try rfl
  have d6 : W0.cell? ⟨B, 6, none⟩ = some (.slice none 0 0) := by simp [World.cell?, hbk]; try rfl
  clear hbk
  go_wp2_with fail
  rw [HW0.out, HB.out]
  have kP := mkHid (S0.out.put (by have := HE.out; first | omega | (simp; omega)))
  clear S0
  go_wp2_with (go_at_call 11; fail)
  refine kP.out.mono ?_
  rintro e w9 ⟨rfl, v9, h9, e9, n9, f9, g9⟩
  clear d0 d1 d2 d3 d4 d5 d6 kP
  go_wp2
  go_ret
  exact ⟨_, _, i + 1, false, many, v9, rfl, RdP.mk2 R HR.out h9 e9 n9 f9 g9 hnx (by omega) (by simp; omega) (fun _ => ⟨by simp; omega, by omega⟩) (fun e => (by cases e)) (fun _ => ⟨by rw [HR.out, Rf.given, if_neg (by decide), H0.out]; simp, by simp [Rf.last], by simp [big, Rf.zn]⟩)⟩
set_option maxRecDepth 20000 in
set_option maxHeartbeats 8000000 in
theorem specTest21 (g : Nat) (tv : Value) (l : List UInt8) (T : List Rf.Tk) (TE : List TkE) (f : Nat) (t : Nat → List Nd → Rf.Out) (hK : Tks l T TE) (hT : T.length ≤ 30000) (i : Nat) (many : Bool) (v : Value) (E : List NdE) (w : World) (h : Rs g tv TE i false many v E w) (hi : i < T.length) (_hf : T.length ≤ i + (f + 1)) (hE : E.length ≤ 3 * i + 5) (hk : Rf.kind T i = 119) (hw : Rf.tstK (Rf.text T i) = 21) :
    Calls Tryz.prog 47 #[.pointer (some ⟨g, 0, none⟩)] w fun e w' => ∃ z A i' bad' many' v', e = .returned (.int .i64 z) ∧ RdP g tv T TE 0 (Rf.tst T t) i false many v E w z A i' bad' many' v' w' := by
  obtain ⟨R, hR⟩ : ∃ R, R = Rf.given false i (Rf.tst T t i (E.map (·.1))) := ⟨_, rfl⟩
  have HR := mkHid hR
  have H0 := mkHid (Rf.tst_21 T t i (E.map (·.1)) hk hw)
  have hgl := heap_ltM h.blk
  have hll := hK.length
  have hl := hK.len
  have hi2 : i < TE.length := by omega
  have hnx : i + 1 < T.length := hK.nxt i hi (by rw [hk]; decide) (by rw [hk]; decide)
  have hC : ∀ W : World, Calls Tryz.prog 66 #[.string TE[i].2.1] W fun e w' => e = .returned (.int .i64 21) ∧ w' = W := fun W => (specTstW TE[i].2.1 W).mono fun _ _ h => ⟨by rw [h.1, hK.text i hi2, Rf.ba_list, hw], h.2.symm⟩
  have cT : ∀ W : World, Below w.heap.size w W → _ := fun W hb => specTakeY g tv TE i many v E W 119 (h.below hb) hi2 (by omega) (by rw [hK.kind i hi2]; exact hk)
  have hk1 : ((TE[i].1 : Int) != 119) = false := by rw [bne_eq_false_iff_eq, hK.kind i hi2, hk]; rfl
  obtain ⟨c0, c1, c2, c3, c4⟩ := five h.blk
  obtain ⟨o, cap, htv⟩ := h.tks.shape
  have htk := h.tks
  rw [htv] at htk c0
  obtain ⟨q, ho, -, -, e0, e1, e2⟩ := htk.at i hi2
  subst ho
  clear htk htv
  have hii : (i : Int) < (TE.length : Int) := by omega
  generalize TE[i].1 = k1 at *
  generalize TE[i].2.1 = t1 at *
  replace hC := mkHid hC
  replace cT := mkHid cT
  have HK := mkHid hK
  have HE := mkHid hE
  clear h hk hw hR hK hE
  go_enter Tryz.func47, Tryz.ntmps47
  go_wp2
  go_quiet (exact Calls.quiet_of_same (hC.out _))
  go_wp2_with (go_at_call 30; fail)
  refine (cT.out _ (below_drewN (Below.refl _ _) _)).mono ?_
  rintro e w1 ⟨rfl, h1, e1⟩
  replace h1 := mkHid h1
  replace e1 := mkHid (Ef.ahead (below_drewN (Below.refl _ _) _) e1)
  go_wp2_with (go_at_call 66; fail)
  refine (hC.out _).mono ?_
  rintro e w2 ⟨rfl, rfl⟩
  obtain ⟨B, hB⟩ : ∃ B, w2.heap.size = B := ⟨_, rfl⟩
  have S0 := mkHid (Fm.start hgl h1.out e1.out 21)
  rw [hB] at S0
  obtain ⟨W0, hW0⟩ : ∃ W0, w2.alloc (.cells #[.int .i64 21, .int .i64 0, .int .i64 0, .string ⟨#[]⟩, .slice none 0 0, .slice none 0 0, .slice none 0 0] 37) = W0 := ⟨_, rfl⟩
  rw [show w2.alloc (.cells (sevC (Rf.zn 21) (.slice none 0 0) (.slice none 0 0) (.slice none 0 0)) 37) = W0 from hW0] at S0
  have HW0 := mkHid hW0
  have HB := mkHid hB
  clear h1 hC cT e0 e1 e2 c0 c1 c2 c3 c4 hii hk1 hW0 hB
  have hbk := S0.out.blk
  have d0 : W0.cell? ⟨B, 0, none⟩ = some (.int .i64 21) := by simp [World.cell?, hbk]; try rfl
  have d1 : W0.cell? ⟨B, 1, none⟩ = some (.int .i64 0) := by simp [World.cell?, hbk]; try rfl
  have d2 : W0.cell? ⟨B, 2, none⟩ = some (.int .i64 0) := by simp [World.cell?, hbk]; try rfl
  have d3 : W0.cell? ⟨B, 3, none⟩ = some (.string ⟨#[]⟩) := by simp [World.cell?, hbk]; try rfl
  have d4 : W0.cell? ⟨B, 4, none⟩ = some (.slice none 0 0) := by simp [World.cell?, hbk]; try rfl
  have d5 : W0.cell? ⟨B, 5, none⟩ = some (.slice none 0 0) := by simp [World.cell?, hbk]; try rfl
  have d6 : W0.cell? ⟨B, 6, none⟩ = some (.slice none 0 0) := by simp [World.cell?, hbk]; try rfl
  clear hbk
  go_wp2_with fail
  rw [HW0.out, HB.out]
  have kP := mkHid (S0.out.put (by have := HE.out; first | omega | (simp; omega)))
  clear S0
  go_wp2_with (go_at_call 11; fail)
  refine kP.out.mono ?_
  rintro e w9 ⟨rfl, v9, h9, e9, n9, f9, g9⟩
  clear d0 d1 d2 d3 d4 d5 d6 kP
  go_wp2
  go_ret
  exact ⟨_, _, i + 1, false, many, v9, rfl, RdP.mk2 R HR.out h9 e9 n9 f9 g9 hnx (by omega) (by simp; omega) (fun _ => ⟨by simp; omega, by omega⟩) (fun e => (by cases e)) (fun _ => ⟨by rw [HR.out, Rf.given, if_neg (by decide), H0.out]; simp, by simp [Rf.last], by simp [big, Rf.zn]⟩)⟩
def Rf.notEnd : Rf.Out → Rf.Out
  | .ok i' N' => .ok i' (N' ++ [{ Rf.zn 22 with kids := [Rf.last N'] }])
  | .bad j => .bad j
set_option maxRecDepth 20000 in
theorem Rf.tst_22 (T : List Rf.Tk) (t : Nat → List Nd → Rf.Out) (i : Nat) (N : List Nd) (hk : Rf.kind T i = 119) (hw : Rf.tstK (Rf.text T i) = 22) : Rf.tst T t i N = Rf.notEnd (t (i + 1) N) := by
  unfold Rf.tst
  rw [hk, hw]
  show (match t (i + 1) N with | .ok i' N' => _ | .bad j => _) = _
  cases t (i + 1) N <;> rfl
set_option maxRecDepth 20000 in
set_option maxHeartbeats 8000000 in
theorem specTest22 (g : Nat) (tv : Value) (l : List UInt8) (T : List Rf.Tk) (TE : List TkE) (f : Nat) (t : Nat → List Nd → Rf.Out) (hK : Tks l T TE) (hT : T.length ≤ 30000) (hTst : RdC 47 g tv T TE 0 f t) (i : Nat) (many : Bool) (v : Value) (E : List NdE) (w : World) (h : Rs g tv TE i false many v E w) (hi : i < T.length) (hf : T.length ≤ i + (f + 1)) (hE : E.length ≤ 3 * i + 5) (hk : Rf.kind T i = 119) (hw : Rf.tstK (Rf.text T i) = 22) :
    Calls Tryz.prog 47 #[.pointer (some ⟨g, 0, none⟩)] w fun e w' => ∃ z A i' bad' many' v', e = .returned (.int .i64 z) ∧ RdP g tv T TE 0 (Rf.tst T t) i false many v E w z A i' bad' many' v' w' := by
  obtain ⟨R, hR⟩ : ∃ R, R = Rf.given false i (Rf.tst T t i (E.map (·.1))) := ⟨_, rfl⟩
  have HR := mkHid hR
  have H0 := mkHid (Rf.tst_22 T t i (E.map (·.1)) hk hw)
  have hgl := heap_ltM h.blk
  have hll := hK.length
  have hl := hK.len
  have hi2 : i < TE.length := by omega
  have hnx : i + 1 < T.length := hK.nxt i hi (by rw [hk]; decide) (by rw [hk]; decide)
  have hC : ∀ W : World, Calls Tryz.prog 66 #[.string TE[i].2.1] W fun e w' => e = .returned (.int .i64 22) ∧ w' = W := fun W => (specTstW TE[i].2.1 W).mono fun _ _ h => ⟨by rw [h.1, hK.text i hi2, Rf.ba_list, hw], h.2.symm⟩
  have cT : ∀ W : World, Below w.heap.size w W → _ := fun W hb => specTakeY g tv TE i many v E W 119 (h.below hb) hi2 (by omega) (by rw [hK.kind i hi2]; exact hk)
  have hk1 : ((TE[i].1 : Int) != 119) = false := by rw [bne_eq_false_iff_eq, hK.kind i hi2, hk]; rfl
  obtain ⟨c0, c1, c2, c3, c4⟩ := five h.blk
  obtain ⟨o, cap, htv⟩ := h.tks.shape
  have htk := h.tks
  rw [htv] at htk c0
  obtain ⟨q, ho, -, -, e0, e1, e2⟩ := htk.at i hi2
  subst ho
  clear htk htv
  have hii : (i : Int) < (TE.length : Int) := by omega
  generalize TE[i].1 = k1 at *
  generalize TE[i].2.1 = t1 at *
  replace hC := mkHid hC
  replace cT := mkHid cT
  have HK := mkHid hK
  have HE := mkHid hE
  have HTst := mkHid hTst
  clear hTst
  clear h hk hw hR hK hE
  go_enter Tryz.func47, Tryz.ntmps47
  go_wp2
  go_quiet (exact Calls.quiet_of_same (hC.out _))
  go_wp2_with (go_at_call 30; fail)
  refine (cT.out _ (below_drewN (Below.refl _ _) _)).mono ?_
  rintro e w1 ⟨rfl, h1, e1⟩
  replace h1 := mkHid h1
  replace e1 := mkHid (Ef.ahead (below_drewN (Below.refl _ _) _) e1)
  go_wp2_with (go_at_call 66; fail)
  refine (hC.out _).mono ?_
  rintro e w2 ⟨rfl, rfl⟩
  obtain ⟨B, hB⟩ : ∃ B, w2.heap.size = B := ⟨_, rfl⟩
  have S0 := mkHid (Fm.start hgl h1.out e1.out 22)
  rw [hB] at S0
  obtain ⟨W0, hW0⟩ : ∃ W0, w2.alloc (.cells #[.int .i64 22, .int .i64 0, .int .i64 0, .string ⟨#[]⟩, .slice none 0 0, .slice none 0 0, .slice none 0 0] 37) = W0 := ⟨_, rfl⟩
  rw [show w2.alloc (.cells (sevC (Rf.zn 22) (.slice none 0 0) (.slice none 0 0) (.slice none 0 0)) 37) = W0 from hW0] at S0
  have HW0 := mkHid hW0
  have HB := mkHid hB
  clear h1 hC cT e0 e1 e2 c0 c1 c2 c3 c4 hii hk1 hW0 hB
  obtain ⟨ks0, A0, vd0, hks0, hA0, S0⟩ : ∃ (ks0 : List Int) (A0 : List NdE) (vd0 : Value), Hid (ks0 = []) ∧ Hid (A0 = []) ∧ Hid (Fm g tv TE v E w B { Rf.zn 22 with kids := ks0 } (.slice none 0 0) (.slice none 0 0) vd0 (i + 1) false many v A0 W0) := ⟨[], [], .slice none 0 0, rfl, rfl, S0⟩
  have hl0 : A0.length < 1 := by rw [hA0.out]; decide
  have hk0 : ks0.length ≤ 5 := by rw [hks0.out]; decide
  go_wp2
  rw [HW0.out, HB.out]
  obtain ⟨RR, hRR⟩ : ∃ RR : Act → Act → World → Prop, RR = (fun a a' w' => ∃ (z1 : Int) (X1 : List NdE) (j1 : Nat) (bd1 mn1 : Bool) (v1 vd1 : Value) (hh1 : Nat) (u1 : World), a' = (((((((a.put (some 48) (.pointer (some ⟨B, 6, none⟩))).put (some 49) vd0).put (some 50) (.pointer (some ⟨g, 0, none⟩))).put (some 51) (.int .i64 z1)).put (some 52) (.slice (some ⟨hh1, 0, none⟩) 1 1)).put (some 53) vd1).put (some 54) (.pointer (some ⟨B, 6, none⟩))) ∧ Hid (Fm g tv TE v E w B { Rf.zn 22 with kids := ks0 ++ [z1] } (.slice none 0 0) (.slice none 0 0) vd1 j1 bd1 mn1 v1 (A0 ++ X1) w') ∧ Hid (RdP g tv T TE 0 t (i + 1) false many v (E ++ A0) W0.drew z1 X1 j1 bd1 mn1 v1 u1)) := ⟨_, rfl⟩
  have HRR := mkHid hRR
  clear hRR
  refine wp_cut RR ?_ ?_
  · have SD := mkHid (S0.out.small (S0.out.rs.below (below_drew (Below.refl _ _))) (Ef.of_below (below_drew (Below.refl _ _))))
    have kC := mkHid (HTst.out (i + 1) false many v (E ++ A0) W0.drew SD.out.rs hnx (by omega) (by have := HE.out; rw [List.length_append]; omega))
    obtain ⟨oD, cD, eD⟩ := own_shape S0.out.od
    subst eD
    have y0 : W0.cell? ⟨B, 6, none⟩ = some (.slice oD ks0.length cD) := by simp [World.cell?, S0.out.blk]
    refine wp_region_any (by kernel_rfl) ?_
    refine wpAny_take (i := 0) (v := (.pointer (some ⟨B, 6, none⟩))) rfl (by kernel_rfl) (by kernel_rfl) (by kernel_rfl) (fun _ _ _ h => nomatch h.1) (Or.inl ⟨by rfl, ?_⟩) ?_
    · intro w
      go_simp
      all_goals first | done | (intro h; exfalso; omega) | omega
    go_simp
    refine wpAny_take (i := 2) (v := (.pointer (some ⟨g, 0, none⟩))) rfl (by kernel_rfl) (by kernel_rfl) (by kernel_rfl) (fun _ _ _ h => nomatch h.1) (Or.inl ⟨by rfl, ?_⟩) ?_
    · intro w
      go_simp
      all_goals first | done | (intro h; exfalso; omega) | omega
    go_simp
    refine wpAny_ready (rs := [1, 3]) (by kernel_rfl) (by simp) ?_
    refine AllReady.cons rfl (fun K hK => ?_) (AllReady.cons rfl (fun K hK => ?_) AllReady.nil)
    · skip
      go_simp
      refine hK _ _ ?_
      clear hK K
      go_simp
      refine wpAny_ready (rs := [3]) (by kernel_rfl) (by simp) ?_
      refine AllReady.cons rfl (fun K hK => ?_) AllReady.nil
      go_simp
      refine kC.out.mono ?_
      rintro e u1 ⟨z1, X1, j1, bd1, mn1, v1, rfl, hp⟩
      have S3 := mkHid (SD.out.call hp)
      have P1 := mkHid hp
      clear hp
      have y3 : u1.cell? ⟨B, 6, none⟩ = some (.slice oD ks0.length cD) := by simp [World.cell?, S3.out.blk]
      have y4 : (u1.alloc (.cells #[.int .i64 z1] 2)).cell? ⟨B, 6, none⟩ = some (.slice oD ks0.length cD) := (World.cell?_of_block (((Below.refl u1.heap.size u1).alloc (Nat.le_refl _) _).block B (heap_ltM S3.out.blk))).trans y3
      go_simp
      refine hK _ _ ?_
      clear hK K
      go_simp
      refine wpAny_ready (rs := [4]) (by kernel_rfl) (by simp) ?_
      refine AllReady.cons rfl (fun K hK => ?_) AllReady.nil
      go_simp
      refine hK _ _ ?_
      clear hK K
      go_simp
      refine wpAny_ready (rs := [5]) (by kernel_rfl) (by simp) ?_
      refine AllReady.cons rfl (fun K hK => ?_) AllReady.nil
      refine opAppKd _ _ rfl w.heap.size (.slice oD ks0.length cD) ks0 rfl (S3.out.od.below ((Below.refl _ _).alloc (Nat.le_refl _) _)) z1 u1.heap.size 1 rfl (by simp) (by omega) (by have := S3.out.ef.size; simp; omega) ?_
      intro vd1 w4 ho4 hg4 hn4
      obtain ⟨x6, z6, s5⟩ := S3.out.kid ho4 hg4 hn4
      obtain ⟨o5, c5, e5⟩ := own_shape ho4
      rw [List.length_append, List.length_singleton] at e5
      subst e5
      have S1 := mkHid s5
      clear s5 ho4 hg4 hn4
      refine hK _ _ ?_
      clear hK K
      go_simp
      refine wpAny_take (i := 6) (v := (.pointer (some ⟨B, 6, none⟩))) rfl (by kernel_rfl) (by kernel_rfl) (by kernel_rfl) (fun _ _ _ h => nomatch h.1) (Or.inl ⟨by rfl, ?_⟩) ?_
      · intro w
        go_simp
        all_goals first | done | (intro h; exfalso; omega) | omega
      go_simp
      refine wpAny_ready (rs := [7]) (by kernel_rfl) (by simp) ?_
      refine AllReady.cons rfl (fun K hK => ?_) AllReady.nil
      go_simp
      refine hK _ _ ?_
      clear hK K
      go_simp
      refine wpAny_done (by kernel_rfl) ?_ _
      first | refine ⟨rfl, ?_⟩ | skip
      rw [HRR.out]
      exact ⟨z1, X1, j1, bd1, mn1, v1, .slice o5 (ks0.length + 1) c5, u1.heap.size, u1, by kernel_rfl, S1, P1⟩
    · skip
      go_simp
      refine kC.out.mono ?_
      rintro e u1 ⟨z1, X1, j1, bd1, mn1, v1, rfl, hp⟩
      have S3 := mkHid (SD.out.call hp)
      have P1 := mkHid hp
      clear hp
      have y3 : u1.cell? ⟨B, 6, none⟩ = some (.slice oD ks0.length cD) := by simp [World.cell?, S3.out.blk]
      have y4 : (u1.alloc (.cells #[.int .i64 z1] 2)).cell? ⟨B, 6, none⟩ = some (.slice oD ks0.length cD) := (World.cell?_of_block (((Below.refl u1.heap.size u1).alloc (Nat.le_refl _) _).block B (heap_ltM S3.out.blk))).trans y3
      go_simp
      refine hK _ _ ?_
      clear hK K
      go_simp
      refine wpAny_ready (rs := [1, 4]) (by kernel_rfl) (by simp) ?_
      refine AllReady.cons rfl (fun K hK => ?_) (AllReady.cons rfl (fun K hK => ?_) AllReady.nil)
      · skip
        go_simp
        refine hK _ _ ?_
        clear hK K
        go_simp
        refine wpAny_ready (rs := [4]) (by kernel_rfl) (by simp) ?_
        refine AllReady.cons rfl (fun K hK => ?_) AllReady.nil
        go_simp
        refine hK _ _ ?_
        clear hK K
        go_simp
        refine wpAny_ready (rs := [5]) (by kernel_rfl) (by simp) ?_
        refine AllReady.cons rfl (fun K hK => ?_) AllReady.nil
        refine opAppKd _ _ rfl w.heap.size (.slice oD ks0.length cD) ks0 rfl (S3.out.od.below ((Below.refl _ _).alloc (Nat.le_refl _) _)) z1 u1.heap.size 1 rfl (by simp) (by omega) (by have := S3.out.ef.size; simp; omega) ?_
        intro vd1 w4 ho4 hg4 hn4
        obtain ⟨x6, z6, s5⟩ := S3.out.kid ho4 hg4 hn4
        obtain ⟨o5, c5, e5⟩ := own_shape ho4
        rw [List.length_append, List.length_singleton] at e5
        subst e5
        have S1 := mkHid s5
        clear s5 ho4 hg4 hn4
        refine hK _ _ ?_
        clear hK K
        go_simp
        refine wpAny_take (i := 6) (v := (.pointer (some ⟨B, 6, none⟩))) rfl (by kernel_rfl) (by kernel_rfl) (by kernel_rfl) (fun _ _ _ h => nomatch h.1) (Or.inl ⟨by rfl, ?_⟩) ?_
        · intro w
          go_simp
          all_goals first | done | (intro h; exfalso; omega) | omega
        go_simp
        refine wpAny_ready (rs := [7]) (by kernel_rfl) (by simp) ?_
        refine AllReady.cons rfl (fun K hK => ?_) AllReady.nil
        go_simp
        refine hK _ _ ?_
        clear hK K
        go_simp
        refine wpAny_done (by kernel_rfl) ?_ _
        first | refine ⟨rfl, ?_⟩ | skip
        rw [HRR.out]
        exact ⟨z1, X1, j1, bd1, mn1, v1, .slice o5 (ks0.length + 1) c5, u1.heap.size, u1, by kernel_rfl, S1, P1⟩
      · skip
        go_simp
        refine hK _ _ ?_
        clear hK K
        go_simp
        refine wpAny_ready (rs := [1]) (by kernel_rfl) (by simp) ?_
        refine AllReady.cons rfl (fun K hK => ?_) AllReady.nil
        go_simp
        refine hK _ _ ?_
        clear hK K
        go_simp
        refine wpAny_ready (rs := [5]) (by kernel_rfl) (by simp) ?_
        refine AllReady.cons rfl (fun K hK => ?_) AllReady.nil
        refine opAppKd _ _ rfl w.heap.size (.slice oD ks0.length cD) ks0 rfl (S3.out.od.below ((Below.refl _ _).alloc (Nat.le_refl _) _)) z1 u1.heap.size 1 rfl (by simp) (by omega) (by have := S3.out.ef.size; simp; omega) ?_
        intro vd1 w4 ho4 hg4 hn4
        obtain ⟨x6, z6, s5⟩ := S3.out.kid ho4 hg4 hn4
        obtain ⟨o5, c5, e5⟩ := own_shape ho4
        rw [List.length_append, List.length_singleton] at e5
        subst e5
        have S1 := mkHid s5
        clear s5 ho4 hg4 hn4
        refine hK _ _ ?_
        clear hK K
        go_simp
        refine wpAny_take (i := 6) (v := (.pointer (some ⟨B, 6, none⟩))) rfl (by kernel_rfl) (by kernel_rfl) (by kernel_rfl) (fun _ _ _ h => nomatch h.1) (Or.inl ⟨by rfl, ?_⟩) ?_
        · intro w
          go_simp
          all_goals first | done | (intro h; exfalso; omega) | omega
        go_simp
        refine wpAny_ready (rs := [7]) (by kernel_rfl) (by simp) ?_
        refine AllReady.cons rfl (fun K hK => ?_) AllReady.nil
        go_simp
        refine hK _ _ ?_
        clear hK K
        go_simp
        refine wpAny_done (by kernel_rfl) ?_ _
        first | refine ⟨rfl, ?_⟩ | skip
        rw [HRR.out]
        exact ⟨z1, X1, j1, bd1, mn1, v1, .slice o5 (ks0.length + 1) c5, u1.heap.size, u1, by kernel_rfl, S1, P1⟩
  rw [HRR.out]
  clear HRR RR
  rintro a' W1 ⟨z1, X1, j1, bd1, mn1, v1, vd1, hh1, u1, rfl, S1, P1⟩
  obtain ⟨ks1, hks1⟩ : ∃ x, ks0 ++ [z1] = x := ⟨_, rfl⟩
  obtain ⟨A1, hA1⟩ : ∃ x, A0 ++ X1 = x := ⟨_, rfl⟩
  rw [hks1, hA1] at S1
  have q1 := mkHid P1.out.res
  have hlt1 := P1.out.lt
  have hle1 := P1.out.le
  have hcn1 := P1.out.cnt
  have hc01 := mkHid P1.out.cnt0
  have hl1 : A1.length = A0.length + X1.length := by rw [← hA1, List.length_append]
  replace hks1 := mkHid hks1
  replace hA1 := mkHid hA1
  clear P1 S0
  have G1 : Hid ((bd1 = true → R = .bad j1) ∧ (bd1 = false → R = .ok j1 ((E ++ A1).map (·.1) ++ [{ Rf.zn 22 with kids := ks1 }]) ∧ mn1 = (many || big A1))) := by
    have q := q1.out
    have hA := hA1.out
    have hk := hks1.out
    rw [hA0.out] at q hA
    rw [hks0.out] at hk
    rw [List.append_nil] at q
    rw [List.nil_append] at hA hk
    rw [hA] at q
    refine ⟨fun e => ?_, fun e => ?_⟩
    · have q := q.1 e
      rw [Rf.given, if_neg (by decide)] at q
      rw [HR.out, Rf.given, if_neg (by decide), H0.out, q]
      rfl
    · obtain ⟨-, q1, q2, q3⟩ := q.2 e
      refine ⟨?_, q3⟩
      rw [HR.out, Rf.given, if_neg (by decide), H0.out, q1, ← hk, q2]
      rfl
  clear q1
  obtain ⟨oD, cD, eD⟩ := own_shape S1.out.od
  subst eD
  have hbk := S1.out.blk
  have d0 : W1.cell? ⟨B, 0, none⟩ = some (.int .i64 22) := by simp [World.cell?, hbk]; try rfl
  have d1 : W1.cell? ⟨B, 1, none⟩ = some (.int .i64 0) := by simp [World.cell?, hbk]; try rfl
  have d2 : W1.cell? ⟨B, 2, none⟩ = some (.int .i64 0) := by simp [World.cell?, hbk]; try rfl
  have d3 : W1.cell? ⟨B, 3, none⟩ = some (.string ⟨#[]⟩) := by simp [World.cell?, hbk]; try rfl
  have d4 : W1.cell? ⟨B, 4, none⟩ = some (.slice none 0 0) := by simp [World.cell?, hbk]; try rfl
  have d5 : W1.cell? ⟨B, 5, none⟩ = some (.slice none 0 0) := by simp [World.cell?, hbk]; try rfl
  have d6 : W1.cell? ⟨B, 6, none⟩ = some (.slice oD ks1.length cD) := by simp [World.cell?, hbk]; try rfl
  clear hbk
  have kP := mkHid (S1.out.put (by have := HE.out; first | omega | (simp; omega)))
  clear S1
  go_wp2_with (go_at_call 11; fail)
  refine kP.out.mono ?_
  rintro e w9 ⟨rfl, v9, h9, e9, n9, f9, g9⟩
  clear d0 d1 d2 d3 d4 d5 d6 kP
  go_wp2
  go_ret
  exact ⟨_, _, j1, bd1, mn1, v9, rfl, RdP.mk2 R HR.out h9 e9 n9 f9 g9 hlt1 (by omega) (by simp; omega) (fun e => ⟨by have := hc01.out e; simp; omega, by omega⟩) G1.out.1 (fun e => ⟨by rw [(G1.out.2 e).1]; simp, by simp [Rf.last]; try omega, by rw [(G1.out.2 e).2, big_app]; simp [big, Rf.zn]⟩)⟩
end Go.Proofs.YtlphojaeaogehaaGreatDoor
