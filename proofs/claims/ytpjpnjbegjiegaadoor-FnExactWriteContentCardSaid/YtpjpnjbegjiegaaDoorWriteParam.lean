/- A parameter written, the program's side. -/
import Derived.Test.YtpjpnjbegjiegaaDoorWriteOwn
namespace Go.Proofs.YtpjpnjbegjiegaaDoor
open Go.RowKit Go.Lib
namespace Pl
theorem dec_small (k : Nat) (h : k < 100) : (decDigits k).length ≤ 2 := by
  by_cases h0 : k < 10
  · rw [decDigits, dif_pos h0]
    simp
  · rw [decDigits, dif_neg h0, decDigits, dif_pos (by omega)]
    simp
theorem qs_len (l : List UInt8) : (qs l).length ≤ 2 * l.length := by
  induction l with
  | nil => simp [qs]
  | cons c r ih =>
    unfold qs
    split <;> simp only [List.length_cons] <;> omega
theorem cut_count : ∀ (v last : List UInt8), 58 * ((cut v last).length - 1) ≤ last.length + 3 * v.length
  | [], last => by simp [cut]
  | b :: r, last => by
    have hb := codeB_len b
    unfold cut
    split
    · have := cut_count r (codeB b)
      have h1 := cut_ne r (codeB b)
      simp only [List.length_cons]
      omega
    · have := cut_count r (last ++ codeB b)
      rw [List.length_append] at this
      simp only [List.length_cons]
      omega
theorem cut_le : ∀ (v last : List UInt8), last.length ≤ 60 → ∀ x ∈ cut v last, x.length ≤ 60
  | [], last, h, x, hx => by
    simp [cut] at hx
    rw [hx]
    exact h
  | b :: r, last, h, x, hx => by
    have hb := codeB_len b
    unfold cut at hx
    split at hx
    · rcases List.mem_cons.1 hx with rfl | hx
      · exact h
      · exact cut_le r (codeB b) (by omega) x hx
    · exact cut_le r (last ++ codeB b) (by rw [List.length_append]; omega) x hx
/-- A parameter, written. -/
def paramT (name v : List UInt8) : List UInt8 :=
  if bare v = true then [59, 32] ++ name ++ [61] ++ v
  else if v.all prn = true then [59, 32] ++ name ++ [61] ++ (34 :: qs v ++ [34])
  else if (cut v []).length = 1 then [59, 32] ++ name ++ ([42, 61] ++ utf) ++ (cut v []).headD []
  else emit name 0 (cut v [])
end Pl
theorem box2 {w : World} {t : TypeId} {a b : Value} {g : Nat} (h : w.heap[g]? = some (Obj.cells #[a, b] t)) : w.cell? ⟨g, 0, none⟩ = some a ∧ w.cell? ⟨g, 1, none⟩ = some b := ⟨cell_of_heap h 0, cell_of_heap h 1⟩
set_option maxHeartbeats 2000000 in
theorem implParamA (B : Nat) (v : Value) (p : List UInt8) (name value : ByteArray) (w : World) (hB : B ≤ w.heap.size) (hown : OwM B v p w) (hp : p.length ≤ 50000000) (hn : name.size ≤ 1000) (hv : value.size ≤ 1000) (hA2 : ¬ value.data.toList.all Pl.prn = true → Pl.bare value.data.toList = true) :
    Calls Tryd.prog 21 #[v, .agg #[.string name, .string value]] w fun e w' => ∃ v', e = .returned v' ∧ OwM B v' (p ++ Pl.paramT name.data.toList value.data.toList) w' ∧ Below B w w' := by
  have hbA : ∀ b, Below B w (w.alloc b) := fun b => (Below.refl _ _).alloc hB _
  have hNew : (w.alloc (.cells #[.string name, .string value] 37)).heap[w.heap.size]? = some (Obj.cells #[.string name, .string value] 37) := heap_alloc_new w _
  have howA := mkHid (fun b => (show OwM B v p (w.alloc b) from hown.alloc b))
  have HN := mkHid hNew
  clear hNew
  unfold Pl.paramT
  by_cases hbare : Pl.bare value.data.toList = true
  · rw [if_pos hbare]
    have hall : value.data.toList.all Pl.pb = true := by
      unfold Pl.bare at hbare
      rw [Bool.and_eq_true] at hbare
      exact hbare.2
    have hne : value.toList.isEmpty = false := by
      unfold Pl.bare at hbare
      rw [Bool.and_eq_true] at hbare
      rw [ByteArray.toList_eq]
      simpa using hbare.1
    have cA := fun w => implAllOf kindPlain value w (by omega)
    rw [hall] at cA
    have cN := mkHid fun b => implNamed B v p name ⟨#[61]⟩ value (w.alloc b) (Nat.le_trans hB (hbA b).size) (howA.out b) (by omega) (by omega) (by simp [ByteArray.size]) (by omega)
    clear hbare hall hown
    go_enter Tryd.func21, Tryd.ntmps21
    go_wp2_with fail
    refine (cA _).mono ?_
    rintro e w2 ⟨rfl, rfl⟩
    go_wp2_with fail
    refine (cN.out _).mono ?_
    rintro e w3 ⟨v3, rfl, how3, hb3, -⟩
    go_wp2
    go_ret
    refine ⟨_, rfl, ?_, (hbA _).trans hb3⟩
    simpa using how3
  · have hnb := hbare
    rw [if_neg hbare]
    have hcase : value.toList.isEmpty = true ∨ (value.toList.isEmpty = false ∧ value.data.toList.all Pl.pb = false) := by
      unfold Pl.bare at hbare
      rw [ByteArray.toList_eq]
      cases h1 : value.data.toList.isEmpty
      · right
        rw [h1] at hbare
        exact ⟨rfl, by simpa using hbare⟩
      · exact .inl rfl
    clear hbare
    have cA := fun w => implAllOf kindPlain value w (by omega)
    have cP := fun w => implAllOf kindPrint value w (by omega)
    by_cases hprn : value.data.toList.all Pl.prn = true
    · rw [if_pos hprn]
      rw [hprn] at cP
      have cQ := fun w => implQuotes value w (by omega)
      have hqs : (⟨(34 :: Pl.qs value.data.toList ++ [34]).toArray⟩ : ByteArray).size ≤ 10000000 := by
        have h1 := Pl.qs_len value.data.toList
        rw [Pl.len_list] at h1
        have h2 := mkB_size (34 :: Pl.qs value.data.toList ++ [34])
        rw [List.length_append, List.length_cons] at h2
        show (mkB (34 :: Pl.qs value.data.toList ++ [34])).size ≤ 10000000
        rw [h2]
        simp only [List.length_singleton]
        omega
      have hql : Hid ((⟨(34 :: Pl.qs value.data.toList ++ [34]).toArray⟩ : ByteArray).data.toList = 34 :: Pl.qs value.data.toList ++ [34]) := rfl
      generalize (⟨(34 :: Pl.qs value.data.toList ++ [34]).toArray⟩ : ByteArray) = q at *
      generalize 34 :: Pl.qs value.data.toList ++ [34] = ql at *
      have cN := mkHid fun w h1 h2 => implNamed B v p name ⟨#[61]⟩ q w h1 h2 (by omega) (by omega) (by simp [ByteArray.size]) hqs
      clear hown hprn hqs
      rcases hcase with hE | ⟨hE, hall⟩
      · clear cA
        go_enter Tryd.func21, Tryd.ntmps21
        go_wp2_with fail
        refine (cP _).mono ?_
        rintro e w2 ⟨rfl, rfl⟩
        go_wp2_with fail
        go_region_with (first
          | (go_at_call 37; refine (cQ _).mono ?_; rintro e w3 ⟨rfl, hb3⟩; obtain ⟨z0, z1⟩ := box2 ((FrT.of_below (e := 5) hb3).block _ _ _ (by decide) HN.out); have gB := Nat.le_trans (Nat.le_trans hB (hbA (.cells #[.string name, .string value] 37)).size) hb3.size; have how3 : OwM B v p w3 := OwM.keep (w := (w.alloc (.cells #[.string name, .string value] 37)).drew) (howA.out _).drew' hb3)
          | (go_at_call 35; refine (cN.out _ gB how3).mono ?_; rintro e w4 ⟨v4, rfl, how4, hb4, -⟩))
        all_goals
          have hb34 := mkHid (((hbA _).drew.trans (hb3.mono (Nat.le_trans hB (hbA (.cells #[.string name, .string value] 37)).size))).trans hb4)
          rw [hql.out] at how4
          clear hb3 hb4
          go_wp2
          go_ret
          refine ⟨v4, rfl, ?_, hb34.out⟩
          simpa using how4
      · rw [hall] at cA
        go_enter Tryd.func21, Tryd.ntmps21
        go_wp2_with fail
        refine (cA _).mono ?_
        rintro e w2 ⟨rfl, rfl⟩
        go_wp2_with fail
        refine (cP _).mono ?_
        rintro e w2 ⟨rfl, rfl⟩
        go_wp2_with fail
        go_region_with (first
          | (go_at_call 37; refine (cQ _).mono ?_; rintro e w3 ⟨rfl, hb3⟩; obtain ⟨z0, z1⟩ := box2 ((FrT.of_below (e := 5) hb3).block _ _ _ (by decide) HN.out); have gB := Nat.le_trans (Nat.le_trans hB (hbA (.cells #[.string name, .string value] 37)).size) hb3.size; have how3 : OwM B v p w3 := OwM.keep (w := (w.alloc (.cells #[.string name, .string value] 37)).drew) (howA.out _).drew' hb3)
          | (go_at_call 35; refine (cN.out _ gB how3).mono ?_; rintro e w4 ⟨v4, rfl, how4, hb4, -⟩))
        all_goals
          have hb34 := mkHid (((hbA _).drew.trans (hb3.mono (Nat.le_trans hB (hbA (.cells #[.string name, .string value] 37)).size))).trans hb4)
          rw [hql.out] at how4
          clear hb3 hb4
          go_wp2
          go_ret
          refine ⟨v4, rfl, ?_, hb34.out⟩
          simpa using how4
    · exact absurd (hA2 hprn) hnb
end Go.Proofs.YtpjpnjbegjiegaaDoor
