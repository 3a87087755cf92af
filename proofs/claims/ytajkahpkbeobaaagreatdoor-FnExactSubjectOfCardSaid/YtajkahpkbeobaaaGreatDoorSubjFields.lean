
/- FnExactSubjectOf: the specification's side. -/

/- Blanks left out behind a text, by the library. -/

/- FnExactSubjectOf: one sign is taken away, the program's side. -/

/- FnExactSubjectOf: strings.FieldsFunc at blanks is the cut at the bytes 32 and 9, whatever the text. -/
import Derived.Test.YtajkahpkbeobaaaGreatDoorSubjFind
import Derived.Test.YtajkahpkbeobaaaGreatDoorSpecCut
import Derived.Test.YtajkahpkbeobaaaGreatDoorWdSpecR
import Derived.Test.YtajkahpkbeobaaaGreatDoorLawReadWords
import Derived.Test.YtajkahpkbeobaaaGreatDoorReadPlain
import Derived.Test.YtajkahpkbeobaaaGreatDoorWdPlain
import Derived.Lib.FieldsP
import Derived.Lib.SpaceUEq
namespace Go.Proofs.YtajkahpkbeobaaaGreatDoor
open Go.RowKit Go.Lib Go.Maps
namespace Sj
set_option maxRecDepth 20000 in
theorem pre_gen (s p : ByteArray) (_h : p.size ≤ s.size) : ((s.extract 0 p.size).toList == p.toList) = hasPrefix s.data.toList p.data.toList := by
  have hl : s.data.toList.length = s.size := by simp
  have hp : p.data.toList.length = p.size := by simp
  rw [ByteArray.toList_eq, ByteArray.toList_eq]
  have e : (s.extract 0 p.size).data.toList = s.data.toList.take p.size := by rw [Pl.ext_data, List.drop_zero, Nat.sub_zero]
  rw [e, Bool.eq_iff_iff, beq_iff_eq]
  show _ ↔ List.isPrefixOf p.data.toList s.data.toList = true
  rw [List.isPrefixOf_iff_prefix]
  constructor
  · intro h1
    exact ⟨s.data.toList.drop p.size, by rw [← h1]; exact List.take_append_drop _ _⟩
  · rintro ⟨t, ht⟩
    rw [← ht, ← hp, List.take_left]
set_option maxRecDepth 20000 in
theorem pre_few (s p : ByteArray) (h : ¬ p.size ≤ s.size) : hasPrefix s.data.toList p.data.toList = false := by
  rw [Bool.eq_false_iff]
  intro h1
  have h2 : p.data.toList <+: s.data.toList := List.isPrefixOf_iff_prefix.1 h1
  have := h2.length_le
  simp at this
  exact h this
set_option maxRecDepth 20000 in
theorem suf_gen (s p : ByteArray) (h : p.size ≤ s.size) : ((s.extract (s.size - p.size) s.size).toList == p.toList) = hasSuffix s.data.toList p.data.toList := by
  have hl : s.data.toList.length = s.size := by simp
  have hp : p.data.toList.length = p.size := by simp
  rw [ByteArray.toList_eq, ByteArray.toList_eq]
  have e : (s.extract (s.size - p.size) s.size).data.toList = s.data.toList.drop (s.size - p.size) := by rw [Pl.ext_data]; exact List.take_of_length_le (by simp)
  rw [e, Bool.eq_iff_iff, beq_iff_eq]
  show _ ↔ List.isSuffixOf p.data.toList s.data.toList = true
  rw [List.isSuffixOf_iff_suffix]
  constructor
  · intro h1
    exact ⟨s.data.toList.take (s.size - p.size), by rw [← h1]; exact List.take_append_drop _ _⟩
  · rintro ⟨t, ht⟩
    have hlt : t.length = s.size - p.size := by have := congrArg List.length ht; simp at this; omega
    rw [← ht, ← hlt, List.drop_left]
set_option maxRecDepth 20000 in
theorem suf_few (s p : ByteArray) (h : ¬ p.size ≤ s.size) : hasSuffix s.data.toList p.data.toList = false := by
  rw [Bool.eq_false_iff]
  intro h1
  have h2 : p.data.toList <:+ s.data.toList := List.isSuffixOf_iff_suffix.1 h1
  have := h2.length_le
  simp at this
  exact h this
end Sj
set_option maxRecDepth 20000 in
set_option maxHeartbeats 1000000 in
theorem specBeginsS (s p : ByteArray) (w : World) (_hs : s.size ≤ 1100000) (_hp : p.size ≤ 100) :
    Calls Tryz.prog 15 #[.string s, .string p] w fun e w' => e = .returned (.bool (hasPrefix s.data.toList p.data.toList)) ∧ w = w' := by
  by_cases h : p.size ≤ s.size
  · have h2 : decide ((p.size : Int) ≤ (s.size : Int)) = true := by simp; omega
    have h3 : (p.size : Int) ≤ (s.size : Int) := by omega
    rw [← Sj.pre_gen s p h]
    go_enter Tryz.func15, Tryz.ntmps15
    go_wp2
    go_ret
    exact ⟨rfl, rfl⟩
  · have h2 : decide ((p.size : Int) ≤ (s.size : Int)) = false := by simp; omega
    rw [Sj.pre_few s p h]
    go_enter Tryz.func15, Tryz.ntmps15
    go_wp2
    go_ret
    exact ⟨rfl, rfl⟩
set_option maxRecDepth 20000 in
set_option maxHeartbeats 1000000 in
theorem specEndsS (s p : ByteArray) (w : World) (_hs : s.size ≤ 1100000) (_hp : p.size ≤ 100) :
    Calls Tryz.prog 14 #[.string s, .string p] w fun e w' => e = .returned (.bool (hasSuffix s.data.toList p.data.toList)) ∧ w = w' := by
  by_cases h : p.size ≤ s.size
  · have h2 : decide ((p.size : Int) ≤ (s.size : Int)) = true := by simp; omega
    have hn : ((s.size : Int) - (p.size : Int)).toNat = s.size - p.size := by omega
    have h3 : (0 : Int) ≤ (s.size : Int) - (p.size : Int) := by omega
    rw [← Sj.suf_gen s p h]
    go_enter Tryz.func14, Tryz.ntmps14
    go_wp2
    go_ret
    exact ⟨rfl, rfl⟩
  · have h2 : decide ((p.size : Int) ≤ (s.size : Int)) = false := by simp; omega
    rw [Sj.suf_few s p h]
    go_enter Tryz.func14, Tryz.ntmps14
    go_wp2
    go_ret
    exact ⟨rfl, rfl⟩
namespace Sj
/-- What a Subject's value says, as bytes. -/
def said (v : ByteArray) : ByteArray := match encA 4 (rwOf ⟨(Pl.unf false v.data.toList).toArray⟩) with
  | some l => ⟨l.toArray⟩
  | none => ⟨#[]⟩
def subjectT : ByteArray := ⟨#[83, 117, 98, 106, 101, 99, 116]⟩
def values (s : ByteArray) : List ByteArray := named (toBA (RH s).fields) subjectT
/-- The base subject. -/
def subj (s : ByteArray) : ByteArray := match values s with
  | [] => ⟨#[]⟩
  | v :: _ => ⟨(norm ((join1 (fl [] (said v).data.toList)).map small)).toArray⟩
set_option maxRecDepth 20000 in
theorem enc_le (set : Int) (P : List Int) (l : List UInt8) (h : encA set P = some l) : l.length ≤ 4 * P.length := by
  unfold encA at h
  split at h
  · cases h
  · have hb : ∀ (qs : List Int) (out l : List UInt8), Pl.enc (Pl.form set) out qs = some l → l.length ≤ out.length + 4 * qs.length := by
      intro qs
      induction qs with
      | nil => intro out l h; rw [Pl.enc] at h; cases h; simp
      | cons q r ih =>
        intro out l h
        rw [Pl.enc] at h
        split at h
        · cases h
        · have h1 := ih _ _ h
          have h2 := Pl.form_len set q
          rw [List.length_append] at h1
          rw [List.length_cons]
          omega
    have := hb P [] l h
    simpa using this
set_option maxRecDepth 20000 in
theorem said_le (v : ByteArray) : (said v).size ≤ 400000 := by
  unfold said
  split
  · rename_i l h
    have h1 := enc_le _ _ _ h
    have h2 := rwOf_len ⟨(Pl.unf false v.data.toList).toArray⟩
    show l.toArray.size ≤ _
    simp
    omega
  · exact Nat.zero_le _
set_option maxRecDepth 20000 in
theorem enc_val (v : ByteArray) : ∃ b, encV (encA 4 (rwOf ⟨(Pl.unf false v.data.toList).toArray⟩)) = .agg #[.bool b, .string (said v)] := by
  unfold said encV
  split
  · rename_i l h; rw [h]; exact ⟨true, rfl⟩
  · rename_i h; rw [h]; exact ⟨false, rfl⟩
set_option maxRecDepth 20000 in
theorem small_is : Small small := ⟨by decide, fun c h => by
  by_cases h2 : 65 ≤ c.toNat ∧ c.toNat ≤ 90
  · have h3 := small_yes c h2
    unfold bl
    rw [Bool.or_eq_false_iff, beq_eq_false_iff_ne, beq_eq_false_iff_ne]
    exact ⟨fun e => by rw [e] at h3; simp at h3; omega, fun e => by rw [e] at h3; simp at h3; omega⟩
  · rw [small_no c h2]; exact h⟩
set_option maxRecDepth 20000 in
theorem fl_small : ∀ (l cur : List UInt8), (join1 (fl cur l)).length ≤ cur.length + l.length
  | [], cur => by rw [fl]; split <;> simp [join1]
  | c :: r, cur => by
    rw [fl]
    split
    · split
      · have := fl_small r []
        simp at this ⊢
        omega
      · have := fl_small r []
        rw [join1_cons]
        simp only [List.length_append, List.length_nil, List.length_cons] at this ⊢
        split <;> simp <;> omega
    · have := fl_small r (cur ++ [c])
      simp at this ⊢
      omega
set_option maxRecDepth 20000 in
theorem col_le (sm : UInt8 → UInt8) : ∀ (l b : List UInt8), (col sm b l).length ≤ b.length + l.length
  | [], b => by rw [col]; simp
  | c :: r, b => by
    rw [col]
    split
    · have hX : (if b.isEmpty || b.getLast? == some 32 then b else b ++ [32]).length ≤ b.length + 1 := by split <;> simp
      generalize (if b.isEmpty || b.getLast? == some 32 then b else b ++ [32]) = X at hX
      have := col_le sm r X
      simp only [List.length_cons]
      omega
    · have := col_le sm r (b ++ [sm c])
      simp at this ⊢
      omega
set_option maxRecDepth 20000 in
theorem trim_is (l : List UInt8) : Pl.trimB l = trim l := rfl
set_option maxRecDepth 20000 in
theorem named_size (F : List Fd) (m : ByteArray) (n : Nat) (h : ∀ f ∈ F, f.2.size ≤ n) : ∀ v ∈ named F m, v.size ≤ n := by
  intro v hv
  unfold named at hv
  obtain ⟨f, hf, rfl⟩ := List.mem_map.1 hv
  exact h f (List.mem_filter.1 hf).1
set_option maxRecDepth 20000 in
theorem rh_sum (s : ByteArray) : flsum (RH s).fields ≤ 100002 := by
  unfold RH
  have e : s.data.toList.length = s.size := by simp
  split
  · have := Pl.read_sum s.data.toList
    omega
  · exact Nat.zero_le _
set_option maxRecDepth 20000 in
theorem rd_ill (l : List UInt8) : ∀ (f k : Nat) (fs : List Fl), (Pl.rd l f k fs).code ≠ 0 → (Pl.rd l f k fs).fields = []
  | 0, k, fs, _ => rfl
  | f + 1, k, fs, h => by
    rw [Pl.rd] at h ⊢
    split at h
    · exact absurd rfl h
    · rename_i h1
      rw [if_neg h1]
      split at h
      · exact absurd rfl h
      · rename_i h2
        rw [if_neg h2]
        split
        · rfl
        · rename_i n v x hf
          rw [hf] at h
          simp only at h
          split
          · rfl
          · rename_i h3
            rw [if_neg h3] at h
            exact rd_ill l f _ _ h
set_option maxRecDepth 20000 in
theorem rh_ill (s : ByteArray) (h : (RH s).code ≠ 0) : (RH s).fields = [] := by
  unfold RH at h ⊢
  split
  · rename_i hs
    rw [if_pos hs] at h
    exact rd_ill _ _ _ _ h
  · rfl
set_option maxRecDepth 20000 in
theorem toBA_size (s : ByteArray) : ∀ f ∈ toBA (RH s).fields, f.1.size ≤ 100000 ∧ f.2.size ≤ 100000 := fun f hf => by
  unfold toBA at hf
  obtain ⟨g, hg, rfl⟩ := List.mem_map.1 hf
  have := fl_size _ _ (rh_sum s) g hg
  refine ⟨?_, ?_⟩
  · show g.1.toArray.size ≤ _; simp; omega
  · show g.2.toArray.size ≤ _; simp; omega
set_option maxRecDepth 20000 in
theorem values_size (s : ByteArray) : ∀ v ∈ values s, v.size ≤ 100000 := by
  refine named_size _ _ _ fun f hf => ?_
  unfold toBA at hf
  obtain ⟨g, hg, rfl⟩ := List.mem_map.1 hf
  show g.2.toArray.size ≤ _
  have := fl_size _ _ (rh_sum s) g hg
  simp; omega
set_option maxRecDepth 20000 in
/-- A round's three steps on texts. -/
theorem r1_yes {t t1 : ByteArray} (h : hasSuffix t.data.toList [40, 102, 119, 100, 41] = true) (e : t1 = ⟨(Pl.trimB (t.extract 0 (t.size - 5)).data.toList).toArray⟩) : t1.data.toList = r1 t.data.toList := by
  rw [e]
  unfold r1
  rw [if_pos (show ends t.data.toList fwd = true from h)]
  show Pl.trimB (t.extract 0 (t.size - 5)).data.toList = _
  rw [Pl.ext_data, List.drop_zero, Nat.sub_zero, trim_is]
  simp
set_option maxRecDepth 20000 in
theorem r1_no {t : ByteArray} (h : hasSuffix t.data.toList [40, 102, 119, 100, 41] = false) : t.data.toList = r1 t.data.toList := by
  unfold r1
  rw [if_neg (by rw [show ends t.data.toList fwd = false from h]; simp)]
set_option maxRecDepth 20000 in
theorem r2_yes {t t1 : ByteArray} (h : hasPrefix t.data.toList [114, 101, 58] = true ∨ hasPrefix t.data.toList [102, 119, 58] = true) (e : t1 = ⟨(Pl.trimB (t.extract 3 t.size).data.toList).toArray⟩) : t1.data.toList = r2 t.data.toList := by
  rw [e]
  unfold r2
  rw [if_pos (by rw [Bool.or_eq_true]; exact h)]
  show Pl.trimB (t.extract 3 t.size).data.toList = _
  rw [Pl.ext_data, trim_is, List.take_of_length_le (by simp)]
set_option maxRecDepth 20000 in
theorem r2_no {t : ByteArray} (h : hasPrefix t.data.toList [114, 101, 58] = false) (h2 : hasPrefix t.data.toList [102, 119, 58] = false) : t.data.toList = r2 t.data.toList := by
  unfold r2
  rw [if_neg (by rw [show begins t.data.toList re = false from h, show begins t.data.toList fw = false from h2]; simp)]
set_option maxRecDepth 20000 in
theorem r3_yes {t t1 : ByteArray} (h : hasPrefix t.data.toList [102, 119, 100, 58] = true) (e : t1 = ⟨(Pl.trimB (t.extract 4 t.size).data.toList).toArray⟩) : t1.data.toList = r3 t.data.toList := by
  rw [e]
  unfold r3
  rw [if_pos (show begins t.data.toList fw2 = true from h)]
  show Pl.trimB (t.extract 4 t.size).data.toList = _
  rw [Pl.ext_data, trim_is, List.take_of_length_le (by simp)]
set_option maxRecDepth 20000 in
theorem r3_no {t : ByteArray} (h : hasPrefix t.data.toList [102, 119, 100, 58] = false) : t.data.toList = r3 t.data.toList := by
  unfold r3
  rw [if_neg (by rw [show begins t.data.toList fw2 = false from h]; simp)]
set_option maxRecDepth 20000 in
theorem pre_size {t : ByteArray} {p : List UInt8} (h : hasPrefix t.data.toList p = true) : p.length ≤ t.size := by
  have h2 : p <+: t.data.toList := List.isPrefixOf_iff_prefix.1 h
  have := h2.length_le
  simpa using this
set_option maxRecDepth 20000 in
theorem suf_size {t : ByteArray} {p : List UInt8} (h : hasSuffix t.data.toList p = true) : p.length ≤ t.size := by
  have h2 : p <:+ t.data.toList := List.isSuffixOf_iff_suffix.1 h
  have := h2.length_le
  simpa using this
set_option maxRecDepth 20000 in
theorem ba_same {t : ByteArray} {l : List UInt8} (h : t.data.toList = l) : t = ⟨l.toArray⟩ := by rw [← h]
end Sj
end Go.Proofs.YtajkahpkbeobaaaGreatDoor
namespace Go.Proofs.YtajkahpkbeobaaaGreatDoor
open Go.RowKit Go.Lib
set_option maxRecDepth 40000 in
set_option maxHeartbeats 2000000 in
theorem libTrimRightAscii (s : ByteArray) (b : Nat) (w : World) (hs : s.size ≤ 4000000) (hset : ∀ x : UInt8, w.cell? ⟨b, x.toNat, none⟩ = some (.bool (Pl.blank x))) :
    Calls Tryz.prog 79 #[.string s, .pointer (some ⟨b, 0, none⟩)] w fun e w' => e = .returned (.string ⟨(Pl.endB s.data.toList).toArray⟩) ∧ w' = w := by
  obtain ⟨R, hR⟩ : ∃ R, Pl.endB s.data.toList = R := ⟨_, rfl⟩
  have HR := mkH hR
  rw [hR]
  clear hR
  have Hset := mkH hset
  clear hset
  go_enter Tryz.func79, Tryz.ntmps79
  go_wp2
  go_loopw [0] (fun v wr => ∃ t : ByteArray, t.size ≤ s.size ∧ v = .string t ∧ Hid (Pl.endB t.data.toList = R) ∧ wr = w) (fun v _ => match v with | .string t => t.size | _ => 0)
  case atStart => exact ⟨s, Nat.le_refl _, rfl, HR, rfl⟩
  case round =>
    clear HR
    obtain ⟨t, ht, rfl, hp, rfl⟩ := hrel
    by_cases h0 : 0 < t.size
    · have hcon := Tryz.asciiSet_contains b t[t.size - 1] _ wr (Hset.out t[t.size - 1])
      have h0I : (0 : Int) < (t.size : Int) := by omega
      have h8 : t[t.size - 1].toNat < 256 := UInt8.toNat_lt _
      cases hb : Pl.blank t[t.size - 1]
      · rw [hb] at hcon
        have Hb : Hid (t = ⟨R.toArray⟩) := Pl.mk_list t R (by rw [← hp.out, Pl.keep_last t h0 hb])
        clear hb hp Hset
        go_wp2_with (go_at_call 98; go_must (refine hcon.mono ?_; rintro e w2 ⟨rfl, rfl⟩))
        go_ret
        rw [← Hb.out]
        exact ⟨rfl, rfl⟩
      · rw [hb] at hcon
        have Hb : Hid (Pl.endB (t.extract 0 (t.size - 1)).data.toList = R) := mkH (by rw [Pl.drop_last t h0 hb]; exact hp.out)
        clear hb hp Hset
        go_wp2_with (go_at_call 98; go_must (refine hcon.mono ?_; rintro e w2 ⟨rfl, rfl⟩))
        go_roundw
        case rel => exact ⟨_, by simp; omega, rfl, Hb, trivial⟩
        case measure => simp; omega
    · have Hb : Hid (t = ⟨R.toArray⟩) := Pl.mk_list t R (by rw [← hp.out, Pl.endB_nil t h0])
      have h0I : ¬ (0 : Int) < (t.size : Int) := by omega
      clear hp Hset
      go_wp2
      go_ret
      rw [← Hb.out]
      exact ⟨rfl, rfl⟩
set_option maxRecDepth 20000 in
theorem blanks_setP (x : UInt8) : ([32, 9] : List UInt8).contains x = Pl.blank x := by
  by_cases h1 : x = 32 <;> by_cases h2 : x = 9 <;> simp [Pl.blank, h1, h2]
set_option maxRecDepth 40000 in
set_option maxHeartbeats 2000000 in
theorem libTrimRight (s : ByteArray) (w : World) (hs : s.size ≤ 4000000) :
    Calls Tryz.prog 51 #[.string s, .string ⟨#[32, 9]⟩] w fun e w' => e = .returned (.string ⟨(Pl.endB s.data.toList).toArray⟩) ∧ Below w.heap.size w w' := by
  by_cases h0 : s.size = 0
  · have hE := isEmpty_ofH s h0
    have hs0 : (⟨(Pl.endB s.data.toList).toArray⟩ : ByteArray) = s := by
      rw [Pl.endB_nil s (by omega)]
    rw [hs0]
    go_enter Tryz.func51, Tryz.ntmps51
    go_wp2
    go_ret
    exact ⟨rfl, Below.refl _ _⟩
  · have hE := isEmpty_neH s h0
    have hz : ∀ w, (zeroValue 111).run Tryz.prog w = .ok (.agg (Array.replicate 256 (.bool false))) w := fun w => by kernel_rfl
    go_enter Tryz.func51, Tryz.ntmps51
    go_wp2_with fail
    refine (Tryz.strings_makeASCIISet hz ⟨#[32, 9]⟩ _ (by decide) (by intro j b hj; match j, hj with | 0, hj => cases hj; decide | 1, hj => cases hj; decide)).mono ?_
    rintro e w2 ⟨rfl, rfl⟩
    obtain ⟨W, hW⟩ : ∃ W, W = (w.alloc (.cells (setCells [32, 9]) 111)).alloc (.cells (Array.replicate 256 (.bool false)) 111) := ⟨_, rfl⟩
    have hbW : Below w.heap.size w W := by rw [hW]; exact ((Below.refl _ _).alloc (Nat.le_refl _) _).alloc (by simp) _
    have hgW : ((w.alloc (.cells (setCells [32, 9]) 111)).alloc (.cells (Array.replicate 256 (.bool false)) 111)).heap[w.heap.size + 1]? = some (.cells (Array.replicate 256 (.bool false)) 111) := by
      have := heap_alloc_at (w.alloc (.cells (setCells [32, 9]) 111)) (.cells (Array.replicate 256 (.bool false)) 111)
      simpa using this
    have hgs := grown_setRow W (w.heap.size + 1) (setCells [32, 9])
    have hb2 := hbW.grown hgs hbW.size (fun j hj => by cases hj; exact Nat.le_succ _)
    have hset : ∀ x : UInt8, (W.setRow (w.heap.size + 1) (setCells [32, 9])).cell? ⟨w.heap.size + 1, x.toNat, none⟩ = some (.bool (Pl.blank x)) := by
      intro x
      rw [cell_setRow_same W _ _ _ _ 111 (0, 0) (by rw [hW]; exact hgW), setCells_at, blanks_setP]
    have hT := libTrimRightAscii s (w.heap.size + 1) _ hs hset
    rw [hW] at hT hb2
    go_wp2_with (first | (refine wpL_store_row rfl 111 _ _ rfl (w.heap.size + 1) (setCells [32, 9]) rfl rfl 111 _ hgW (by rw [setCells_size]; kernel_rfl) (by rw [setCells_size]; simp) (setCells_one _) ?_) | (go_at_call 79; go_must (refine hT.mono ?_; rintro e w3 ⟨rfl, rfl⟩)))
    go_ret
    exact ⟨rfl, hb2⟩
end Go.Proofs.YtajkahpkbeobaaaGreatDoor
namespace Go.Proofs.YtajkahpkbeobaaaGreatDoor
open Go.RowKit Go.Lib
namespace Sj
def markV (s : ByteArray) : Value := match cutM s.data.toList with
  | some r => .tuple #[.string ⟨r.toArray⟩, .bool true]
  | none => .tuple #[.string s, .bool false]
set_option maxRecDepth 20000 in
theorem drop_gap : ∀ l : List UInt8, l.drop (Pw.gap l) = tl l
  | [] => rfl
  | c :: r => by
    rw [Pw.gap, tl_cons]
    by_cases h : bl c = true
    · rw [if_pos h, if_pos (show Pw.bl c = true from h), List.drop_succ_cons, drop_gap r]
    · rw [if_neg h, if_neg (show ¬ Pw.bl c = true from h)]; rfl
set_option maxRecDepth 20000 in
theorem ext_tl (x : ByteArray) : x.extract (Pw.gap x.data.toList) x.size = ⟨(tl x.data.toList).toArray⟩ := by
  rw [← drop_gap]
  apply ByteArray.ext
  apply Array.ext'
  rw [Pl.ext_data, List.take_of_length_le (by simp)]
set_option maxRecDepth 20000 in
theorem endB_tr (l : List UInt8) : Pl.endB l = tr l := rfl
/-- What the three signs say of a text. -/
def pre (k : Nat) (l : List UInt8) : Bool := match k with
  | 0 => hasPrefix l re
  | 1 => hasPrefix l fw
  | _ => hasPrefix l fw2
set_option maxRecDepth 20000 in
theorem mark_none {s : ByteArray} (h0 : hasSuffix s.data.toList fwd = false) (h1 : pre 0 s.data.toList = false) (h2 : pre 1 s.data.toList = false) (h3 : pre 2 s.data.toList = false) : markV s = .tuple #[.string s, .bool false] := by
  have e : cutM s.data.toList = none := by
    unfold cutM
    rw [show ends s.data.toList fwd = false from h0, show begins s.data.toList re = false from h1, show begins s.data.toList fw = false from h2, show begins s.data.toList fw2 = false from h3]
    rfl
  unfold markV
  rw [e]
set_option maxRecDepth 20000 in
theorem mark_fwdV {s : ByteArray} (h0 : hasSuffix s.data.toList fwd = true) : markV s = .tuple #[.string ⟨(Pl.endB (trimSuffix s.data.toList fwd)).toArray⟩, .bool true] := by
  have e : cutM s.data.toList = some (tr (s.data.toList.take (s.data.toList.length - 5))) := by
    unfold cutM
    rw [show ends s.data.toList fwd = true from h0]
    rfl
  unfold markV
  rw [e]
  unfold trimSuffix
  rw [if_pos h0]
  rfl
set_option maxRecDepth 20000 in
theorem mark_at {s : ByteArray} (h0 : hasSuffix s.data.toList fwd = false) (k : Nat) (p : List UInt8) (hp : k = 0 ∧ p = re ∨ k = 1 ∧ p = fw ∨ k = 2 ∧ p = fw2) (hb : ∀ j, j < k → pre j s.data.toList = false) (h : pre k s.data.toList = true) :
    markV s = .tuple #[.string ⟨(tl (trimPrefix s.data.toList p)).toArray⟩, .bool true] := by
  have e : cutM s.data.toList = some (tl (s.data.toList.drop p.length)) := by
    unfold cutM
    rw [show ends s.data.toList fwd = false from h0, if_neg (by simp)]
    rcases hp with ⟨rfl, rfl⟩ | ⟨rfl, rfl⟩ | ⟨rfl, rfl⟩
    · rw [if_pos (show begins s.data.toList re = true from h)]; rfl
    · rw [show begins s.data.toList re = false from hb 0 (by decide), if_neg (by simp), if_pos (show begins s.data.toList fw = true from h)]; rfl
    · rw [show begins s.data.toList re = false from hb 0 (by decide), if_neg (by simp), show begins s.data.toList fw = false from hb 1 (by decide), if_neg (by simp), if_pos (show begins s.data.toList fw2 = true from h)]; rfl
  have h' : hasPrefix s.data.toList p = true := by rcases hp with ⟨rfl, rfl⟩ | ⟨rfl, rfl⟩ | ⟨rfl, rfl⟩ <;> exact h
  unfold markV
  rw [e]
  unfold trimPrefix
  rw [if_pos h']
end Sj
set_option maxRecDepth 40000 in
set_option maxHeartbeats 16000000 in
theorem implCutMark (s : ByteArray) (w : World) (hs : s.size ≤ 4000000) :
    Calls Tryz.prog 25 #[.string s] w fun e w' => e = .returned (Sj.markV s) ∧ Below w.heap.size w w' := by
  have hS : Calls Tryz.prog 50 #[.string s, .string ⟨#[40, 102, 119, 100, 41]⟩] w fun e w' => e = .returned (.tuple #[.string ⟨(trimSuffix s.data.toList Sj.fwd).toArray⟩, .bool (hasSuffix s.data.toList Sj.fwd)]) ∧ w' = w := Tryz.strings_CutSuffix s ⟨#[40, 102, 119, 100, 41]⟩ w (by omega)
  cases h0 : hasSuffix s.data.toList Sj.fwd
  · rw [h0] at hS
    have H0 := mkH h0
    have HP : Hid (∀ (k : Nat) (p : ByteArray) (pl : List UInt8), k = 0 ∧ p = ⟨#[114, 101, 58]⟩ ∧ pl = Sj.re ∨ k = 1 ∧ p = ⟨#[102, 119, 58]⟩ ∧ pl = Sj.fw ∨ k = 2 ∧ p = ⟨#[102, 119, 100, 58]⟩ ∧ pl = Sj.fw2 → Calls Tryz.prog 52 #[.string s, .string p] w fun e w' => e = .returned (.tuple #[.string ⟨(trimPrefix s.data.toList pl).toArray⟩, .bool (Sj.pre k s.data.toList)]) ∧ w' = w) := mkH fun k p pl h => by
      have := Tryz.strings_CutPrefix s p w
      rcases h with ⟨rfl, rfl, rfl⟩ | ⟨rfl, rfl, rfl⟩ | ⟨rfl, rfl, rfl⟩ <;> exact this
    clear h0
    have i0 : ∀ w : World, (Instr.index 86 (.agg #[.string ⟨#[114, 101, 58]⟩, .string ⟨#[102, 119, 58]⟩, .string ⟨#[102, 119, 100, 58]⟩]) (.int .i64 0)).run Tryz.prog w = .ok (.string ⟨#[114, 101, 58]⟩) w := fun _ => by kernel_rfl
    have i1 : ∀ w : World, (Instr.index 86 (.agg #[.string ⟨#[114, 101, 58]⟩, .string ⟨#[102, 119, 58]⟩, .string ⟨#[102, 119, 100, 58]⟩]) (.int .i64 1)).run Tryz.prog w = .ok (.string ⟨#[102, 119, 58]⟩) w := fun _ => by kernel_rfl
    have i2 : ∀ w : World, (Instr.index 86 (.agg #[.string ⟨#[114, 101, 58]⟩, .string ⟨#[102, 119, 58]⟩, .string ⟨#[102, 119, 100, 58]⟩]) (.int .i64 2)).run Tryz.prog w = .ok (.string ⟨#[102, 119, 100, 58]⟩) w := fun _ => by kernel_rfl
    have hI := mkH (And.intro i0 (And.intro i1 i2))
    clear i0 i1 i2
    go_enter Tryz.func25, Tryz.ntmps25
    go_wp2_with (go_at_call 50; go_must (refine hS.mono ?_; rintro e w2 ⟨rfl, rfl⟩))
    clear hS
    go_loopw [15] (fun iv wr => ∃ k : Nat, k ≤ 3 ∧ iv = .int .i64 k ∧ Hid (∀ j, j < k → Sj.pre j s.data.toList = false) ∧ wr = w2) (fun iv _ => 3 - (Lib.intOf iv).toNat)
    case atStart => exact ⟨0, by decide, rfl, mkH fun j hj => absurd hj (Nat.not_lt_zero j), rfl⟩
    case round =>
      obtain ⟨k, hk, rfl, hb, rfl⟩ := hrel
      rcases (show k = 0 ∨ k = 1 ∨ k = 2 ∨ k = 3 by omega) with rfl | rfl | rfl | rfl
      · obtain ⟨b, hbv⟩ : ∃ b, Sj.pre 0 s.data.toList = b := ⟨_, rfl⟩
        have hC := HP.out 0 ⟨#[114, 101, 58]⟩ Sj.re (by simp)
        have hT := libTrimLeft ⟨(trimPrefix s.data.toList Sj.re).toArray⟩ wr
        rw [Sj.ext_tl] at hT
        rw [hbv] at hC
        have hv0 := fun b => mkH (Sj.mark_at H0.out 0 Sj.re (by simp) hb.out b)
        simp only at hT hv0
        generalize trimPrefix s.data.toList Sj.re = q at hC hT hv0
        cases b
        · have hb2 : Hid (∀ j, j < 0 + 1 → Sj.pre j s.data.toList = false) := mkH fun j hj => by
            by_cases e : j = 0
            · rw [e]; exact hbv
            · exact hb.out j (by omega)
          clear hT hbv hb HP H0 hv0
          go_wp2
          rw [hI.out.1]
          go_wp2_with (go_at_call 52; go_must (refine hC.mono ?_; rintro e w3 ⟨rfl, rfl⟩))
          go_roundw
          case rel => exact ⟨0 + 1, by decide, rfl, hb2, trivial⟩
          case measure => simp [Lib.intOf]
        · have hv := hv0 hbv
          clear hbv hb HP H0 hv0
          go_wp2
          rw [hI.out.1]
          go_wp2_with first | (go_at_call 52; go_must (refine hC.mono ?_; rintro e w3 ⟨rfl, rfl⟩)) | (go_at_call 53; go_must (refine hT.mono ?_; rintro e w3 ⟨rfl, hb3⟩))
          go_ret2
          rw [hv.out]
          exact ⟨rfl, hb3⟩
      · obtain ⟨b, hbv⟩ : ∃ b, Sj.pre 1 s.data.toList = b := ⟨_, rfl⟩
        have hC := HP.out 1 ⟨#[102, 119, 58]⟩ Sj.fw (by simp)
        have hT := libTrimLeft ⟨(trimPrefix s.data.toList Sj.fw).toArray⟩ wr
        rw [Sj.ext_tl] at hT
        rw [hbv] at hC
        have hv0 := fun b => mkH (Sj.mark_at H0.out 1 Sj.fw (by simp) hb.out b)
        simp only at hT hv0
        generalize trimPrefix s.data.toList Sj.fw = q at hC hT hv0
        cases b
        · have hb2 : Hid (∀ j, j < 1 + 1 → Sj.pre j s.data.toList = false) := mkH fun j hj => by
            by_cases e : j = 1
            · rw [e]; exact hbv
            · exact hb.out j (by omega)
          clear hT hbv hb HP H0 hv0
          go_wp2
          rw [hI.out.2.1]
          go_wp2_with (go_at_call 52; go_must (refine hC.mono ?_; rintro e w3 ⟨rfl, rfl⟩))
          go_roundw
          case rel => exact ⟨1 + 1, by decide, rfl, hb2, trivial⟩
          case measure => simp [Lib.intOf]
        · have hv := hv0 hbv
          clear hbv hb HP H0 hv0
          go_wp2
          rw [hI.out.2.1]
          go_wp2_with first | (go_at_call 52; go_must (refine hC.mono ?_; rintro e w3 ⟨rfl, rfl⟩)) | (go_at_call 53; go_must (refine hT.mono ?_; rintro e w3 ⟨rfl, hb3⟩))
          go_ret2
          rw [hv.out]
          exact ⟨rfl, hb3⟩
      · obtain ⟨b, hbv⟩ : ∃ b, Sj.pre 2 s.data.toList = b := ⟨_, rfl⟩
        have hC := HP.out 2 ⟨#[102, 119, 100, 58]⟩ Sj.fw2 (by simp)
        have hT := libTrimLeft ⟨(trimPrefix s.data.toList Sj.fw2).toArray⟩ wr
        rw [Sj.ext_tl] at hT
        rw [hbv] at hC
        have hv0 := fun b => mkH (Sj.mark_at H0.out 2 Sj.fw2 (by simp) hb.out b)
        simp only at hT hv0
        generalize trimPrefix s.data.toList Sj.fw2 = q at hC hT hv0
        cases b
        · have hb2 : Hid (∀ j, j < 2 + 1 → Sj.pre j s.data.toList = false) := mkH fun j hj => by
            by_cases e : j = 2
            · rw [e]; exact hbv
            · exact hb.out j (by omega)
          clear hT hbv hb HP H0 hv0
          go_wp2
          rw [hI.out.2.2]
          go_wp2_with (go_at_call 52; go_must (refine hC.mono ?_; rintro e w3 ⟨rfl, rfl⟩))
          go_roundw
          case rel => exact ⟨2 + 1, by decide, rfl, hb2, trivial⟩
          case measure => simp [Lib.intOf]
        · have hv := hv0 hbv
          clear hbv hb HP H0 hv0
          go_wp2
          rw [hI.out.2.2]
          go_wp2_with first | (go_at_call 52; go_must (refine hC.mono ?_; rintro e w3 ⟨rfl, rfl⟩)) | (go_at_call 53; go_must (refine hT.mono ?_; rintro e w3 ⟨rfl, hb3⟩))
          go_ret2
          rw [hv.out]
          exact ⟨rfl, hb3⟩
      · go_wp2
        go_ret2
        rw [Sj.mark_none H0.out (hb.out 0 (by decide)) (hb.out 1 (by decide)) (hb.out 2 (by decide))]
        exact ⟨rfl, Below.refl _ _⟩
  · rw [h0] at hS
    have H0 := mkH (Sj.mark_fwdV h0)
    have hR := libTrimRight ⟨(trimSuffix s.data.toList Sj.fwd).toArray⟩ w (by
      have : (trimSuffix s.data.toList Sj.fwd).length ≤ s.data.toList.length := by
        unfold trimSuffix
        rw [if_pos h0]
        simp
      have hl : s.data.toList.length = s.size := by simp
      show (trimSuffix s.data.toList Sj.fwd).toArray.size ≤ _
      simp; omega)
    simp only at hR
    clear h0
    generalize trimSuffix s.data.toList Sj.fwd = q at hS hR H0
    go_enter Tryz.func25, Tryz.ntmps25
    go_wp2_with first | (go_at_call 50; go_must (refine hS.mono ?_; rintro e w2 ⟨rfl, rfl⟩)) | (go_at_call 51; go_must (refine hR.mono ?_; rintro e w3 ⟨rfl, hb3⟩))
    go_ret2
    rw [H0.out]
    exact ⟨rfl, hb3⟩
end Go.Proofs.YtajkahpkbeobaaaGreatDoor
namespace Go.Proofs.YtajkahpkbeobaaaGreatDoor
open Go.RowKit Go.Lib
namespace Sj
set_option maxRecDepth 20000 in
theorem get_b (s : ByteArray) (i : Nat) (h : i < s.size) : s.get! i = s[i] := by
  show s.data[i]! = _
  rw [getElem!_pos s.data i h]
  rfl
set_option maxRecDepth 20000 in
theorem len_l (s : ByteArray) : s.data.toList.length = s.size := by rw [← size_eq]
set_option maxRecDepth 20000 in
theorem at_l (s : ByteArray) (i : Nat) (h : i < s.size) : s.data.toList[i]'(by rw [len_l]; exact h) = s[i] := rfl
set_option maxRecDepth 20000 in
/-- A character is one byte below 128, or bytes above 127 alone. -/
theorem dec_two (s : ByteArray) (i : Nat) (h : i < s.size) :
    ((s[i]'h).toNat < 128 ∧ Utf8.decode s i = ((s[i]'h).toNat, 1)) ∨
    (128 ≤ (Utf8.decode s i).1 ∧ ∀ j, j < (Utf8.decode s i).2 → ∃ h2 : i + j < s.size, 128 ≤ (s[i + j]'h2).toNat) := by
  by_cases ha : (s[i]'h).toNat < 128
  · left
    refine ⟨ha, ?_⟩
    rw [decode_at, get_b s i h, decodeN_ascii _ _ _ _ _ ha]
  · right
    have h0 : (s.get! i).toNat = (s[i]'h).toNat := by rw [get_b s i h]
    have hc := decodeN_conts (s.size - i) (s.get! i).toNat (s.get! (i + 1)).toNat (s.get! (i + 2)).toNat (s.get! (i + 3)).toNat
    have hk := decodeN_cases (s.size - i) (s.get! i).toNat (s.get! (i + 1)).toNat (s.get! (i + 2)).toNat (s.get! (i + 3)).toNat
    rw [← decode_at] at hc hk
    obtain ⟨c2, c3, c4, c5⟩ := hc
    refine ⟨?_, fun j hj => ?_⟩
    · rcases hk with ⟨a, -⟩ | ⟨-, -, -, a, e⟩ | ⟨-, -, -, -, a, e⟩ | ⟨a, -⟩ | e
      · omega
      · rw [e]; exact a
      · rw [e]; show 128 ≤ _; omega
      · omega
      · rw [e]; decide
    · rcases (show j = 0 ∨ j = 1 ∨ j = 2 ∨ j = 3 by omega) with rfl | rfl | rfl | rfl
      · exact ⟨h, by rw [Nat.not_lt] at ha; exact ha⟩
      · obtain ⟨a, b⟩ := c2 (by omega)
        refine ⟨by omega, ?_⟩
        rw [get_b s (i + 1) (by omega)] at a
        omega
      · obtain ⟨a, b⟩ := c3 (by omega)
        refine ⟨by omega, ?_⟩
        rw [get_b s (i + 2) (by omega)] at a
        omega
      · obtain ⟨a, b⟩ := c4 (by omega)
        refine ⟨by omega, ?_⟩
        rw [get_b s (i + 3) (by omega)] at a
        omega
set_option maxRecDepth 20000 in
theorem bl_high (c : UInt8) (h : 128 ≤ c.toNat) : bl c = false := by
  unfold bl
  rw [Bool.or_eq_false_iff, beq_eq_false_iff_ne, beq_eq_false_iff_ne]
  exact ⟨fun e => by rw [e] at h; exact absurd h (by decide), fun e => by rw [e] at h; exact absurd h (by decide)⟩
/-- A blank as a character. -/
def bR (r : Nat) : Bool := r == 32 || r == 9
set_option maxRecDepth 20000 in
theorem bR_byte (c : UInt8) : bR c.toNat = bl c := by
  unfold bR bl
  congr 1
  · rw [Bool.eq_iff_iff, beq_iff_eq, beq_iff_eq]
    exact ⟨fun h => UInt8.toNat_inj.1 h, fun h => by rw [h]; rfl⟩
  · rw [Bool.eq_iff_iff, beq_iff_eq, beq_iff_eq]
    exact ⟨fun h => UInt8.toNat_inj.1 h, fun h => by rw [h]; rfl⟩
set_option maxRecDepth 20000 in
theorem fl_run : ∀ (x cur r : List UInt8), (∀ c ∈ x, bl c = false) → fl cur (x ++ r) = fl (cur ++ x) r
  | [], cur, r, _ => by rw [List.nil_append, List.append_nil]
  | c :: x, cur, r, h => by
    rw [List.cons_append, fl, if_neg (by rw [h c (.head _)]; simp), fl_run x (cur ++ [c]) r (fun d hd => h d (.tail _ hd)), List.append_assoc]
    rfl
set_option maxRecDepth 20000 in
theorem drop_one (s : ByteArray) (i : Nat) (h : i < s.size) : s.data.toList.drop i = (s[i]'h) :: s.data.toList.drop (i + 1) := by
  rw [List.drop_eq_getElem_cons (by rw [len_l]; exact h)]
  rfl
set_option maxRecDepth 20000 in
theorem spans_fl (s : ByteArray) : ∀ (f pos : Nat) (st : Option Nat) (acc : List (Nat × Nat)), s.size ≤ pos + f → pos ≤ s.size → (∀ a, st = some a → a < pos) →
    acc.map (fun p => pieceU s.data.toList p.1 p.2) ++ fl (openPiece s.data.toList st pos) (s.data.toList.drop pos) = (closeSpans s (spansFromP bR s f pos st acc)).map (fun p => pieceU s.data.toList p.1 p.2) := by
  intro f
  have atEnd : ∀ (g : Nat) (st : Option Nat) (acc : List (Nat × Nat)), (∀ a, st = some a → a < s.size) →
      acc.map (fun p => pieceU s.data.toList p.1 p.2) ++ fl (openPiece s.data.toList st s.size) (s.data.toList.drop s.size) = (closeSpans s (spansFromP bR s g s.size st acc)).map (fun p => pieceU s.data.toList p.1 p.2) := by
    intro g st acc hst
    have hd : s.data.toList.drop s.size = [] := List.drop_eq_nil_of_le (by rw [len_l]; exact Nat.le_refl _)
    rw [hd, fl, spansFromP_end bR s g s.size st acc (by omega)]
    cases st with
    | none => simp [closeSpans, openPiece]
    | some a =>
      have := pieceU_ne s.data.toList a s.size (hst a rfl) (by rw [len_l]; exact Nat.le_refl _)
      simp [closeSpans, openPiece, this]
  induction f with
  | zero =>
    intro pos st acc h hp hst
    obtain rfl : pos = s.size := by omega
    exact atEnd 0 st acc hst
  | succ f ih =>
    intro pos st acc h hp hst
    by_cases hlt : pos < s.size
    · have hw := width_pos s pos
      have hwn : pos + (Utf8.decode s pos).2 ≤ s.size := by
        have := decodeN_le_n' (s.size - pos) (s.get! pos).toNat (s.get! (pos + 1)).toNat (s.get! (pos + 2)).toNat (s.get! (pos + 3)).toNat (by omega)
        rw [← decode_at] at this
        omega
      unfold spansFromP
      rw [if_pos hlt]
      cases hsp : bR (Utf8.decode s pos).1 with
      | true =>
        rw [if_pos rfl]
        have hbyte : Utf8.decode s pos = ((s[pos]'hlt).toNat, 1) ∧ bl (s[pos]'hlt) = true := by
          rcases dec_two s pos hlt with ⟨-, e⟩ | ⟨a, -⟩
          · refine ⟨e, ?_⟩
            rw [e] at hsp
            exact (bR_byte _).symm.trans hsp
          · exfalso
            unfold bR at hsp
            rw [Bool.or_eq_true, beq_iff_eq, beq_iff_eq] at hsp
            omega
        obtain ⟨hd, hb⟩ := hbyte
        rw [hd, drop_one s pos hlt, fl, if_pos hb]
        rw [hd] at hwn
        cases st with
        | none =>
          have ih := ih (pos + 1) none acc (by omega) hwn (fun a h => by cases h)
          simpa [openPiece] using ih
        | some a =>
          have hpn := pieceU_ne s.data.toList a pos (hst a rfl) (by rw [len_l]; omega)
          have ih := ih (pos + 1) none (acc ++ [(a, pos)]) (by omega) hwn (fun a h => by cases h)
          simpa [openPiece, hpn] using ih
      | false =>
        rw [if_neg (by simp)]
        have hall : ∀ c ∈ (s.data.toList.drop pos).take (Utf8.decode s pos).2, bl c = false := by
          intro c hc
          obtain ⟨j, hj, e⟩ := List.mem_iff_getElem.1 hc
          rw [List.length_take, List.length_drop, len_l] at hj
          rw [List.getElem_take, List.getElem_drop] at e
          rcases dec_two s pos hlt with ⟨-, e2⟩ | ⟨-, a⟩
          · rw [e2] at hj hsp
            obtain rfl : j = 0 := by omega
            rw [← e]
            exact (bR_byte _).symm.trans hsp
          · obtain ⟨h2, a2⟩ := a j (by omega)
            rw [← e]
            exact bl_high _ a2
        have hcut : s.data.toList.drop pos = (s.data.toList.drop pos).take (Utf8.decode s pos).2 ++ s.data.toList.drop (pos + (Utf8.decode s pos).2) := by
          rw [← List.drop_drop, List.take_append_drop]
        rw [hcut, fl_run _ _ _ hall]
        cases st with
        | none =>
          have ih := ih (pos + (Utf8.decode s pos).2) (some pos) acc (by omega) hwn (fun a h => by cases h; omega)
          have e : ([] : List UInt8) ++ (s.data.toList.drop pos).take (Utf8.decode s pos).2 = pieceU s.data.toList pos (pos + (Utf8.decode s pos).2) := by
            unfold pieceU
            rw [List.nil_append, Nat.add_sub_cancel_left]
          simp only [openPiece] at ih ⊢
          rw [e]
          exact ih
        | some a =>
          have ih := ih (pos + (Utf8.decode s pos).2) (some a) acc (by omega) hwn (fun b h => by cases h; have := hst a rfl; omega)
          simp only [openPiece] at ih ⊢
          rw [pieceU_grow _ _ _ _ (Nat.le_of_lt (hst a rfl))]
          exact ih
    · obtain rfl : pos = s.size := by omega
      exact atEnd (f + 1) st acc hst
set_option maxRecDepth 20000 in
/-- strings.FieldsFunc at blanks, told by bytes. -/
theorem fields_blank (s : ByteArray) : (goFieldsP bR s).map (·.data.toList) = fl [] s.data.toList := by
  have h := spans_fl s s.size 0 none [] (by omega) (Nat.zero_le _) (fun a h => by cases h)
  simp only [List.map_nil, List.nil_append, openPiece, List.drop_zero] at h
  rw [h]
  unfold goFieldsP spansOfP
  rw [List.map_map]
  congr 1
  funext p
  show (s.extract p.1 p.2).data.toList = pieceU s.data.toList p.1 p.2
  rw [pieceU]
  simp
end Sj
end Go.Proofs.YtajkahpkbeobaaaGreatDoor
