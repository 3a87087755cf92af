
/- The tokens of a phrase: atoms that make the text again, or one quoted text. -/
import Derived.Test.YtgibjilghnnnmaaDoorTokensAll
import Derived.Test.YtgibjilghnnnmaaDoorPhraseSpec
namespace Go.Proofs.YtgibjilghnnnmaaDoor
open Go.RowKit Go.Lib
def jn : List Tk → List UInt8
  | [] => []
  | t :: r => t.text.data.toList ++ (match r with | [] => [] | _ :: _ => 32 :: jn r)
theorem scan_run (l : List UInt8) : ∀ (n z Z : Nat) (b : Bool), Z - z ≤ n → z < Z → Z ≤ l.length → (∀ j, z ≤ j → j < Z → Pl.atom (Pl.b l j) = true) → Pl.scan 32 b (l.drop z) = Pl.scan 32 true (l.drop Z)
  | 0, z, Z, b, hn, hz, _, _ => by omega
  | n + 1, z, Z, b, hn, hz, hZ, h => by
    have h0 := h z (Nat.le_refl _) hz
    rw [Pl.b_lt l z (by omega)] at h0
    rw [scan_atom 32 l z b (by omega) h0]
    by_cases e : z + 1 = Z
    · rw [e]
    · exact scan_run l n (z + 1) Z true (by omega) (by omega) hZ (fun j h1 h2 => h j (by omega) h2)
theorem scan_first (l : List UInt8) (z : Nat) (h : Pl.scan 32 false (l.drop z) = true) : ∃ hz : z < l.length, Pl.atom l[z] = true := by
  by_cases hz : z < l.length
  · refine ⟨hz, ?_⟩
    cases ha : Pl.atom l[z] with
    | true => rfl
    | false => rw [scan_bad 32 l z false hz ha (.inr rfl)] at h; cases h
  · rw [scan_end 32 l z false (by omega)] at h; cases h
theorem atom_not_blank (c : UInt8) (h : Pl.atom c = true) : Pl.blank c = false := by
  cases hb : Pl.blank c with
  | false => rfl
  | true =>
    exfalso
    unfold Pl.blank at hb
    rw [Bool.or_eq_true] at hb
    rcases hb with hb | hb
    · rw [beq_iff_eq.1 hb] at h; exact absurd h (by decide +kernel)
    · rw [beq_iff_eq.1 hb] at h; exact absurd h (by decide +kernel)
theorem stop_here (K : UInt8 → Bool) (l : List UInt8) (z : Nat) (hz : z ≤ l.length) (h : z < l.length → K (Pl.b l z) = false) : Pl.stop K l z = z :=
  Pl.stop_eq K l z z (Nat.le_refl _) hz (fun j h1 h2 => by omega) h
theorem atoms_toks (s : ByteArray) : ∀ (n a z : Nat), s.size - z ≤ n → Pl.stop Pl.blank s.data.toList a = z → a ≤ z → Pl.scan 32 false (s.data.toList.drop z) = true → ∃ T, Toks s a T ∧ (∀ t ∈ T, t.kind = 1) ∧ T ≠ [] ∧ jn T = s.data.toList.drop z
  | n, a, z, hn, hst, haz, hsc => by
    have hll : s.data.toList.length = s.size := by simp
    obtain ⟨hz, hat⟩ := scan_first _ z hsc
    have hzs : z < s.size := by omega
    rw [Pl.at_list s z hzs] at hat
    have hZ1 := Pl.stop_ge Pl.atom s.data.toList z (by omega)
    have hZ2 := Pl.stop_le Pl.atom s.data.toList z (by omega)
    have hall := Pl.stop_all Pl.atom s.data.toList z (by omega)
    have hend : Pl.stop Pl.atom s.data.toList z < s.size → Pl.atom (Pl.b s.data.toList (Pl.stop Pl.atom s.data.toList z)) = false := fun h => Pl.stop_not Pl.atom s.data.toList z (by omega) (by omega)
    have hzZ : z < Pl.stop Pl.atom s.data.toList z := by
      by_cases e : z < Pl.stop Pl.atom s.data.toList z
      · exact e
      · exfalso
        have e2 : Pl.stop Pl.atom s.data.toList z = z := by omega
        have := hend (by omega)
        rw [e2, Pl.b_lt _ z (by omega), Pl.at_list s z hzs, hat] at this
        cases this
    have hrun := scan_run s.data.toList _ z _ false (Nat.le_refl _) hzZ (by omega) hall
    have hstep := Step.atom (s := s) (a := a) z hst hzs hat
    have htx : (s.extract z (Pl.stop Pl.atom s.data.toList z)).data.toList = (s.data.toList.drop z).take (Pl.stop Pl.atom s.data.toList z - z) := by rw [Pl.ext_data]
    generalize Pl.stop Pl.atom s.data.toList z = Z at *
    rw [hrun] at hsc
    by_cases hZs : Z = s.size
    · refine ⟨[⟨1, s.extract z Z, z⟩], .cons a Z _ [] hstep (by omega) (by omega) (.nil Z (.fin ?_)), ?_, by simp, ?_⟩
      · rw [hZs]
        exact stop_here _ _ _ (by omega) (fun h => by omega)
      · intro t ht
        rw [List.mem_singleton.1 ht]
      · rw [jn, List.append_nil, htx, List.take_of_length_le (by simp; omega)]
    · have hZl : Z < s.data.toList.length := by omega
      have hna := hend (by omega)
      rw [Pl.b_lt _ Z hZl] at hna
      have h32 : s.data.toList[Z] = 32 := by
        by_cases e : s.data.toList[Z] = 32
        · exact e
        · rw [scan_bad 32 _ Z true hZl hna (.inl e)] at hsc; cases hsc
      rw [scan_blank 32 _ Z hZl hna h32] at hsc
      obtain ⟨hz2, hat2⟩ := scan_first _ (Z + 1) hsc
      have hstop2 : Pl.stop Pl.blank s.data.toList Z = Z + 1 := by
        refine Pl.stop_eq Pl.blank _ Z (Z + 1) (by omega) (by omega) (fun j h1 h2 => ?_) (fun h => ?_)
        · obtain rfl : j = Z := by omega
          rw [Pl.b_lt _ j hZl, h32]; rfl
        · rw [Pl.b_lt _ (Z + 1) hz2]
          exact atom_not_blank _ hat2
      obtain ⟨m, hm⟩ : ∃ m, n = m + 1 := ⟨n - 1, by omega⟩
      obtain ⟨T, hT, hk, hne, hj⟩ := atoms_toks s m Z (Z + 1) (by omega) hstop2 (by omega) hsc
      refine ⟨⟨1, s.extract z Z, z⟩ :: T, .cons a Z _ T hstep (by omega) (by omega) hT, ?_, by simp, ?_⟩
      · intro t ht
        rcases List.mem_cons.1 ht with rfl | ht
        · rfl
        · exact hk t ht
      · cases T with
        | nil => exact absurd rfl hne
        | cons t r =>
          rw [jn, hj, htx]
          have e : 32 :: s.data.toList.drop (Z + 1) = s.data.toList.drop Z := by rw [List.drop_eq_getElem_cons hZl, h32]
          rw [e]
          have e2 : s.data.toList.drop Z = (s.data.toList.drop z).drop (Z - z) := by rw [List.drop_drop]; congr 1; omega
          rw [e2, List.take_append_drop]
  termination_by n => n
theorem tb_clean (c : UInt8) (h : Pl.tb c = true) : (c == 13) = false ∧ Pl.lb c = true := by
  unfold Pl.tb at h
  rw [Bool.and_eq_true, decide_eq_true_eq] at h
  have n13 : (c == 13) = false := by
    cases e : (c == 13) with
    | false => rfl
    | true => rw [beq_iff_eq.1 e] at h; exact absurd h.1 (by decide)
  have n10 : (c == 10) = false := by
    cases e : (c == 10) with
    | false => rfl
    | true => rw [beq_iff_eq.1 e] at h; exact absurd h.1 (by decide)
  exact ⟨n13, by unfold Pl.lb; rw [n13, n10]; rfl⟩
theorem clean_of {s : ByteArray} (h : ∀ c ∈ s.data.toList, (c == 13) = false ∧ Pl.lb c = true) : Clean s := fun i hi => h s[i] (by
  have : s.data.toList[i]'(by simpa using hi) = s[i] := Pl.at_list s i hi
  rw [← this]
  exact List.getElem_mem _)
theorem qs_clean : ∀ (l : List UInt8), l.all Pl.tb = true → ∀ c ∈ Pl.qs l, (c == 13) = false ∧ Pl.lb c = true
  | [], _ => fun c h => absurd h (by simp [Pl.qs])
  | a :: r, h => fun c hc => by
    rw [List.all_cons, Bool.and_eq_true] at h
    have ha : (a == 13) = false ∧ Pl.lb a = true := tb_clean a h.1
    rw [Pl.qs] at hc
    split at hc
    · rcases List.mem_cons.1 hc with rfl | hc
      · exact ⟨rfl, rfl⟩
      · rcases List.mem_cons.1 hc with rfl | hc
        · exact ha
        · exact qs_clean r h.2 c hc
    · rcases List.mem_cons.1 hc with rfl | hc
      · exact ha
      · exact qs_clean r h.2 c hc
theorem qs_len : ∀ (l : List UInt8), (Pl.qs l).length ≤ 2 * l.length
  | [] => by simp [Pl.qs]
  | a :: r => by
    have := qs_len r
    rw [Pl.qs]
    split <;> simp <;> omega
theorem quoted_toks (s : ByteArray) (L : List UInt8) (hs : s.data.toList = 34 :: Pl.qs L ++ [34]) : Toks s 0 [⟨2, ⟨L.toArray⟩, 0⟩] := by
  have hll : s.data.toList.length = s.size := by simp
  have hlen : 2 ≤ s.size := by rw [← hll, hs]; simp
  have h0 : s[0]'(by omega) = 34 := by
    have e : s.data.toList[0]'(by omega) = s[0]'(by omega) := Pl.at_list s 0 (by omega)
    rw [← e]
    simp [hs]
  have hst : Pl.stop Pl.blank s.data.toList 0 = 0 := stop_here _ _ _ (by omega) (fun h => by rw [Pl.b_lt _ 0 h, Pl.at_list s 0 (by omega), h0]; rfl)
  refine .cons 0 s.size _ [] (.quot 0 L hst (by omega) h0 ?_) (by omega) (Nat.le_refl _) (.nil _ (.fin ?_))
  · rw [hs]; simp
  · exact stop_here _ _ _ (by omega) (fun h => by omega)
end Go.Proofs.YtgibjilghnnnmaaDoor
